/-
  curve.gathered: a triple as a point.
  The law's names.
  Boxes, rows and bytes across the worlds that a walk goes through. Plain facts.
-/
import Derived.Test.YtcijjmncilciiaaDoorZEcGToCvInv
import Derived.Test.YtcijjmncilciiaaDoorZCvOwnToCvBase
import Derived.Deep.DeepCutAuto
import Derived.Test.YtcijjmncilciiaaDoorZCvNamToBts
namespace Go.Proofs.YtcijjmncilciiaaDoor
open Go.RowKit Go.IntWalk
attribute [local go_sem ↓] ld_num st_num ld_pln st_pln ld_ops st_ops ld_pnt st_pnt ld_dig st_dig ld_tri st_tri eq_num ne_num eq_pnt ne_pnt bd_pnt

/-- A triple's coordinates, as they are told. -/
def gxy (x z : Int) : Int := mm (mm x (mpw z EE)) 1

theorem ldT {T : TypeId} {w : World} {g : Nat} {x0 x1 x2 x3 y0 y1 y2 y3 z0 z1 z2 z3 : Int} (h : Blk T w g (T12 x0 x1 x2 x3 y0 y1 y2 y3 z0 z1 z2 z3)) :
    (ldA 70 (.pointer (some ⟨g, 0, none⟩))).run Tryd.prog w = .ok (.agg #[.int .u64 x0, .int .u64 x1, .int .u64 x2, .int .u64 x3]) w ∧ (ldA 70 (.pointer (some ⟨g, 4, none⟩))).run Tryd.prog w = .ok (.agg #[.int .u64 y0, .int .u64 y1, .int .u64 y2, .int .u64 y3]) w ∧ (ldA 70 (.pointer (some ⟨g, 8, none⟩))).run Tryd.prog w = .ok (.agg #[.int .u64 z0, .int .u64 z1, .int .u64 z2, .int .u64 z3]) w :=
  ⟨ldA_mid (A := []) (X := L4 x0 x1 x2 x3) (C := L4 y0 y1 y2 y3 ++ L4 z0 z1 z2 z3) Tryd.underlying70 rfl (by kernel_rfl) h rfl, ldA_mid (A := L4 x0 x1 x2 x3) (X := L4 y0 y1 y2 y3) (C := L4 z0 z1 z2 z3) Tryd.underlying70 rfl (by kernel_rfl) h rfl, ldA_mid (A := L4 x0 x1 x2 x3 ++ L4 y0 y1 y2 y3) (X := L4 z0 z1 z2 z3) (C := []) Tryd.underlying70 rfl (by kernel_rfl) h rfl⟩

set_option maxRecDepth 100000 in
set_option maxHeartbeats 2000000 in
theorem gathered_far (x0 x1 x2 x3 y0 y1 y2 y3 : Int) (b0 b1 b2 b3 : Int) (w : World) (hC : Cv w) :
    Calls Tryd.prog 31 #[.agg (T12 x0 x1 x2 x3 y0 y1 y2 y3 0 0 0 0).toArray, .agg (opL b0 b1 b2 b3).toArray] w fun e w' => e = .returned (.agg (pL z32 z32 true).toArray) ∧ Below w.heap.size w w' := by
  obtain ⟨z0, hz0⟩ : ∃ z : Int, z = 0 := ⟨_, rfl⟩
  obtain ⟨z1, hz1⟩ : ∃ z : Int, z = 0 := ⟨_, rfl⟩
  obtain ⟨z2, hz2⟩ : ∃ z : Int, z = 0 := ⟨_, rfl⟩
  obtain ⟨z3, hz3⟩ : ∃ z : Int, z = 0 := ⟨_, rfl⟩
  have heq := eqB_num z0 z1 z2 z3 0 0 0 0
  rw [show eqB z0 z1 z2 z3 0 0 0 0 = true by rw [hz0, hz1, hz2, hz3]; rfl] at heq
  rw [show T12 x0 x1 x2 x3 y0 y1 y2 y3 0 0 0 0 = T12 x0 x1 x2 x3 y0 y1 y2 y3 z0 z1 z2 z3 by rw [hz0, hz1, hz2, hz3]]
  clear hz0 hz1 hz2 hz3
  have HT : Hid (Blk 72 (((w.alloc (.cells (T12 x0 x1 x2 x3 y0 y1 y2 y3 z0 z1 z2 z3).toArray 72)).alloc (.cells (opL b0 b1 b2 b3).toArray 67)).alloc (.cells Tryd.zeroCells25 25)) w.heap.size (T12 x0 x1 x2 x3 y0 y1 y2 y3 z0 z1 z2 z3)) := ((Blk.new w _ _ _ rfl rfl).alloc _).alloc _
  have HO : Hid (Blk 67 (((w.alloc (.cells (T12 x0 x1 x2 x3 y0 y1 y2 y3 z0 z1 z2 z3).toArray 72)).alloc (.cells (opL b0 b1 b2 b3).toArray 67)).alloc (.cells Tryd.zeroCells25 25)) (w.heap.size + 1) (opL b0 b1 b2 b3)) := (Blk.new _ _ _ _ rfl (by simp)).alloc _
  have HZ : Hid (Blk 25 (((w.alloc (.cells (T12 x0 x1 x2 x3 y0 y1 y2 y3 z0 z1 z2 z3).toArray 72)).alloc (.cells (opL b0 b1 b2 b3).toArray 67)).alloc (.cells Tryd.zeroCells25 25)) (w.heap.size + 1 + 1) PZ) := Blk.new _ PZ _ _ zc_pnt (by simp)
  have HU : Hid (Below w.heap.size w (((w.alloc (.cells (T12 x0 x1 x2 x3 y0 y1 y2 y3 z0 z1 z2 z3).toArray 72)).alloc (.cells (opL b0 b1 b2 b3).toArray 67)).alloc (.cells Tryd.zeroCells25 25))) := below3 w _ _ _
  have HC : Hid (Cv (((w.alloc (.cells (T12 x0 x1 x2 x3 y0 y1 y2 y3 z0 z1 z2 z3).toArray 72)).alloc (.cells (opL b0 b1 b2 b3).toArray 67)).alloc (.cells Tryd.zeroCells25 25))) := ((hC.alloc _).alloc _).alloc _
  obtain ⟨_, _, lz⟩ := ldT HT.out
  have hone1 := T12_one x0 x1 x2 x3 y0 y1 y2 y3 z0 z1 z2 z3
  have hone2 := opL_one b0 b1 b2 b3
  have hbd := bd_far
  have hst := stPt (f := true) (X := z32) (Y := z32) rfl rfl HZ.out rfl
  have HF := hide (blk_all (vs := pL z32 z32 true) HZ.out rfl)
  have HLF : Hid ((Tryd.prog.info? 25).map (·.size) = some (pL z32 z32 true).length) := info_pnt
  generalize pL z32 z32 true = LF at *
  generalize T12 x0 x1 x2 x3 y0 y1 y2 y3 z0 z1 z2 z3 = LT at *
  generalize opL b0 b1 b2 b3 = LO at *
  clear hC
  go_enter Tryd.func31, Tryd.ntmps31
  go_wp2
  refine bodyPost_ret (v := .agg LF.toArray) ?_ rfl ⟨rfl, below_sets HU.out (by omega) HU.out.size _ _⟩
  exact res_one (T := 25) (p := 4) (ty := 25) (g := w.heap.size + 1 + 1) (X := LF) (by kernel_rfl) _ _ rfl Tryd.underlying25 rfl HLF.out HF.out

/-- What stays while gathered runs. -/
structure Gk (w : World) (x0 x1 x2 x3 y0 y1 y2 y3 z0 z1 z2 z3 b0 b1 b2 b3 o0 o1 o2 o3 : Int) (g : Nat) (W : World) : Prop where
  t : Blk 72 W w.heap.size (T12 x0 x1 x2 x3 y0 y1 y2 y3 z0 z1 z2 z3)
  o : Blk 67 W (w.heap.size + 1) (opL b0 b1 b2 b3)
  z : Blk 25 W (w.heap.size + 1 + 1) PZ
  v : Blk 70 W g (L4 o0 o1 o2 o3)
  hg : w.heap.size + 1 + 1 < g
  bl : Below w.heap.size w W
theorem Gk.below {w W V : World} {x0 x1 x2 x3 y0 y1 y2 y3 z0 z1 z2 z3 b0 b1 b2 b3 o0 o1 o2 o3 : Int} {g : Nat} (h : Gk w x0 x1 x2 x3 y0 y1 y2 y3 z0 z1 z2 z3 b0 b1 b2 b3 o0 o1 o2 o3 g W) (b : Below W.heap.size W V) : Gk w x0 x1 x2 x3 y0 y1 y2 y3 z0 z1 z2 z3 b0 b1 b2 b3 o0 o1 o2 o3 g V :=
  ⟨h.t.below b, h.o.below b, h.z.below b, h.v.below b, h.hg, below_then h.bl b⟩
theorem Gk.drew {w W : World} {x0 x1 x2 x3 y0 y1 y2 y3 z0 z1 z2 z3 b0 b1 b2 b3 o0 o1 o2 o3 : Int} {g : Nat} (h : Gk w x0 x1 x2 x3 y0 y1 y2 y3 z0 z1 z2 z3 b0 b1 b2 b3 o0 o1 o2 o3 g W) : Gk w x0 x1 x2 x3 y0 y1 y2 y3 z0 z1 z2 z3 b0 b1 b2 b3 o0 o1 o2 o3 g W.drew :=
  ⟨h.t.heap rfl, h.o.heap rfl, h.z.heap rfl, h.v.heap rfl, h.hg, ⟨h.bl.os, h.bl.tape, h.bl.output, h.bl.size, h.bl.block⟩⟩
theorem gat_S {T T' T'' : TypeId} {W : World} {gt go gv : Nat} {x0 x1 x2 x3 y0 y1 y2 y3 z0 z1 z2 z3 b0 b1 b2 b3 o0 o1 o2 o3 : Int} (t : Blk T W gt (T12 x0 x1 x2 x3 y0 y1 y2 y3 z0 z1 z2 z3)) (o : Blk T' W go (opL b0 b1 b2 b3)) (v : Blk T'' W gv (L4 o0 o1 o2 o3)) :
    W.cell? ⟨go, 2, none⟩ = some (.func (.func 62) #[] #[]) ∧ (ldA 70 (.pointer (some ⟨gt, 0, none⟩))).run Tryd.prog W = .ok (.agg #[.int .u64 x0, .int .u64 x1, .int .u64 x2, .int .u64 x3]) W ∧ (ldA 70 (.pointer (some ⟨gt, 4, none⟩))).run Tryd.prog W = .ok (.agg #[.int .u64 y0, .int .u64 y1, .int .u64 y2, .int .u64 y3]) W ∧ (ldA 70 (.pointer (some ⟨gv, 0, none⟩))).run Tryd.prog W = .ok (.agg #[.int .u64 o0, .int .u64 o1, .int .u64 o2, .int .u64 o3]) W :=
  ⟨(opcells o).2.2.1, (ldT t).1, (ldT t).2.1, ld4 v⟩

set_option maxRecDepth 100000 in
set_option maxHeartbeats 4000000 in
theorem gathered_near (x0 x1 x2 x3 y0 y1 y2 y3 z0 z1 z2 z3 x y z : Int) (hx : Nw x0 x1 x2 x3 x) (hy : Nw y0 y1 y2 y3 y) (hz : Nw z0 z1 z2 z3 z) (hne : z ≠ 0) (b0 b1 b2 b3 : Int) (w : World) (hC : Cv w) :
    Calls Tryd.prog 31 #[.agg (T12 x0 x1 x2 x3 y0 y1 y2 y3 z0 z1 z2 z3).toArray, .agg (opL b0 b1 b2 b3).toArray] w fun e w' => e = .returned (.agg (pL (be (gxy x z)) (be (gxy y z)) false).toArray) ∧ Below w.heap.size w w' := by
  have heq := eqB_num z0 z1 z2 z3 0 0 0 0
  rw [eqB_nw hz nw_zero, decide_eq_false hne] at heq
  have HT : Hid (Blk 72 (((w.alloc (.cells (T12 x0 x1 x2 x3 y0 y1 y2 y3 z0 z1 z2 z3).toArray 72)).alloc (.cells (opL b0 b1 b2 b3).toArray 67)).alloc (.cells Tryd.zeroCells25 25)) w.heap.size (T12 x0 x1 x2 x3 y0 y1 y2 y3 z0 z1 z2 z3)) := ((Blk.new w _ _ _ rfl rfl).alloc _).alloc _
  have HO : Hid (Blk 67 (((w.alloc (.cells (T12 x0 x1 x2 x3 y0 y1 y2 y3 z0 z1 z2 z3).toArray 72)).alloc (.cells (opL b0 b1 b2 b3).toArray 67)).alloc (.cells Tryd.zeroCells25 25)) (w.heap.size + 1) (opL b0 b1 b2 b3)) := (Blk.new _ _ _ _ rfl (by simp)).alloc _
  have HZ : Hid (Blk 25 (((w.alloc (.cells (T12 x0 x1 x2 x3 y0 y1 y2 y3 z0 z1 z2 z3).toArray 72)).alloc (.cells (opL b0 b1 b2 b3).toArray 67)).alloc (.cells Tryd.zeroCells25 25)) (w.heap.size + 1 + 1) PZ) := Blk.new _ PZ _ _ zc_pnt (by simp)
  have HU : Hid (Below w.heap.size w (((w.alloc (.cells (T12 x0 x1 x2 x3 y0 y1 y2 y3 z0 z1 z2 z3).toArray 72)).alloc (.cells (opL b0 b1 b2 b3).toArray 67)).alloc (.cells Tryd.zeroCells25 25))) := below3 w _ _ _
  have HC : Hid (Cv (((w.alloc (.cells (T12 x0 x1 x2 x3 y0 y1 y2 y3 z0 z1 z2 z3).toArray 72)).alloc (.cells (opL b0 b1 b2 b3).toArray 67)).alloc (.cells Tryd.zeroCells25 25))) := ((hC.alloc _).alloc _).alloc _
  obtain ⟨_, _, lz⟩ := ldT HT.out
  have hone1 := T12_one x0 x1 x2 x3 y0 y1 y2 y3 z0 z1 z2 z3
  have hone2 := opL_one b0 b1 b2 b3
  have HIN : Hid (∀ W, Cv W → Calls Tryd.prog 67 #[.agg #[.int .u64 z0, .int .u64 z1, .int .u64 z2, .int .u64 z3]] W (Rn (mpw z EE) W)) := fun W hW => inverse_any z0 z1 z2 z3 z hz W hW
  have HTX : Hid (∀ o0 o1 o2 o3, Nw o0 o1 o2 o3 (mpw z EE) → ∀ W, Calls Tryd.prog 62 #[.agg #[.int .u64 x0, .int .u64 x1, .int .u64 x2, .int .u64 x3], .agg #[.int .u64 o0, .int .u64 o1, .int .u64 o2, .int .u64 o3]] W (Rn (mm x (mpw z EE)) W)) := fun o0 o1 o2 o3 ho W => times_any x0 x1 x2 x3 o0 o1 o2 o3 _ _ hx ho.i0 ho.i1 ho.i2 ho.i3 ho.v W
  have HTY : Hid (∀ o0 o1 o2 o3, Nw o0 o1 o2 o3 (mpw z EE) → ∀ W, Calls Tryd.prog 62 #[.agg #[.int .u64 y0, .int .u64 y1, .int .u64 y2, .int .u64 y3], .agg #[.int .u64 o0, .int .u64 o1, .int .u64 o2, .int .u64 o3]] W (Rn (mm y (mpw z EE)) W)) := fun o0 o1 o2 o3 ho W => times_any y0 y1 y2 y3 o0 o1 o2 o3 _ _ hy ho.i0 ho.i1 ho.i2 ho.i3 ho.v W
  have HLX : Hid (∀ s0 s1 s2 s3, Nw s0 s1 s2 s3 (mm x (mpw z EE)) → ∀ W, Calls Tryd.prog 68 #[.agg #[.int .u64 s0, .int .u64 s1, .int .u64 s2, .int .u64 s3]] W (Rn (gxy x z) W)) := fun s0 s1 s2 s3 hs W => lowered_any s0 s1 s2 s3 _ hs W
  have HLY : Hid (∀ s0 s1 s2 s3, Nw s0 s1 s2 s3 (mm y (mpw z EE)) → ∀ W, Calls Tryd.prog 68 #[.agg #[.int .u64 s0, .int .u64 s1, .int .u64 s2, .int .u64 s3]] W (Rn (gxy y z) W)) := fun s0 s1 s2 s3 hs W => lowered_any s0 s1 s2 s3 _ hs W
  have HDX : Hid (∀ s0 s1 s2 s3, Nw s0 s1 s2 s3 (gxy x z) → ∀ W, Calls Tryd.prog 50 #[.agg #[.int .u64 s0, .int .u64 s1, .int .u64 s2, .int .u64 s3]] W fun e w' => e = .returned (.agg (bV (be (gxy x z))).toArray) ∧ Below W.heap.size W w') := fun s0 s1 s2 s3 hs W => toDigest_any s0 s1 s2 s3 _ hs.i0 hs.i1 hs.i2 hs.i3 hs.v W
  have HDY : Hid (∀ s0 s1 s2 s3, Nw s0 s1 s2 s3 (gxy y z) → ∀ W, Calls Tryd.prog 50 #[.agg #[.int .u64 s0, .int .u64 s1, .int .u64 s2, .int .u64 s3]] W fun e w' => e = .returned (.agg (bV (be (gxy y z))).toArray) ∧ Below W.heap.size W w') := fun s0 s1 s2 s3 hs W => toDigest_any s0 s1 s2 s3 _ hs.i0 hs.i1 hs.i2 hs.i3 hs.v W
  have hlx := be_len (gxy x z)
  have hly := be_len (gxy y z)
  generalize be (gxy x z) = X at *
  generalize be (gxy y z) = Y at *
  have hbd := bd_own2 X Y hlx hly
  have HXL := hide hlx
  have HYL := hide hly
  have HT12 : Hid (T12 x0 x1 x2 x3 y0 y1 y2 y3 z0 z1 z2 z3 = T12 x0 x1 x2 x3 y0 y1 y2 y3 z0 z1 z2 z3) := rfl
  obtain ⟨LT, hLT⟩ : ∃ LT, T12 x0 x1 x2 x3 y0 y1 y2 y3 z0 z1 z2 z3 = LT := ⟨_, rfl⟩
  obtain ⟨LO, hLO⟩ : ∃ LO, opL b0 b1 b2 b3 = LO := ⟨_, rfl⟩
  have HLT := hide hLT
  have HLO := hide hLO
  rw [hLT] at HT HO HZ HU HC lz hone1 ⊢
  rw [hLO] at HT HO HZ HU HC lz hone2 ⊢
  clear hC hx hy hz hne hlx hly hLT hLO HT12
  go_enter Tryd.func31, Tryd.ntmps31
  go_wp2_with fail
  refine (HIN.out _ HC.out).mono ?_
  rintro e w1 ⟨o0, o1, o2, o3, rfl, hO, LB⟩
  have HNO := hide hO
  have hst1 := st4n w1 o0 o1 o2 o3
  have K0 : Hid (Gk w x0 x1 x2 x3 y0 y1 y2 y3 z0 z1 z2 z3 b0 b1 b2 b3 o0 o1 o2 o3 w1.heap.size (w1.alloc (.cells #[.int .u64 o0, .int .u64 o1, .int .u64 o2, .int .u64 o3] 70))) :=
    ⟨by rw [HLT.out]; exact (HT.out.below LB).alloc _, by rw [HLO.out]; exact (HO.out.below LB).alloc _, (HZ.out.below LB).alloc _, Blk.new _ _ _ _ rfl rfl, (HZ.out.below LB).lt, below_then (below_then HU.out LB) (below1 _ _)⟩
  clear LB hO lz
  go_upto_region 4 with fail
  generalize w1.alloc (.cells #[.int .u64 o0, .int .u64 o1, .int .u64 o2, .int .u64 o3] 70) = V at K0 ⊢
  generalize w1.heap.size = gv at K0 ⊢
  clear hst1
  go_region_held3 (fun W => W.cell? ⟨w.heap.size + 1, 2, none⟩ = some (.func (.func 62) #[] #[]) ∧ (ldA 70 (.pointer (some ⟨w.heap.size, 0, none⟩))).run Tryd.prog W = .ok (.agg #[.int .u64 x0, .int .u64 x1, .int .u64 x2, .int .u64 x3]) W ∧ (ldA 70 (.pointer (some ⟨w.heap.size, 4, none⟩))).run Tryd.prog W = .ok (.agg #[.int .u64 y0, .int .u64 y1, .int .u64 y2, .int .u64 y3]) W ∧ (ldA 70 (.pointer (some ⟨gv, 0, none⟩))).run Tryd.prog W = .ok (.agg #[.int .u64 o0, .int .u64 o1, .int .u64 o2, .int .u64 o3]) W) (first | exact gat_S (K6.out.t.other (by omega)) (K6.out.o.other (by omega)) (K6.out.v.other (by have := K6.out.hg; omega)) | exact gat_S K6.out.t K6.out.o K6.out.v | exact gat_S K5.out.t K5.out.o K5.out.v | exact gat_S K4.out.t K4.out.o K4.out.v | exact gat_S K3.out.t K3.out.o K3.out.v | exact gat_S K2.out.t K2.out.o K2.out.v | exact gat_S K1.out.t K1.out.o K1.out.v | exact gat_S K0.out.drew.t K0.out.drew.o K0.out.drew.v) (first | (go_at_call_of 62 x0; refine (HTX.out o0 o1 o2 o3 HNO.out _).mono ?_; rintro e w2 ⟨s0, s1, s2, s3, rfl, HN, LB⟩; have N1 := hide HN; have K1 := hide (K0.out.drew.below LB); clear HN LB) | (go_at_call_of 68 s0; refine (HLX.out s0 s1 s2 s3 N1.out _).mono ?_; rintro e w3 ⟨t0, t1, t2, t3, rfl, HN, LB⟩; have N2 := hide HN; have K2 := hide (K1.out.below LB); clear HN LB) | (go_at_call_of 50 t0; refine (HDX.out t0 t1 t2 t3 N2.out _).mono ?_; rintro e w4 ⟨rfl, LB⟩; have K3 := hide (K2.out.below LB); clear LB) | (go_at_call_of 62 y0; refine (HTY.out o0 o1 o2 o3 HNO.out _).mono ?_; rintro e w5 ⟨p0, p1, p2, p3, rfl, HN, LB⟩; have N3 := hide HN; have K4 := hide (K3.out.below LB); clear HN LB) | (go_at_call_of 68 p0; refine (HLY.out p0 p1 p2 p3 N3.out _).mono ?_; rintro e w6 ⟨q0, q1, q2, q3, rfl, HN, LB⟩; have N4 := hide HN; have K5 := hide (K4.out.below LB); clear HN LB) | (go_at_call_of 50 q0; refine (HDY.out q0 q1 q2 q3 N4.out _).mono ?_; rintro e w7 ⟨rfl, LB⟩; have K6 := hide (K5.out.below LB); clear LB; have hst := stPt (f := false) HXL.out HYL.out K6.out.z rfl))
  go_wp2
  refine bodyPost_ret (v := .agg (pL X Y false).toArray) ?_ rfl ⟨rfl, below_sets K6.out.bl (by omega) K6.out.bl.size _ _⟩
  exact res_one (T := 25) (p := 4) (ty := 25) (g := w.heap.size + 1 + 1) (X := pL X Y false) (by kernel_rfl) _ _ rfl Tryd.underlying25 rfl (by rw [pL_len HXL.out HYL.out]; exact info_pnt) (blk_all K6.out.z (by rw [pL_len HXL.out HYL.out]; rfl))

end Go.Proofs.YtcijjmncilciiaaDoor

namespace Go.Proofs.YtcijjmncilciiaaDoor
open Go.RowKit Go.IntWalk
attribute [local go_sem ↓] ld_num st_num ld_pln st_pln ld_ops st_ops ld_pnt st_pnt ld_dig st_dig ld_tri st_tri eq_num ne_num eq_pnt ne_pnt bd_pnt ld_F st_F eq_F ld_a32 st_a32 ld_rpt st_rpt eq_rpt bd_rpt eq_dgs

theorem eqDg (X Y : List Int) (hX : X.length = 32) (hY : Y.length = 32) (w : World) : (eqA 23 (.agg (bV X).toArray) (.agg (bV Y).toArray)).run Tryd.prog w = .ok (.bool (decide (X = Y))) w := by
  obtain ⟨inf, hinf⟩ := info_u8
  exact eqA_arr Tryd.underlying23 Tryd.underlying5 hinf (by kernel_rfl) X Y hX hY w
theorem eqDs (X : List Int) (hX : X.length = 32) (w : World) : (eqA 23 (.agg (bV X).toArray) (.agg (bV X).toArray)).run Tryd.prog w = .ok (.bool true) w := by
  rw [eqDg X X hX hX w, decide_eq_true rfl]

theorem same_self (X Y : List Int) (f : Bool) (hX : X.length = 32) (hY : Y.length = 32) (w : World) :
    Calls Tryd.prog 14 #[.agg (pL X Y f).toArray, .agg (pL X Y f).toArray] w fun e w' => e = .returned (.bool true) ∧ Below w.heap.size w w' := by
  refine (same_any X Y X Y f f hX hY hX hY w).mono ?_
  rintro e w1 ⟨rfl, LB⟩
  exact ⟨by rw [decide_eq_true ⟨rfl, rfl, rfl⟩], LB⟩

set_option maxRecDepth 100000 in
set_option maxHeartbeats 1000000 in
theorem names_any (w : World) (hC : Cn w) :
    Calls Tryd.prog 10 #[] w fun e w' => e = .returned (.bool true) ∧ Below w.heap.size w w' := by
  have HF : Hid (∀ W, Calls Tryd.prog 32 #[] W fun e w' => e = .returned (.agg (bV (be PP)).toArray) ∧ Below W.heap.size W w') := field_any
  have HO : Hid (∀ W, Cn W → Calls Tryd.prog 18 #[] W fun e w' => e = .returned (.agg (bV (be NN)).toArray) ∧ Below W.heap.size W w') := order_any
  have HP : Hid (∀ W, Calls Tryd.prog 34 #[] W fun e w' => e = .returned (.agg (fV pW).toArray) ∧ Below W.heap.size W w') := rpW_any
  have HN : Hid (∀ W, Calls Tryd.prog 35 #[] W fun e w' => e = .returned (.agg (fV nW).toArray) ∧ Below W.heap.size W w') := rnW_any
  have HTP : Hid (∀ W, Calls Tryd.prog 33 #[.agg (fV pW).toArray] W fun e w' => e = .returned (.agg (bV (be PP)).toArray) ∧ Below W.heap.size W w') := fun W => rto_any pW PP fw_pW W
  have HTN : Hid (∀ W, Calls Tryd.prog 33 #[.agg (fV nW).toArray] W fun e w' => e = .returned (.agg (bV (be NN)).toArray) ∧ Below W.heap.size W w') := fun W => rto_any nW NN fw_nW W
  have HB : Hid (∀ W, Cn W → Calls Tryd.prog 17 #[] W fun e w' => e = .returned (.agg (pL (be GX) (be GY) false).toArray) ∧ Below W.heap.size W w') := base_any
  have HRB : Hid (∀ W, Calls Tryd.prog 36 #[] W fun e w' => e = .returned (.agg (pL (be GX) (be GY) false).toArray) ∧ Below W.heap.size W w') := rbase_any
  have HSM : Hid (∀ W, Calls Tryd.prog 14 #[.agg (pL (be GX) (be GY) false).toArray, .agg (pL (be GX) (be GY) false).toArray] W fun e w' => e = .returned (.bool true) ∧ Below W.heap.size W w') := fun W => same_self _ _ _ (be_len GX) (be_len GY) W
  have e1 := eqDs (be PP) (be_len PP)
  have e2 := eqDs (be NN) (be_len NN)
  generalize bV (be PP) = DP at *
  generalize bV (be NN) = DN at *
  generalize pL (be GX) (be GY) false = LG at *
  generalize fV pW = LP at *
  generalize fV nW = LN at *
  have HC := hide hC
  clear hC
  go_enter Tryd.func10, Tryd.ntmps10
  go_wp2_with (first | (go_at_call 32; refine (HF.out _).mono ?_; rintro e w1 ⟨rfl, LB⟩; have U1 := hide LB; have C1 := hide (HC.out.below LB); clear LB) | (go_at_call 34; refine (HP.out _).mono ?_; rintro e w2 ⟨rfl, LB⟩; have U2 := hide (below_then U1.out LB); have C2 := hide (C1.out.below LB); clear LB) | (go_at_call_of 33 LP; refine (HTP.out _).mono ?_; rintro e w3 ⟨rfl, LB⟩; have U3 := hide (below_then U2.out LB); have C3 := hide (C2.out.below LB); clear LB) | (go_at_call 18; refine (HO.out _ C3.out).mono ?_; rintro e w4 ⟨rfl, LB⟩; have U4 := hide (below_then U3.out LB); have C4 := hide (C3.out.below LB); clear LB) | (go_at_call 35; refine (HN.out _).mono ?_; rintro e w5 ⟨rfl, LB⟩; have U5 := hide (below_then U4.out LB); have C5 := hide (C4.out.below LB); clear LB) | (go_at_call_of 33 LN; refine (HTN.out _).mono ?_; rintro e w6 ⟨rfl, LB⟩; have U6 := hide (below_then U5.out LB); have C6 := hide (C5.out.below LB); clear LB) | (go_at_call 17; refine (HB.out _ C6.out).mono ?_; rintro e w7 ⟨rfl, LB⟩; have U7 := hide (below_then U6.out LB); clear LB) | (go_at_call 36; refine (HRB.out _).mono ?_; rintro e w8 ⟨rfl, LB⟩; have U8 := hide (below_then U7.out LB); clear LB) | (go_at_call 14; refine (HSM.out _).mono ?_; rintro e w9 ⟨rfl, LB⟩; have U9 := hide (below_then U8.out LB); clear LB))
  go_ret
  exact ⟨rfl, U9.out⟩

end Go.Proofs.YtcijjmncilciiaaDoor

namespace Go.Proofs.YtcijjmncilciiaaDoor
open Go.RowKit Go.IntWalk

theorem bcell {W w1 : World} (hb : Below W.heap.size W w1) : (∀ b o, b < W.heap.size → w1.cell? ⟨b, o, none⟩ = W.cell? ⟨b, o, none⟩) ∧ (∀ b o, b < W.heap.size → w1.frozen? ⟨b, o, none⟩ = W.frozen? ⟨b, o, none⟩) :=
  ⟨fun b o h => hb.cell (p := ⟨b, o, none⟩) h, fun b o h => hb.frozen (p := ⟨b, o, none⟩) h⟩

theorem OwnB.toSrc {w : World} {base m c : Nat} {ao : Option Addr} {xs : List Int} (h : OwnB w base (.slice ao m c) xs) (hb : ∀ x ∈ xs, 0 ≤ x ∧ x < 256) : Src w ao m c xs := by
  rcases h.split with ⟨he, hx⟩ | ⟨g, cap, he, h1, h2, h3, h4⟩
  · simp at he
    obtain ⟨rfl, rfl, rfl⟩ := he
    subst hx
    exact ⟨rfl, Nat.le_refl _, by decide, fun _ => ⟨rfl, rfl⟩, fun h => absurd rfl h, by simp⟩
  · simp at he
    obtain ⟨rfl, rfl, rfl⟩ := he
    exact h.src hb _ (Nat.le_refl _) (by simp) h4

/-- A box of two cells: a number and a value; neither is frozen. -/
structure Box (w : World) (b : Nat) (t : Int) (v : Value) : Prop where
  c0 : w.cell? ⟨b, 0, none⟩ = some (.int .i64 t)
  c1 : w.cell? ⟨b, 1, none⟩ = some v
  lt : b < w.heap.size
  fz : ∀ o, w.frozen? ⟨b, o, none⟩ = false

theorem Box.newAt (w : World) (b : Nat) (t : Int) (v : Value) (T : TypeId) (h : b = w.heap.size) : Box (w.alloc (.cells #[.int .i64 t, v] T)) b t v := by
  subst h
  exact ⟨by simp, by simp, by simp, by simp⟩
theorem Box.new (w : World) (t : Int) (v : Value) (T : TypeId) : Box (w.alloc (.cells #[.int .i64 t, v] T)) w.heap.size t v := Box.newAt w _ t v T rfl
theorem Box.below {w w' : World} {b : Nat} {t : Int} {v : Value} (h : Box w b t v) (hb : Below w.heap.size w w') : Box w' b t v :=
  ⟨(hb.cell (p := ⟨b, 0, none⟩) h.lt).trans h.c0, (hb.cell (p := ⟨b, 1, none⟩) h.lt).trans h.c1, Nat.lt_of_lt_of_le h.lt hb.size, fun o => (hb.frozen (p := ⟨b, o, none⟩) h.lt).trans (h.fz o)⟩
theorem Box.heap {w w' : World} {b : Nat} {t : Int} {v : Value} (h : Box w b t v) (e : w'.heap = w.heap) : Box w' b t v := by
  obtain ⟨h1, h2, h3, h4⟩ := h
  exact ⟨by unfold World.cell? at *; rw [e]; exact h1, by unfold World.cell? at *; rw [e]; exact h2, by rw [e]; exact h3, fun o => by have := h4 o; unfold World.frozen? at *; rw [e]; exact this⟩
theorem Box.belowH {w W w' : World} {b : Nat} {t : Int} {v : Value} (h : Box w b t v) (hb : Below W.heap.size W w') (e : W.heap = w.heap) : Box w' b t v := (h.heap e).below hb
theorem Box.alloc {w : World} {b : Nat} {t : Int} {v : Value} (h : Box w b t v) (o : Obj) : Box (w.alloc o) b t v := h.below ((Below.refl _ _).alloc (Nat.le_refl _) _)
theorem Box.grown {w w' : World} {b : Nat} {t : Int} {v : Value} {row : Option Nat} (h : Box w b t v) (hg : w.grownBy w' row) (hne : some b ≠ row) : Box w' b t v :=
  ⟨hg.cell h.c0 hne, hg.cell h.c1 hne, Nat.lt_of_lt_of_le h.lt hg.size, fun o => (World.frozen?_of_block (hg.block b h.lt hne)).trans (h.fz o)⟩

theorem OwnB.lt {w : World} {base : Nat} {v : Value} {xs : List Int} (h : OwnB w base v xs) : ∀ k, v.ownBlock = some k → base ≤ k ∧ k < w.heap.size := World.ownsRow.lt h

theorem OwnB.belowA {w w' : World} {base : Nat} {v : Value} {xs : List Int} (h : OwnB w base v xs) (hb : Below w.heap.size w w') : OwnB w' base v xs :=
  h.below hb (fun k hk => (h.lt k hk).2)

/-- Bytes that lie at or above a block number, or below it, are apart from a row that lies elsewhere. -/
theorem Src.apart {w w' : World} {ao : Option Addr} {n cap : Nat} {xs : List Int} {v : Value} (h : Src w ao n cap xs) (hg : w.grownBy w' v.ownBlock)
    (hne : ∀ b off, ao = some ⟨b, off, none⟩ → xs ≠ [] → v.ownBlock ≠ some b) : Src w' ao n cap xs :=
  h.grown hg fun b off he hx h' => hne b off he hx h'.symm

theorem own_apart {w u : World} {base base' n m c c' : Nat} {a a' : Option Addr} {xs ys : List Int} (h : OwnB w base (.slice a n c) xs) (h' : OwnB u base' (.slice a' m c') ys) (hlt : w.heap.size ≤ base') :
    ∀ b off, a' = some ⟨b, off, none⟩ → ys ≠ [] → (Value.slice a n c).ownBlock ≠ some b := by
  intro b off he _ hk
  subst he
  have h1 := (h.lt b hk).2
  have h2 := (h'.lt b rfl).1
  omega

theorem OwnB.ne_row {w : World} {base : Nat} {v : Value} {xs : List Int} (h : OwnB w base v xs) {b : Nat} (hb : b < base ∨ w.heap.size ≤ b) : some b ≠ v.ownBlock := by
  intro he
  have := h.lt b he.symm
  omega

theorem Src.blk {w : World} {ao : Option Addr} {n cap : Nat} {xs : List Int} (h : Src w ao n cap xs) : ∀ b off, ao = some ⟨b, off, none⟩ → xs ≠ [] → b < w.heap.size := by
  intro b off he hx
  obtain ⟨b', off', he', hc⟩ := h.hrd hx
  rw [he] at he'
  simp at he'
  obtain ⟨rfl, rfl⟩ := he'
  exact lt_of_cell (hc 0 (by cases xs with | nil => exact absurd rfl hx | cons a r => simp))

theorem Src.belowH {w W w' : World} {ao : Option Addr} {n cap : Nat} {xs : List Int} (h : Src w ao n cap xs) (hb : Below W.heap.size W w') (e : W.heap = w.heap) : Src w' ao n cap xs := (h.heap e).below hb

theorem step_below {B : Nat} {w a w' : World} (h : Below B w a) (hB : B ≤ a.heap.size) (o : Obj) (hb : Below (a.alloc o).heap.size (a.alloc o) w') : Below B w w' :=
  (h.alloc hB o).trans (hb.mono (by simp; omega))

/-- A world that has drawn more, and no more. -/
structure Drawn (w W : World) : Prop where
  os : W.os = w.os
  tape : W.tape = w.tape
  output : W.output = w.output
  heap : W.heap = w.heap

theorem Drawn.refl (w : World) : Drawn w w := ⟨rfl, rfl, rfl, rfl⟩
theorem Drawn.more {w W : World} (h : Drawn w W) (q : Nat) : Drawn w (W.drewN q) := ⟨h.os, h.tape, h.output, h.heap⟩
theorem Drawn.cell {w W : World} (h : Drawn w W) (a : Addr) : W.cell? a = w.cell? a := by unfold World.cell?; rw [h.heap]
theorem Drawn.below {w W w0 : World} {B : Nat} (h : Drawn w W) (hb : Below B w0 w) : Below B w0 W := ⟨h.os.trans hb.os, h.tape.trans hb.tape, h.output.trans hb.output, by rw [h.heap]; exact hb.size, fun k hk => by rw [h.heap]; exact hb.block k hk⟩

end Go.Proofs.YtcijjmncilciiaaDoor
