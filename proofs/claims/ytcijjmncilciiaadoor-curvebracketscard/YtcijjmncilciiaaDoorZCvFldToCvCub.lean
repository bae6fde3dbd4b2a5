/-
  curve.fieldOperations, thrice, products, cubic.
  curve's thrice, products and cubic.
-/
import Derived.Test.YtcijjmncilciiaaDoorZCvEqToCvLift
import Derived.Deep.WholeRow
namespace Go.Proofs.YtcijjmncilciiaaDoor
open Go.RowKit Go.IntWalk

attribute [local go_sem ↓] ld_num st_num ld_pln st_pln ld_ops st_ops

/-- The chapter's b, and b as it is reckoned with. -/
def BC : Int := 41058363725152142129326129780047268409114441015993725554835256314039467401291
def BM : Int := mm BC SQ
theorem bc_v : V4 4309448131093880907 7285987128567378166 12964664127075681980 6540974713487397863 = BC := by decide

theorem st4n (w : World) (a0 a1 a2 a3 : Int) : (stA 70 (.pointer (some ⟨w.heap.size, 0, none⟩)) (.agg #[.int .u64 a0, .int .u64 a1, .int .u64 a2, .int .u64 a3])).run Tryd.prog (w.alloc (.cells #[.int .u64 0, .int .u64 0, .int .u64 0, .int .u64 0] 70)) = .ok () (w.alloc (.cells #[.int .u64 a0, .int .u64 a1, .int .u64 a2, .int .u64 a3] 70)) :=
  run_storeAt_new (P := Tryd.prog) w 70 #[.int .u64 0, .int .u64 0, .int .u64 0, .int .u64 0] #[.int .u64 a0, .int .u64 a1, .int .u64 a2, .int .u64 a3] (by kernel_rfl) rfl (all_oneCell_toArray (L4_one a0 a1 a2 a3))

/-- The operations that the formulas are handed: those of the field, and those with b. -/
def opL (b0 b1 b2 b3 : Int) : List Value := [.func (.func 60) #[] #[], .func (.func 61) #[] #[], .func (.func 62) #[] #[], .func (.func 60) #[.agg #[.int .u64 b0, .int .u64 b1, .int .u64 b2, .int .u64 b3]] #[], .func (.func 62) #[.agg #[.int .u64 b0, .int .u64 b1, .int .u64 b2, .int .u64 b3]] #[]]
theorem opL_one (b0 b1 b2 b3 : Int) : ∀ v ∈ opL b0 b1 b2 b3, v.oneCell' = true := by
  intro v hv
  simp only [opL, List.mem_cons, List.not_mem_nil, or_false] at hv
  rcases hv with rfl | rfl | rfl | rfl | rfl <;> rfl
theorem ldO {T : TypeId} {w : World} {g : Nat} {b0 b1 b2 b3 : Int} (h : Blk T w g (opL b0 b1 b2 b3)) : (ldA 67 (.pointer (some ⟨g, 0, none⟩))).run Tryd.prog w = .ok (.agg (opL b0 b1 b2 b3).toArray) w :=
  ldA_all Tryd.underlying67 rfl (by kernel_rfl) h

/-- What fieldOperations answers. -/
def Do (v : Value) : Prop := ∃ b0 b1 b2 b3, v = .agg (opL b0 b1 b2 b3).toArray ∧ Nw b0 b1 b2 b3 BM

set_option maxRecDepth 100000 in
set_option maxHeartbeats 1000000 in
theorem ops_any (w : World) (hC : Cv w) :
    Calls Tryd.prog 27 #[] w fun e w' => ∃ b0 b1 b2 b3, e = .returned (.agg (opL b0 b1 b2 b3).toArray) ∧ Nw b0 b1 b2 b3 BM ∧ Below w.heap.size w w' := by
  have HL : Hid (∀ W, Cv W → Calls Tryd.prog 59 #[.agg #[.int .u64 4309448131093880907, .int .u64 7285987128567378166, .int .u64 12964664127075681980, .int .u64 6540974713487397863]] W (Lf BC W)) := fun W hW => lifted_any _ _ _ _ BC ⟨by decide, by decide⟩ ⟨by decide, by decide⟩ ⟨by decide, by decide⟩ ⟨by decide, by decide⟩ bc_v W hW
  have hgl : ∀ W : World, Cv W → (ldA 99 (.pointer (some ⟨3, 0, none⟩))).run Tryd.prog W = .ok (.agg #[.int .u64 4309448131093880907, .int .u64 7285987128567378166, .int .u64 12964664127075681980, .int .u64 6540974713487397863]) W := fun W hW => ldA_range Tryd.underlying99 rfl (by kernel_rfl) hW.co
  have HG := hide hgl
  clear hgl
  go_enter Tryd.func27, Tryd.ntmps27
  have HC0 := hide (hC.alloc (.cells #[.nilFunc, .nilFunc, .nilFunc, .nilFunc, .nilFunc] 67))
  have hgl0 := HG.out _ HC0.out
  go_wp2_with fail
  refine (HL.out _ HC0.out).mono ?_
  rintro e w1 ⟨b0, b1, b2, b3, rfl, HN, LB⟩
  have hst := st4n w1 b0 b1 b2 b3
  have hK : Blk 70 (w1.alloc (.cells #[.int .u64 b0, .int .u64 b1, .int .u64 b2, .int .u64 b3] 70)) w1.heap.size (L4 b0 b1 b2 b3) := Blk.new _ _ _ _ rfl rfl
  have hld := ld4 hK
  have HK := hide hK
  clear hK
  have HN : Nw b0 b1 b2 b3 BM := by have hlt : BC < PP := by decide
                                    rw [if_pos hlt] at HN; exact HN
  have HN := hide HN
  have hO : Blk 67 (w1.alloc (.cells #[.int .u64 b0, .int .u64 b1, .int .u64 b2, .int .u64 b3] 70)) w.heap.size [.nilFunc, .nilFunc, .nilFunc, .nilFunc, .nilFunc] := ((Blk.new w _ _ _ rfl rfl).below LB).alloc _
  have hso := stA_all (t := 67) (vs := opL b0 b1 b2 b3) (by kernel_rfl) hO rfl (opL_one _ _ _ _)
  simp only [opL] at hso
  have HO := hide hO
  have LB1 := hide ((below_then (below1 w _) LB).alloc (below_then (below1 w _) LB).size (.cells #[.int .u64 b0, .int .u64 b1, .int .u64 b2, .int .u64 b3] 70))
  clear hO LB hC
  go_wp2
  refine bodyPost_ret (v := .agg (opL b0 b1 b2 b3).toArray) ?_ rfl ⟨b0, b1, b2, b3, rfl, HN.out, below_sets LB1.out (Nat.le_refl _) LB1.out.size _ _⟩
  exact res_one (T := 67) (p := 0) (ty := 67) (g := w.heap.size) (X := opL b0 b1 b2 b3) (by kernel_rfl) _ _ rfl Tryd.underlying67 rfl (by kernel_rfl) (blk_all HO.out rfl)

end Go.Proofs.YtcijjmncilciiaaDoor

namespace Go.Proofs.YtcijjmncilciiaaDoor
open Go.RowKit Go.IntWalk

attribute [local go_sem ↓] ld_num st_num ld_pln st_pln ld_ops st_ops

theorem opcells {T : TypeId} {w : World} {g : Nat} {b0 b1 b2 b3 : Int} (h : Blk T w g (opL b0 b1 b2 b3)) :
    w.cell? ⟨g, 0, none⟩ = some (.func (.func 60) #[] #[]) ∧ w.cell? ⟨g, 1, none⟩ = some (.func (.func 61) #[] #[]) ∧ w.cell? ⟨g, 2, none⟩ = some (.func (.func 62) #[] #[]) ∧ w.cell? ⟨g, 3, none⟩ = some (.func (.func 60) #[.agg #[.int .u64 b0, .int .u64 b1, .int .u64 b2, .int .u64 b3]] #[]) ∧ w.cell? ⟨g, 4, none⟩ = some (.func (.func 62) #[.agg #[.int .u64 b0, .int .u64 b1, .int .u64 b2, .int .u64 b3]] #[]) := by
  refine ⟨?_, ?_, ?_, ?_, ?_⟩ <;> rw [h.cell] <;> rfl

theorem thr_S {T T' : TypeId} {W : World} {g h : Nat} {b0 b1 b2 b3 a0 a1 a2 a3 : Int} (hO : Blk T W g (opL b0 b1 b2 b3)) (hX : Blk T' W h (L4 a0 a1 a2 a3)) :
    W.cell? ⟨g, 0, none⟩ = some (.func (.func 60) #[] #[]) ∧ (ldA 70 (.pointer (some ⟨h, 0, none⟩))).run Tryd.prog W = .ok (.agg #[.int .u64 a0, .int .u64 a1, .int .u64 a2, .int .u64 a3]) W := ⟨(opcells hO).1, ld4 hX⟩

theorem Blk.other {T : TypeId} {w : World} {g : Nat} {L : List Value} (h : Blk T w g L) {k o : Nat} {vs : List Value} (hne : g ≠ k) : Blk T (w.setCells k o vs) g L := h.kept (gSets k vs o w).1 (by simpa using hne)

/-- The worlds in which a call has its boxes. -/
def W3 (w : World) (A B C : List Value) (s t u : TypeId) : World := ((w.alloc (.cells A.toArray s)).alloc (.cells B.toArray t)).alloc (.cells C.toArray u)
theorem W3_a (w : World) (A B C : List Value) (s t u : TypeId) : Blk s (W3 w A B C s t u) w.heap.size A := ((Blk.new w _ _ _ rfl rfl).alloc _).alloc _
theorem W3_b (w : World) (A B C : List Value) (s t u : TypeId) : Blk t (W3 w A B C s t u) (w.heap.size + 1) B := (Blk.new _ _ _ _ rfl (by simp)).alloc _
theorem W3_c (w : World) (A B C : List Value) (s t u : TypeId) : Blk u (W3 w A B C s t u) (w.heap.size + 1 + 1) C := Blk.new _ _ _ _ rfl (by simp)
theorem W3_w (w : World) (A B C : List Value) (s t u : TypeId) : Below w.heap.size w (W3 w A B C s t u) := below3 w _ _ _

set_option maxRecDepth 100000 in
set_option maxHeartbeats 1000000 in
theorem thrice_any (b0 b1 b2 b3 a0 a1 a2 a3 x : Int) (ha : Nw a0 a1 a2 a3 x) (w : World) :
    Calls Tryd.prog 66 #[.agg (opL b0 b1 b2 b3).toArray, .agg #[.int .u64 a0, .int .u64 a1, .int .u64 a2, .int .u64 a3]] w (Rn (pa (pa x x) x) w) := by
  have HA := hide ha
  have O0 := hide (W3_a w (opL b0 b1 b2 b3) (L4 a0 a1 a2 a3) (L4 0 0 0 0) 67 70 70)
  have X0 := hide (W3_b w (opL b0 b1 b2 b3) (L4 a0 a1 a2 a3) (L4 0 0 0 0) 67 70 70)
  have Z0 := hide (W3_c w (opL b0 b1 b2 b3) (L4 a0 a1 a2 a3) (L4 0 0 0 0) 67 70 70)
  have L0 := hide (W3_w w (opL b0 b1 b2 b3) (L4 a0 a1 a2 a3) (L4 0 0 0 0) 67 70 70)
  clear ha
  go_enter Tryd.func66, Tryd.ntmps66
  simp only [opL]
  go_wp2
  go_region_held3 (fun W => W.cell? ⟨w.heap.size, 0, none⟩ = some (.func (.func 60) #[] #[]) ∧ (ldA 70 (.pointer (some ⟨w.heap.size + 1, 0, none⟩))).run Tryd.prog W = .ok (.agg #[.int .u64 a0, .int .u64 a1, .int .u64 a2, .int .u64 a3]) W) (first | exact thr_S (O2.out.other (by omega)) (X2.out.other (by omega)) | exact thr_S O2.out X2.out | exact thr_S O1.out X1.out | exact thr_S (O0.out.heap rfl) (X0.out.heap rfl)) (first | (go_at_call 60; refine (plus_any r0 r1 r2 r3 a0 a1 a2 a3 _ _ N1.out HA.out _).mono ?_; rintro e w2 ⟨s0, s1, s2, s3, rfl, HN, LB⟩; have N2 := hide HN; clear HN; have O2 := hide (O1.out.later LB rfl); have X2 := hide (X1.out.later LB rfl); have Z2 := hide (Z1.out.later LB rfl); have L2 := hide (below_then L1.out LB); clear LB; have hst := st4 Z2.out s0 s1 s2 s3) | (go_at_call 60; refine (plus_any a0 a1 a2 a3 a0 a1 a2 a3 _ _ HA.out HA.out _).mono ?_; rintro e w1 ⟨r0, r1, r2, r3, rfl, HN, LB⟩; have N1 := hide HN; clear HN; have O1 := hide (O0.out.later LB rfl); have X1 := hide (X0.out.later LB rfl); have Z1 := hide (Z0.out.later LB rfl); have L1 := hide (below_drew L0.out (by exact ⟨rfl, rfl, rfl, rfl⟩) LB); clear LB))
  go_wp2
  exact ret4 (p := 4) (by kernel_rfl) rfl Z2.out N2.out L2.out (by omega)

/-- What the square of y must be. -/
def cub (x : Int) : Int := pa BM (ps (mm (mm x x) x) (pa (pa x x) x))

theorem cub_S {T T' : TypeId} {W : World} {g h : Nat} {b0 b1 b2 b3 a0 a1 a2 a3 : Int} (hO : Blk T W g (opL b0 b1 b2 b3)) (hX : Blk T' W h (L4 a0 a1 a2 a3)) :
    W.cell? ⟨g, 1, none⟩ = some (.func (.func 61) #[] #[]) ∧ W.cell? ⟨g, 2, none⟩ = some (.func (.func 62) #[] #[]) ∧ W.cell? ⟨g, 3, none⟩ = some (.func (.func 60) #[.agg #[.int .u64 b0, .int .u64 b1, .int .u64 b2, .int .u64 b3]] #[]) ∧ (ldA 67 (.pointer (some ⟨g, 0, none⟩))).run Tryd.prog W = .ok (.agg #[.func (.func 60) #[] #[], .func (.func 61) #[] #[], .func (.func 62) #[] #[], .func (.func 60) #[.agg #[.int .u64 b0, .int .u64 b1, .int .u64 b2, .int .u64 b3]] #[], .func (.func 62) #[.agg #[.int .u64 b0, .int .u64 b1, .int .u64 b2, .int .u64 b3]] #[]]) W ∧ (ldA 70 (.pointer (some ⟨h, 0, none⟩))).run Tryd.prog W = .ok (.agg #[.int .u64 a0, .int .u64 a1, .int .u64 a2, .int .u64 a3]) W :=
  ⟨(opcells hO).2.1, (opcells hO).2.2.1, (opcells hO).2.2.2.1, ldO hO, ld4 hX⟩

set_option maxRecDepth 100000 in
set_option maxHeartbeats 1000000 in
theorem cubic_any (b0 b1 b2 b3 a0 a1 a2 a3 x : Int) (hb : Nw b0 b1 b2 b3 BM) (ha : Nw a0 a1 a2 a3 x) (w : World) :
    Calls Tryd.prog 64 #[.agg #[.int .u64 a0, .int .u64 a1, .int .u64 a2, .int .u64 a3], .agg (opL b0 b1 b2 b3).toArray] w (Rn (cub x) w) := by
  have HA := hide ha
  have HB := hide hb
  have X0 := hide (W3_a w (L4 a0 a1 a2 a3) (opL b0 b1 b2 b3) (L4 0 0 0 0) 70 67 70)
  have O0 := hide (W3_b w (L4 a0 a1 a2 a3) (opL b0 b1 b2 b3) (L4 0 0 0 0) 70 67 70)
  have Z0 := hide (W3_c w (L4 a0 a1 a2 a3) (opL b0 b1 b2 b3) (L4 0 0 0 0) 70 67 70)
  have L0 := hide (W3_w w (L4 a0 a1 a2 a3) (opL b0 b1 b2 b3) (L4 0 0 0 0) 70 67 70)
  clear ha hb
  go_enter Tryd.func64, Tryd.ntmps64
  simp only [opL]
  go_wp2
  go_region_held3 (fun W => W.cell? ⟨w.heap.size + 1, 1, none⟩ = some (.func (.func 61) #[] #[]) ∧ W.cell? ⟨w.heap.size + 1, 2, none⟩ = some (.func (.func 62) #[] #[]) ∧ W.cell? ⟨w.heap.size + 1, 3, none⟩ = some (.func (.func 60) #[.agg #[.int .u64 b0, .int .u64 b1, .int .u64 b2, .int .u64 b3]] #[]) ∧ (ldA 67 (.pointer (some ⟨w.heap.size + 1, 0, none⟩))).run Tryd.prog W = .ok (.agg #[.func (.func 60) #[] #[], .func (.func 61) #[] #[], .func (.func 62) #[] #[], .func (.func 60) #[.agg #[.int .u64 b0, .int .u64 b1, .int .u64 b2, .int .u64 b3]] #[], .func (.func 62) #[.agg #[.int .u64 b0, .int .u64 b1, .int .u64 b2, .int .u64 b3]] #[]]) W ∧ (ldA 70 (.pointer (some ⟨w.heap.size, 0, none⟩))).run Tryd.prog W = .ok (.agg #[.int .u64 a0, .int .u64 a1, .int .u64 a2, .int .u64 a3]) W) (first | exact cub_S (O5.out.other (by omega)) (X5.out.other (by omega)) | exact cub_S O5.out X5.out | exact cub_S O4.out X4.out | exact cub_S O3.out X3.out | exact cub_S O2.out X2.out | exact cub_S O1.out X1.out | exact cub_S (O0.out.heap rfl) (X0.out.heap rfl)) (first | (go_at_call 60; refine (plus_any b0 b1 b2 b3 u0 u1 u2 u3 _ _ HB.out N4.out _).mono ?_; rintro e w5 ⟨v0, v1, v2, v3, rfl, HN, LB⟩; have N5 := hide HN; clear HN; have O5 := hide (O4.out.later LB rfl); have X5 := hide (X4.out.later LB rfl); have Z5 := hide (Z4.out.later LB rfl); have L5 := hide (below_then L4.out LB); clear LB; have hst := st4 Z5.out v0 v1 v2 v3) | (go_at_call 61; refine (minus_any s0 s1 s2 s3 t0 t1 t2 t3 _ _ N2.out N3.out _).mono ?_; rintro e w4 ⟨u0, u1, u2, u3, rfl, HN, LB⟩; have N4 := hide HN; clear HN; have O4 := hide (O3.out.later LB rfl); have X4 := hide (X3.out.later LB rfl); have Z4 := hide (Z3.out.later LB rfl); have L4 := hide (below_then L3.out LB); clear LB) | (go_at_call 66; refine (thrice_any b0 b1 b2 b3 a0 a1 a2 a3 _ HA.out _).mono ?_; rintro e w3 ⟨t0, t1, t2, t3, rfl, HN, LB⟩; have N3 := hide HN; clear HN; have O3 := hide (O2.out.later LB rfl); have X3 := hide (X2.out.later LB rfl); have Z3 := hide (Z2.out.later LB rfl); have L3 := hide (below_then L2.out LB); clear LB) | (go_at_call 62; refine (times_any r0 r1 r2 r3 a0 a1 a2 a3 _ _ N1.out HA.out.i0 HA.out.i1 HA.out.i2 HA.out.i3 HA.out.v _).mono ?_; rintro e w2 ⟨s0, s1, s2, s3, rfl, HN, LB⟩; have N2 := hide HN; clear HN; have O2 := hide (O1.out.later LB rfl); have X2 := hide (X1.out.later LB rfl); have Z2 := hide (Z1.out.later LB rfl); have L2 := hide (below_then L1.out LB); clear LB) | (go_at_call 62; refine (times_any a0 a1 a2 a3 a0 a1 a2 a3 _ _ HA.out HA.out.i0 HA.out.i1 HA.out.i2 HA.out.i3 HA.out.v _).mono ?_; rintro e w1 ⟨r0, r1, r2, r3, rfl, HN, LB⟩; have N1 := hide HN; clear HN; have O1 := hide (O0.out.later LB rfl); have X1 := hide (X0.out.later LB rfl); have Z1 := hide (Z0.out.later LB rfl); have L1 := hide (below_drew L0.out (by exact ⟨rfl, rfl, rfl, rfl⟩) LB); clear LB))
  go_wp2
  exact ret4 (p := 4) (by kernel_rfl) rfl Z5.out N5.out L5.out (by omega)

end Go.Proofs.YtcijjmncilciiaaDoor
