/-
  A point's bytes and the point; the triple and the three numbers that stand for it, and back. Plain facts.
  curve.Mul: so many times a point.
-/
import Derived.Test.YtcijjmncilciiaaDoorZEcSToCvMu
import Derived.Test.YtcijjmncilciiaaDoorZEcDToCrInv
import Derived.Test.YtcijjmncilciiaaDoorZCrPt
import Derived.Test.YtcijjmncilciiaaDoorZCrAt
import Derived.Deep.DeepCutAuto
namespace Go.Proofs.YtcijjmncilciiaaDoor
open Go.RowKit Go.IntWalk

/-- The point that such bytes are; a point's cells. -/
def ptOf (X Y : List Int) (f : Bool) : Option (Int × Int) := if f = true then none else some (dn X, dn Y)
def encX : Option (Int × Int) → List Int
  | none => z32
  | some (x, _) => be x
def encY : Option (Int × Int) → List Int
  | none => z32
  | some (_, y) => be y
def encF (p : Option (Int × Int)) : Bool := p.isNone
theorem encX_len : ∀ p : Option (Int × Int), (encX p).length = 32
  | none => rfl
  | some (_, _) => be_len _
theorem encY_len : ∀ p : Option (Int × Int), (encY p).length = 32
  | none => rfl
  | some (_, _) => be_len _

theorem uu_sq (x : Int) : Cg (uu (mm x SQ)) x := by
  have h : Cg (uu (mm x SQ)) (uu x * uu SQ) := uu_mm (Cg.refl _) (Cg.refl _)
  have e1 : Cg (uu SQ) RR := by
    unfold uu
    rw [← sq_def]
    refine ((Cg.md _).mul (Cg.refl RI)).trans ?_
    have := (Cg.refl RR).mul rri_cg
    rw [Int.mul_one, ← Int.mul_assoc] at this
    exact this
  have e2 : Cg (uu x * RR) x := by
    unfold uu
    rw [Int.mul_assoc, Int.mul_comm RI RR]
    have := (Cg.refl x).mul rri_cg
    rw [Int.mul_one] at this
    exact this
  exact h.trans (((Cg.refl _).mul e1).trans e2)

theorem on_ok {X Y : List Int} {f : Bool} (hX : X.length = 32) (hY : Y.length = 32) (dX : Dg 256 X) (dY : Dg 256 Y) (h : onP X Y f = true) : Ok (ptOf X Y f) := by
  cases f
  · have h' : dn X < PP ∧ dn Y < PP ∧ mm (mm (dn Y) SQ) (mm (dn Y) SQ) = cub (mm (dn X) SQ) := by simpa [onP] using h
    refine ⟨⟨(dn_bd dX hX).1, h'.1⟩, ⟨(dn_bd dY hY).1, h'.2.1⟩, ?_⟩
    have cy := uu_sq (dn Y)
    have cx := uu_sq (dn X)
    have c1 := uu_mm cy cy
    have c2 : Cg (uu (cub (mm (dn X) SQ))) (BB + (dn X * dn X * dn X - (dn X + dn X + dn X))) := uu_pa uu_bm (uu_ps (uu_mm (uu_mm cx cx) cx) (uu_pa (uu_pa cx cx) cx))
    rw [h'.2.2] at c1
    have c3 := c1.symm.trans c2
    have e : dn Y * dn Y - (BB + (dn X * dn X * dn X - (dn X + dn X + dn X))) = cR BB (dn X) (dn Y) := by
      unfold cR
      generalize dn X = x
      generalize dn Y = y
      generalize BB = b
      clear c1 c2 c3 cx cy h h'
      grind
    show D (cR BB (dn X) (dn Y))
    rw [← e]
    exact c3
  · exact True.intro

theorem spread_rep {X Y : List Int} {f : Bool} (hX : X.length = 32) (hY : Y.length = 32) (dX : Dg 256 X) (dY : Dg 256 Y) (h : onP X Y f = true) : RepP (sx X f) (sy Y f) (sz f) (ptOf X Y f) := by
  have hok := on_ok hX hY dX dY h
  cases f
  · refine ⟨mm_bd _ _, mm_bd _ _, ⟨by decide, by decide⟩, hok, ?_, ?_, ?_⟩
    · intro e
      have := (uu_zero (a := ONE) ⟨by decide, by decide⟩).1 e
      exact absurd this (by decide)
    · refine (uu_sq (dn X)).trans ?_
      have := (Cg.refl (dn X)).mul uu_one.symm
      rw [Int.mul_one] at this
      exact this
    · refine (uu_sq (dn Y)).trans ?_
      have := (Cg.refl (dn Y)).mul uu_one.symm
      rw [Int.mul_one] at this
      exact this
  · exact far_repP

theorem at_rep {X Y : List Int} (hX : X.length = 32) (hY : Y.length = 32) (dX : Dg 256 X) (dY : Dg 256 Y) (h : onP X Y false = true) : RepD (mm (dn X) SQ) (mm (dn Y) SQ) ONE (some (dn X, dn Y)) := by
  have hok : Ok (some (dn X, dn Y)) := on_ok hX hY dX dY h
  refine ⟨mm_bd _ _, mm_bd _ _, one_nb, hok, ?_, ?_, ?_⟩
  · intro e
    have := (uu_zero (a := ONE) ⟨by decide, by decide⟩).1 e
    exact absurd this (by decide)
  · refine (uu_sq (dn X)).trans ?_
    have := (Cg.refl (dn X)).mul (uu_one.symm.mul uu_one.symm)
    rw [Int.mul_one, Int.mul_one] at this
    exact this
  · refine (uu_sq (dn Y)).trans ?_
    have := (Cg.refl (dn Y)).mul ((uu_one.symm.mul uu_one.symm).mul uu_one.symm)
    rw [Int.mul_one, Int.mul_one, Int.mul_one] at this
    exact this

theorem mpw_inv {z : Int} (h : ¬ D (uu z)) : Cg (uu z * uu (mpw z EE)) 1 := by
  have h1 : Cg (uu (mpw z EE)) (uu z ^ EE) := uu_mpw (Cg.refl _) EE
  have h2 := (Cg.refl (uu z)).mul h1
  have e : uu z * uu z ^ EE = uu z ^ (PN - 1) := by rw [Int.mul_comm, ← Int.pow_succ]; rfl
  rw [e] at h2
  exact h2.trans (fermat_1 _ h)
theorem low_cg {v V : Int} (h : Cg (uu v) V) : Cg (mm v 1) V := by
  unfold mm
  rw [Int.mul_one]
  exact (Cg.md _).trans h

/-- The program's triple, told as a point. -/
theorem gath_enc {x y z : Int} {p : Option (Int × Int)} (h : RepP x y z p) : pL (gX x z) (gX y z) (decide (z = 0)) = pL (encX p) (encY p) (encF p) := by
  match p, h with
  | none, h =>
    have hz : z = 0 := (uu_zero h.nz).1 h.rep.2.2
    unfold gX
    rw [if_pos hz, if_pos hz, decide_eq_true hz]
    rfl
  | some (a, b), h =>
    have hz : z ≠ 0 := fun e => h.rep.1 ((uu_zero h.nz).2 e)
    have O := rep_out h.ok h.rep (mpw_inv h.rep.1)
    have ex : gxy x z = a := by
      have c : Cg (gxy x z) (uu x * uu (mpw z EE)) := low_cg (uu_mm (Cg.refl _) (Cg.refl _))
      rw [← O.1]
      exact (c.trans (Cg.md _).symm).eq (mm_bd _ _) (md_bd _)
    have ey : gxy y z = b := by
      have c : Cg (gxy y z) (uu y * uu (mpw z EE)) := low_cg (uu_mm (Cg.refl _) (Cg.refl _))
      rw [← O.2]
      exact (c.trans (Cg.md _).symm).eq (mm_bd _ _) (md_bd _)
    unfold gX
    rw [if_neg hz, if_neg hz, decide_eq_false hz, ex, ey]
    rfl

/-- The document's point, of any three numbers that stand for one. -/
theorem rpoint_rep {x y z : Int} {p : Option (Int × Int)} (h : RepD x y z p) (gf : Nat) (w : World) (hF : FF w gf) : Calls Tryd.prog 44 #[.pointer (some ⟨gf, 0, none⟩), .agg (j3 x y z).toArray] w (Ans (.agg (pL (encX p) (encY p) (encF p)).toArray) w) := by
  match p, h with
  | none, h => exact point_z gf x y z h.nz ((rep_far h).2 rfl) w hF
  | some (a, b), h =>
    have hz : z ≠ 0 := fun e => h.rep.1 ((uu_zero h.nz).2 e)
    have O := repJ_out h.ok h.rep (mpw_inv h.rep.1)
    have H := point_n gf x y z _ _ _ _ _ _ _ h.nx h.ny h.nz hz rfl rfl rfl rfl rfl rfl rfl _ rfl _ rfl w hF
    have ci : Cg (uu (mpw z EE)) (uu (mpw z EE)) := Cg.refl _
    have e1 : mm (mm x (mm (mpw z EE) (mpw z EE))) 1 = a := by
      have c := low_cg (uu_mm (Cg.refl (uu x)) (uu_mm ci ci))
      rw [← O.1]
      exact (c.trans (Cg.md _).symm).eq (mm_bd _ _) (md_bd _)
    have e2 : mm (mm y (mm (mm (mpw z EE) (mpw z EE)) (mpw z EE))) 1 = b := by
      have c := low_cg (uu_mm (Cg.refl (uu y)) (uu_mm (uu_mm ci ci) ci))
      rw [← O.2]
      exact (c.trans (Cg.md _).symm).eq (mm_bd _ _) (md_bd _)
    rw [e1, e2] at H
    exact H

/-- The document's at, of any point. -/
theorem rat_rep {X Y : List Int} {f : Bool} (hX : X.length = 32) (hY : Y.length = 32) (dX : Dg 256 X) (dY : Dg 256 Y) (h : onP X Y f = true) (gf : Nat) (w : World) (hF : FF w gf) : Calls Tryd.prog 46 #[.pointer (some ⟨gf, 0, none⟩), .agg (pL X Y f).toArray] w (AnsD (ptOf X Y f) w) := by
  cases f
  · have R := at_rep hX hY dX dY h
    have bX : Nb (dn X) := R.ok.1
    have bY : Nb (dn Y) := R.ok.2.1
    refine (at_near gf X Y hX hY dX dY _ _ _ _ bX bY rfl rfl rfl rfl w hF).mono ?_
    rintro e w1 ⟨rfl, LB⟩
    exact ⟨_, _, _, rfl, R, LB⟩
  · refine (at_far gf X Y hX hY w hF).mono ?_
    rintro e w1 ⟨rfl, LB⟩
    exact ⟨_, _, _, rfl, far_rep, LB⟩

end Go.Proofs.YtcijjmncilciiaaDoor

namespace Go.Proofs.YtcijjmncilciiaaDoor
open Go.RowKit Go.IntWalk
attribute [local go_sem ↓] ld_num st_num ld_pln st_pln ld_ops st_ops ld_pnt st_pnt ld_dig st_dig ld_tri st_tri eq_num ne_num eq_pnt ne_pnt bd_pnt

theorem ldDg {T : TypeId} {w : World} {g : Nat} {K : List Int} (hK : K.length = 32) (h : Blk T w g (bV K)) : (ldA 23 (.pointer (some ⟨g, 0, none⟩))).run Tryd.prog w = .ok (.agg (bV K).toArray) w :=
  ldA_all Tryd.underlying23 rfl (info_dig' hK) h

theorem spreadN {X Y : List Int} {f : Bool} (hX : X.length = 32) (hY : Y.length = 32) (dX : Dg 256 X) (dY : Dg 256 Y) (h : onP X Y f = true) (w : World) (hC : Cv w) : Calls Tryd.prog 29 #[.agg (pL X Y f).toArray, .agg doL.toArray] w (Ans (.tuple #[.agg (t3 (sx X f) (sy Y f) (sz f)).toArray, .bool true]) w) := by
  obtain ⟨b0, b1, b2, b3, hb⟩ := nw_at bm_nb
  rw [← opL_doL hb]
  refine (spread_tri X Y f hX hY dX dY b0 b1 b2 b3 hb w hC).mono ?_
  rintro e w1 ⟨x0, x1, x2, x3, y0, y1, y2, y3, z0, z1, z2, z3, rfl, hN, LB⟩
  obtain ⟨nx, ny, nz⟩ := hN h
  rw [T12_t3 nx ny nz, h]
  exact ⟨rfl, LB⟩
theorem spreadNo {X Y : List Int} {f : Bool} (hX : X.length = 32) (hY : Y.length = 32) (dX : Dg 256 X) (dY : Dg 256 Y) (h : onP X Y f = false) (w : World) (hC : Cv w) : Calls Tryd.prog 29 #[.agg (pL X Y f).toArray, .agg doL.toArray] w (fun e w' => ∃ L : List Value, e = .returned (.tuple #[.agg L.toArray, .bool false]) ∧ L.length = 12 ∧ (∀ v ∈ L, v.oneCell' = true) ∧ Below w.heap.size w w') := by
  obtain ⟨b0, b1, b2, b3, hb⟩ := nw_at bm_nb
  rw [← opL_doL hb]
  refine (spread_tri X Y f hX hY dX dY b0 b1 b2 b3 hb w hC).mono ?_
  rintro e w1 ⟨x0, x1, x2, x3, y0, y1, y2, y3, z0, z1, z2, z3, rfl, hN, LB⟩
  rw [h]
  exact ⟨_, rfl, rfl, T12_one _ _ _ _ _ _ _ _ _ _ _ _, LB⟩
theorem stLn (w : World) (L : List Value) (hL : L.length = 12) (h1 : ∀ v ∈ L, v.oneCell' = true) : (stA 72 (.pointer (some ⟨w.heap.size, 0, none⟩)) (.agg L.toArray)).run Tryd.prog (w.alloc (.cells #[.int .u64 0, .int .u64 0, .int .u64 0, .int .u64 0, .int .u64 0, .int .u64 0, .int .u64 0, .int .u64 0, .int .u64 0, .int .u64 0, .int .u64 0, .int .u64 0] 72)) = .ok () (w.alloc (.cells L.toArray 72)) :=
  run_storeAt_new (P := Tryd.prog) w 72 _ L.toArray (by rw [List.size_toArray, hL]; kernel_rfl) (by simp [hL]) (all_oneCell_toArray h1)

theorem gath_rep {x y z : Int} {p : Option (Int × Int)} (h : RepP x y z p) (w : World) (hC : Cv w) : Calls Tryd.prog 31 #[.agg (t3 x y z).toArray, .agg doL.toArray] w (Ans (.agg (pL (encX p) (encY p) (encF p)).toArray) w) := by
  have := gatheredN h.nx h.ny h.nz w hC
  rw [gath_enc h] at this
  exact this

set_option maxRecDepth 100000 in
set_option maxHeartbeats 4000000 in
theorem mul_yes (K X Y : List Int) (f : Bool) (hK : K.length = 32) (dK : Dg 256 K) (hX : X.length = 32) (hY : Y.length = 32) (dX : Dg 256 X) (dY : Dg 256 Y) (hon : onP X Y f = true) (w : World) (hC : Cv w) :
    Calls Tryd.prog 15 #[.agg (bV K).toArray, .agg (pL X Y f).toArray] w (Ans (.tuple #[.agg (pL (encX (pmul (kbit K) (ptOf X Y f) 256)) (encY (pmul (kbit K) (ptOf X Y f) 256)) (encF (pmul (kbit K) (ptOf X Y f) 256))).toArray, .int .i64 0]) w) := by
  have HK := hide hK
  have HX := hide hX
  have HY := hide hY
  have HC := hide hC
  have o1 : ∀ v ∈ bV K, v.oneCell' = true := ints_one _ _
  have o2 := pL_one X Y f
  have hS : Bx w [(w.heap.size, 23, bV K), (w.heap.size + 1, 25, pL X Y f), (w.heap.size + 1 + 1, 25, PZ)] (((w.alloc (.cells (bV K).toArray 23)).alloc (.cells (pL X Y f).toArray 25)).alloc (.cells Tryd.zeroCells25 25)) :=
    (((Bx.nil w).newAt 0 (w.heap.size) (by simp) 23 (bV K) _ rfl).newAt 1 (w.heap.size + 1) (by simp) 25 (pL X Y f) _ rfl).newAt 2 (w.heap.size + 1 + 1) (by simp) 25 PZ _ zc_pnt
  have HSP : Hid (∀ W, Cv W → Calls Tryd.prog 29 #[.agg (pL X Y f).toArray, .agg doL.toArray] W (Ans (.tuple #[.agg (t3 (sx X f) (sy Y f) (sz f)).toArray, .bool true]) W)) := fun W hW => spreadN hX hY dX dY hon W hW
  have R := spread_rep hX hY dX dY hon
  have HMU : Hid (∀ W, Cv W → Calls Tryd.prog 48 #[.agg (bV K).toArray, .agg (t3 (sx X f) (sy Y f) (sz f)).toArray, .agg doL.toArray] W (fun e w' => ∃ x y z, e = .returned (.agg (t3 x y z).toArray) ∧ RepP x y z (pmul (kbit K) (ptOf X Y f) 256) ∧ Below W.heap.size W w')) := fun W hW => multiple_rep K hK dK R W hW
  generalize pmul (kbit K) (ptOf X Y f) 256 = Q at *
  generalize sx X f = x at *
  generalize sy Y f = y at *
  generalize sz f = z at *
  have HQX := hide (encX_len Q)
  have HQY := hide (encY_len Q)
  have HGA : Hid (∀ {x y z : Int} {p : Option (Int × Int)}, RepP x y z p → ∀ W, Cv W → Calls Tryd.prog 31 #[.agg (t3 x y z).toArray, .agg doL.toArray] W (Ans (.agg (pL (encX p) (encY p) (encF p)).toArray) W)) := fun h W hW => gath_rep h W hW
  clear hK dK hX hY dX dY hon hC R
  go_enter Tryd.func15, Tryd.ntmps15
  go_wp2_with fail
  refine (opsN _ (HC.out.below hS.bl)).mono ?_
  rintro e U1 ⟨rfl, LB⟩
  have hS := hS.below LB
  have hst := stDo U1
  have hS' : Bx w [(w.heap.size, 23, bV K), (w.heap.size + 1, 25, pL X Y f), (U1.heap.size, 67, doL), (w.heap.size + 1 + 1, 25, PZ)] (U1.alloc (.cells doL.toArray 67)) := hS.newAt 2 U1.heap.size rfl 67 doL _ rfl
  clear hS LB o1 o2
  have hS := hS'
  clear hS'
  go_upto_region 2 with fail
  generalize U1.alloc (.cells doL.toArray 67) = U2 at hS ⊢
  generalize U1.heap.size = g6 at hS ⊢
  clear hst
  have hlp := (pnt_ld HX.out HY.out (hS.get 1 rfl)).1
  have hlo := ldD (hS.get 2 rfl)
  go_wp2_with fail
  refine (HSP.out _ (HC.out.below hS.bl)).mono ?_
  rintro e U3 ⟨rfl, LB⟩
  have hS := hS.below LB
  have hst := sttn U3 x y z
  have hS' : Bx w [(w.heap.size, 23, bV K), (w.heap.size + 1, 25, pL X Y f), (g6, 67, doL), (U3.heap.size, 72, t3 x y z), (w.heap.size + 1 + 1, 25, PZ)] (U3.alloc (.cells (t3 x y z).toArray 72)) := hS.newAt 3 U3.heap.size rfl 72 (t3 x y z) _ rfl
  clear hS LB hlp hlo
  have hS := hS'
  clear hS'
  go_upto_region 3 with fail
  generalize U3.alloc (.cells (t3 x y z).toArray 72) = U4 at hS ⊢
  generalize U3.heap.size = g7 at hS ⊢
  clear hst
  go_wp2
  have hS := hS.drew
  refine wp_region_held_drew (S := Bx w [(w.heap.size, 23, bV K), (w.heap.size + 1, 25, pL X Y f), (g6, 67, doL), (g7, 72, (t3 x y z))]) (by kernel_rfl) (hS.pre 4) (fun _ => ?_)
  generalize U4.drew = U1 at hS ⊢
  have hP : Bx w [(w.heap.size, 23, bV K), (w.heap.size + 1, 25, pL X Y f), (g6, 67, doL), (g7, 72, (t3 x y z))] U1 := hS.pre 4
  refine wpAnyH_take (i := 0) (v := ?_) rfl (by kernel_rfl) (by kernel_rfl) (by kernel_rfl) (fun _ _ _ h => h) (Or.inl ⟨by rfl, ?_⟩) (by assumption) ?_
  rotate_left
  · intro wq hSq
    have hl := ldDg HK.out (hSq.get 0 rfl)
    go_simp
    try with_reducible rfl
  simp only [List.getElem_toArray, List.getElem_cons_zero, Act.put, List.setIfInBounds_toArray, List.set_cons_zero, List.set_cons_succ]
  refine wpAnyH_take (i := 1) (v := ?_) rfl (by kernel_rfl) (by kernel_rfl) (by kernel_rfl) (fun _ _ _ h => h) (Or.inl ⟨by rfl, ?_⟩) (by assumption) ?_
  rotate_left
  · intro wq hSq
    have hl := ldt (hSq.get 3 rfl)
    go_simp
    try with_reducible rfl
  simp only [List.getElem_toArray, List.getElem_cons_succ, List.getElem_cons_zero, Act.put, List.setIfInBounds_toArray, List.set_cons_zero, List.set_cons_succ]
  refine wpAnyH_take (i := 2) (v := ?_) rfl (by kernel_rfl) (by kernel_rfl) (by kernel_rfl) (fun _ _ _ h => h) (Or.inl ⟨by rfl, ?_⟩) (by assumption) ?_
  rotate_left
  · intro wq hSq
    have hl := ldD (hSq.get 2 rfl)
    go_simp
    try with_reducible rfl
  simp only [List.getElem_toArray, List.getElem_cons_succ, List.getElem_cons_zero, Act.put, List.setIfInBounds_toArray, List.set_cons_zero, List.set_cons_succ]
  refine wpAnyH_take (i := 4) (v := ?_) rfl (by kernel_rfl) (by kernel_rfl) (by kernel_rfl) (fun _ _ _ h => h) (Or.inl ⟨by rfl, ?_⟩) (by assumption) ?_
  rotate_left
  · intro wq hSq
    have hl := ldD (hSq.get 2 rfl)
    go_simp
    try with_reducible rfl
  simp only [List.getElem_toArray, List.getElem_cons_succ, List.getElem_cons_zero, Act.put, List.setIfInBounds_toArray, List.set_cons_zero, List.set_cons_succ]
  clear hP
  refine wpAnyH_ready (rs := [3]) (by kernel_rfl) (by simp) ?_
  refine AllReadyH.cons rfl (fun Kq hKq => ?_) AllReadyH.nil
  go_simp
  refine (HMU.out _ (HC.out.below hS.bl)).mono ?_
  rintro e U2 ⟨mx, my, mz, rfl, hM, LB⟩
  have hS := hS.below LB
  clear LB
  have HM := hide hM
  clear hM
  refine hKq.out _ _ (hS.pre 4) (fun _ => ?_)
  clear hKq Kq
  refine wpAnyH_ready (rs := [5]) (by kernel_rfl) (by simp) ?_
  refine AllReadyH.cons rfl (fun Kq hKq => ?_) AllReadyH.nil
  go_simp
  refine (HGA.out HM.out _ (HC.out.below hS.bl)).mono ?_
  rintro e U3 ⟨rfl, LB⟩
  have hS := hS.below LB
  clear LB
  refine hKq.out _ _ (hS.pre 4) (fun _ => ?_)
  clear hKq Kq
  have hst := stPt (X := encX Q) (Y := encY Q) (f := encF Q) HQX.out HQY.out (hS.get 4 rfl) rfl
  refine wpAnyH_ready (rs := [6]) (by kernel_rfl) (by simp) ?_
  refine AllReadyH.cons rfl (fun Kq hKq => ?_) AllReadyH.nil
  go_simp
  have hS' : Bx w [(w.heap.size, 23, bV K), (w.heap.size + 1, 25, pL X Y f), (g6, 67, doL), (g7, 72, (t3 x y z)), (w.heap.size + 1 + 1, 25, (pL (encX Q) (encY Q) (encF Q)))] (U3.setCells (w.heap.size + 1 + 1) 0 (pL (encX Q) (encY Q) (encF Q))) := hS.setAt 4 (pL (encX Q) (encY Q) (encF Q)) rfl (by rw [pL_len HQX.out HQY.out]; rfl)
  refine hKq.out _ _ (hS'.pre 4) (fun _ => ?_)
  clear hKq Kq hst hS
  have hS := hS'
  clear hS'
  generalize U3.setCells (w.heap.size + 1 + 1) 0 (pL (encX Q) (encY Q) (encF Q)) = U4 at hS ⊢
  refine wpAnyH_ready (rs := [7]) (by kernel_rfl) (by simp) ?_
  refine AllReadyH.cons rfl (fun Kq hKq => ?_) AllReadyH.nil
  go_simp
  refine hKq.out _ _ (hS.pre 4) (fun _ => ?_)
  clear hKq Kq
  refine wpAnyH_done (by kernel_rfl) ?_ _
  go_wp2
  refine bodyPost_ret (v := .tuple #[.agg (pL (encX Q) (encY Q) (encF Q)).toArray, .int .i64 0]) ?_ rfl ⟨rfl, hS.bl⟩
  exact res_two (T := 25) (p := 4) (q := 5) (ty := 25) (X := pL (encX Q) (encY Q) (encF Q)) (by kernel_rfl) _ _ rfl Tryd.underlying25 rfl (by rw [pL_len HQX.out HQY.out]; exact info_pnt) (hS.get 4 rfl)

set_option maxRecDepth 100000 in
set_option maxHeartbeats 4000000 in
theorem mul_no (K X Y : List Int) (f : Bool) (hX : X.length = 32) (hY : Y.length = 32) (dX : Dg 256 X) (dY : Dg 256 Y) (hon : onP X Y f = false) (w : World) (hC : Cv w) :
    Calls Tryd.prog 15 #[.agg (bV K).toArray, .agg (pL X Y f).toArray] w (Ans (.tuple #[.agg PZ.toArray, .int .i64 100]) w) := by
  have HX := hide hX
  have HY := hide hY
  have HC := hide hC
  have o1 : ∀ v ∈ bV K, v.oneCell' = true := ints_one _ _
  have o2 := pL_one X Y f
  have hS : Bx w [(w.heap.size, 23, bV K), (w.heap.size + 1, 25, pL X Y f), (w.heap.size + 1 + 1, 25, PZ)] (((w.alloc (.cells (bV K).toArray 23)).alloc (.cells (pL X Y f).toArray 25)).alloc (.cells Tryd.zeroCells25 25)) :=
    (((Bx.nil w).newAt 0 (w.heap.size) (by simp) 23 (bV K) _ rfl).newAt 1 (w.heap.size + 1) (by simp) 25 (pL X Y f) _ rfl).newAt 2 (w.heap.size + 1 + 1) (by simp) 25 PZ _ zc_pnt
  have HSP : Hid (∀ W, Cv W → Calls Tryd.prog 29 #[.agg (pL X Y f).toArray, .agg doL.toArray] W (fun e w' => ∃ L : List Value, e = .returned (.tuple #[.agg L.toArray, .bool false]) ∧ L.length = 12 ∧ (∀ v ∈ L, v.oneCell' = true) ∧ Below W.heap.size W w')) := fun W hW => spreadNo hX hY dX dY hon W hW
  clear hX hY dX dY hon hC
  go_enter Tryd.func15, Tryd.ntmps15
  go_wp2_with fail
  refine (opsN _ (HC.out.below hS.bl)).mono ?_
  rintro e U1 ⟨rfl, LB⟩
  have hS := hS.below LB
  have hst := stDo U1
  have hS' : Bx w [(w.heap.size, 23, bV K), (w.heap.size + 1, 25, pL X Y f), (U1.heap.size, 67, doL), (w.heap.size + 1 + 1, 25, PZ)] (U1.alloc (.cells doL.toArray 67)) := hS.newAt 2 U1.heap.size rfl 67 doL _ rfl
  clear hS LB o1 o2
  have hS := hS'
  clear hS'
  go_upto_region 2 with fail
  generalize U1.alloc (.cells doL.toArray 67) = U2 at hS ⊢
  generalize U1.heap.size = g6 at hS ⊢
  clear hst
  have hlp := (pnt_ld HX.out HY.out (hS.get 1 rfl)).1
  have hlo := ldD (hS.get 2 rfl)
  go_wp2_with fail
  refine (HSP.out _ (HC.out.below hS.bl)).mono ?_
  rintro e U3 ⟨L, rfl, hL, h1, LB⟩
  have hS := hS.below LB
  have hst := stLn U3 L hL h1
  have hS' : Bx w [(w.heap.size, 23, bV K), (w.heap.size + 1, 25, pL X Y f), (g6, 67, doL), (U3.heap.size, 72, L), (w.heap.size + 1 + 1, 25, PZ)] (U3.alloc (.cells L.toArray 72)) := hS.newAt 3 U3.heap.size rfl 72 L _ rfl
  clear hS LB hlp hlo hL h1
  have hS := hS'
  clear hS'
  go_upto_region 3 with fail
  generalize U3.alloc (.cells L.toArray 72) = U4 at hS ⊢
  generalize U3.heap.size = g7 at hS ⊢
  clear hst
  have hbz : ∀ W : World, (bdA 25 #[]).run Tryd.prog W = .ok (.agg PZ.toArray) W := fun W => by kernel_rfl
  have hsz : (stA 25 (.pointer (some ⟨w.heap.size + 1 + 1, 0, none⟩)) (.agg PZ.toArray)).run Tryd.prog U4 = .ok () (U4.setCells (w.heap.size + 1 + 1) 0 PZ) := stPt (f := false) (X := z32) (Y := z32) rfl rfl (hS.get 4 rfl) rfl
  have hS' : Bx w [(w.heap.size, 23, bV K), (w.heap.size + 1, 25, pL X Y f), (g6, 67, doL), (g7, 72, L), (w.heap.size + 1 + 1, 25, PZ)] (U4.setCells (w.heap.size + 1 + 1) 0 PZ) := hS.setAt 4 PZ rfl rfl
  have HPI : Hid ((Tryd.prog.info? 25).map (·.size) = some PZ.length) := info_pnt
  clear hS
  generalize PZ = LZ at *
  go_wp2
  generalize U4.setCells (w.heap.size + 1 + 1) 0 LZ = U5 at hS' ⊢
  refine bodyPost_ret (v := .tuple #[.agg LZ.toArray, .int .i64 100]) ?_ rfl ⟨rfl, hS'.bl⟩
  exact res_two (T := 25) (p := 4) (q := 5) (ty := 25) (X := LZ) (by kernel_rfl) _ _ rfl Tryd.underlying25 rfl HPI.out (hS'.get 4 rfl)

end Go.Proofs.YtcijjmncilciiaaDoor
