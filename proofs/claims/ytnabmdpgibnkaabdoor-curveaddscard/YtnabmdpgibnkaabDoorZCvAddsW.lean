/-
  The statement CurveAdds: its walk.
-/
import Derived.Test.YtnabmdpgibnkaabDoorZCrAdToCvAd
import Derived.Test.YtnabmdpgibnkaabDoorZCvGatToCvNames
import Derived.Test.YtnabmdpgibnkaabDoorZCrDecToCvThe
namespace Go.Proofs.YtnabmdpgibnkaabDoor
open Go.RowKit Go.IntWalk
attribute [local go_sem ↓] ld_num st_num ld_pln st_pln ld_ops st_ops ld_pnt st_pnt ld_dig st_dig ld_tri st_tri eq_num ne_num eq_pnt ne_pnt bd_pnt ld_F st_F eq_F ld_a32 st_a32 ld_rpt st_rpt eq_rpt bd_rpt eq_dgs bs_pts

/-- A point's bytes are those of a point of the curve, and of this one. -/
theorem uu_inj {a b : Int} (ha : 0 ≤ a ∧ a < PP) (hb : 0 ≤ b ∧ b < PP) (h : Cg (uu a) (uu b)) : a = b := by
  refine (Cg.cancel ri_nd ?_).eq ha hb
  exact h
theorem enc_on : ∀ {p : Option (Int × Int)}, Ok p → onP (encX p) (encY p) (encF p) = true ∧ ptOf (encX p) (encY p) (encF p) = p
  | none, _ => ⟨rfl, rfl⟩
  | some (x, y), h => by
    have ex : dn (be x) = x := dn_be h.1.1 (Int.lt_trans h.1.2 PP_RR)
    have ey : dn (be y) = y := dn_be h.2.1.1 (Int.lt_trans h.2.1.2 PP_RR)
    constructor
    · show onP (be x) (be y) false = true
      have hc : mm (mm y SQ) (mm y SQ) = cub (mm x SQ) := by
        refine uu_inj (mm_bd _ _) (pa_bd _ _) ?_
        have cy := uu_sq y
        have cx := uu_sq x
        have c1 := uu_mm cy cy
        have c2 : Cg (uu (cub (mm x SQ))) (BB + (x * x * x - (x + x + x))) := uu_pa uu_bm (uu_ps (uu_mm (uu_mm cx cx) cx) (uu_pa (uu_pa cx cx) cx))
        refine c1.trans (Cg.trans ?_ c2.symm)
        have e : y * y - (BB + (x * x * x - (x + x + x))) = cR BB x y := by
          unfold cR
          generalize BB = b
          clear c1 c2 cx cy h ex ey
          grind
        show D (y * y - (BB + (x * x * x - (x + x + x))))
        rw [e]
        exact h.2.2
      simp only [onP, ex, ey, Bool.false_eq_true, if_false, decide_eq_true_eq]
      exact ⟨h.1.2, h.2.1.2, hc⟩
    · show some (dn (be x), dn (be y)) = some (x, y)
      rw [ex, ey]
theorem be_dg' (p : Option (Int × Int)) : Dg 256 (encX p) ∧ Dg 256 (encY p) := by
  cases p with
  | none => exact ⟨by intro x hx; simp [encX, z32] at hx; omega, by intro x hx; simp [encY, z32] at hx; omega⟩
  | some p => exact ⟨be_dg _, be_dg _⟩
theorem padd_none (q : Option (Int × Int)) : padd none q = q := by cases q <;> rfl
theorem sumQ_two (X1 Y1 : List Int) (f1 : Bool) (X2 Y2 : List Int) (f2 : Bool) : sumQ [(X1, Y1, f1), (X2, Y2, f2)] = padd (ptOf X1 Y1 f1) (ptOf X2 Y2 f2) := by
  show padd (padd none (ptOf X1 Y1 f1)) (ptOf X2 Y2 f2) = _
  rw [padd_none]
theorem su_no {ps : List (List Int × List Int × Bool)} (h : allOn ps = false) : suL ps = PZ ∧ suE ps = 100 := by unfold suL suE; rw [h]; exact ⟨rfl, rfl⟩
theorem su_yes {ps : List (List Int × List Int × Bool)} (h : allOn ps = true) : suL ps = pL (encX (sumQ ps)) (encY (sumQ ps)) (encF (sumQ ps)) ∧ suE ps = 0 := by unfold suL suE; rw [h]; exact ⟨rfl, rfl⟩

set_option maxRecDepth 100000 in
set_option maxHeartbeats 8000000 in
theorem adds_walk (X1 Y1 : List Int) (f1 : Bool) (X2 Y2 : List Int) (f2 : Bool) (X3 Y3 : List Int) (f3 : Bool) (w : World) (hC : Cv w) (hN : Cn w) (x1 : X1.length = 32) (y1 : Y1.length = 32) (dx1 : Dg 256 X1) (dy1 : Dg 256 Y1) (x2 : X2.length = 32) (y2 : Y2.length = 32) (dx2 : Dg 256 X2) (dy2 : Dg 256 Y2) (x3 : X3.length = 32) (y3 : Y3.length = 32) (dx3 : Dg 256 X3) (dy3 : Dg 256 Y3) :
    Calls Tryd.prog 4 #[.agg (pL X1 Y1 f1).toArray, .agg (pL X2 Y2 f2).toArray, .agg (pL X3 Y3 f3).toArray] w fun e w' => e = .returned (.bool true) ∧ Below w.heap.size w w' := by
  have HC := hide hC
  have HN := hide hN
  have o1 := pL_one X1 Y1 f1
  have o2 := pL_one X2 Y2 f2
  have o3 := pL_one X3 Y3 f3
  have hS : Bx w [(w.heap.size, 34, pL X1 Y1 f1), (w.heap.size + 1, 34, pL X2 Y2 f2), (w.heap.size + 1 + 1, 34, pL X3 Y3 f3)] (((w.alloc (.cells (pL X1 Y1 f1).toArray 34)).alloc (.cells (pL X2 Y2 f2).toArray 34)).alloc (.cells (pL X3 Y3 f3).toArray 34)) :=
    (((Bx.nil w).newAt 0 (w.heap.size) (by simp) 34 (pL X1 Y1 f1) _ rfl).newAt 1 (w.heap.size + 1) (by simp) 34 (pL X2 Y2 f2) _ rfl).newAt 2 (w.heap.size + 1 + 1) (by simp) 34 (pL X3 Y3 f3) _ rfl
  have HAD : Hid (∀ W, Cv W → Calls Tryd.prog 12 #[.agg (pL X1 Y1 f1).toArray, .agg (pL X2 Y2 f2).toArray] W (Ans (.tuple #[.agg (suL [(X1, Y1, f1), (X2, Y2, f2)]).toArray, .int .i64 (suE [(X1, Y1, f1), (X2, Y2, f2)])]) W)) := fun W hW => add_any X1 Y1 f1 X2 Y2 f2 ⟨x1, y1, dx1, dy1⟩ ⟨x2, y2, dx2, dy2⟩ W hW
  have HS3 : Hid (∀ W, Cv W → Calls Tryd.prog 13 #[.slice (some ⟨W.heap.size, 0, none⟩) 3 3] (W.alloc (.cells (pL X1 Y1 f1 ++ (pL X2 Y2 f2 ++ pL X3 Y3 f3)).toArray 34)) (Ans (.tuple #[.agg (suL [(X1, Y1, f1), (X2, Y2, f2), (X3, Y3, f3)]).toArray, .int .i64 (suE [(X1, Y1, f1), (X2, Y2, f2), (X3, Y3, f3)])]) (W.alloc (.cells (pL X1 Y1 f1 ++ (pL X2 Y2 f2 ++ pL X3 Y3 f3)).toArray 34)))) := fun W hW => sum_three (pOk3 ⟨x1, y1, dx1, dy1⟩ ⟨x2, y2, dx2, dy2⟩ ⟨x3, y3, dx3, dy3⟩) W hW
  have HS0 : Hid (∀ W, Cv W → Calls Tryd.prog 13 #[.slice none 0 0] W (Ans (.tuple #[.agg (pL z32 z32 true).toArray, .int .i64 0]) W)) := fun W hW => sum_nil W hW
  have HNA : Hid (∀ W, Cn W → Calls Tryd.prog 14 #[] W (Ans (.bool true) W)) := fun W hW => names_any W hW
  have HTH1 : Hid (∀ W, Calls Tryd.prog 16 #[.agg (pL X1 Y1 f1).toArray] W (Ans (.agg (pL X1 Y1 f1).toArray) W)) := fun W => theirs_any X1 Y1 f1 x1 y1 W
  have HRO1 : Hid (∀ W, Calls Tryd.prog 15 #[.agg (pL X1 Y1 f1).toArray] W (Ans (.bool (onP X1 Y1 f1)) W)) := fun W => ron_any X1 Y1 x1 y1 dx1 dy1 f1 W
  have HL1 : Hid ((pL X1 Y1 f1).length = 65) := pL_len x1 y1 f1
  have HTH2 : Hid (∀ W, Calls Tryd.prog 16 #[.agg (pL X2 Y2 f2).toArray] W (Ans (.agg (pL X2 Y2 f2).toArray) W)) := fun W => theirs_any X2 Y2 f2 x2 y2 W
  have HRO2 : Hid (∀ W, Calls Tryd.prog 15 #[.agg (pL X2 Y2 f2).toArray] W (Ans (.bool (onP X2 Y2 f2)) W)) := fun W => ron_any X2 Y2 x2 y2 dx2 dy2 f2 W
  have HL2 : Hid ((pL X2 Y2 f2).length = 65) := pL_len x2 y2 f2
  have HTH3 : Hid (∀ W, Calls Tryd.prog 16 #[.agg (pL X3 Y3 f3).toArray] W (Ans (.agg (pL X3 Y3 f3).toArray) W)) := fun W => theirs_any X3 Y3 f3 x3 y3 W
  have HRO3 : Hid (∀ W, Calls Tryd.prog 15 #[.agg (pL X3 Y3 f3).toArray] W (Ans (.bool (onP X3 Y3 f3)) W)) := fun W => ron_any X3 Y3 x3 y3 dx3 dy3 f3 W
  have HL3 : Hid ((pL X3 Y3 f3).length = 65) := pL_len x3 y3 f3
  have HRA : Hid (onP X1 Y1 f1 = true → onP X2 Y2 f2 = true → ∀ W, Calls Tryd.prog 17 #[.agg (pL X1 Y1 f1).toArray, .agg (pL X2 Y2 f2).toArray] W (Ans (.agg (pL (encX (sumQ [(X1, Y1, f1), (X2, Y2, f2)])) (encY (sumQ [(X1, Y1, f1), (X2, Y2, f2)])) (encF (sumQ [(X1, Y1, f1), (X2, Y2, f2)]))).toArray) W)) := fun o1 o2 W => radd_rep X1 Y1 f1 X2 Y2 f2 x1 y1 dx1 dy1 o1 x2 y2 dx2 dy2 o2 _ (sumQ_two _ _ _ _ _ _).symm W
  have HOK2 : Hid (onP X1 Y1 f1 = true → onP X2 Y2 f2 = true → Ok (sumQ [(X1, Y1, f1), (X2, Y2, f2)])) := fun o1 o2 => by
    have h := padd_ok (on_ok x1 y1 dx1 dy1 o1) (on_ok x2 y2 dx2 dy2 o2)
    rw [sumQ_two]
    exact h
  have HRB : Hid (onP X1 Y1 f1 = true → onP X2 Y2 f2 = true → onP X3 Y3 f3 = true → ∀ W, Calls Tryd.prog 17 #[.agg (pL (encX (sumQ [(X1, Y1, f1), (X2, Y2, f2)])) (encY (sumQ [(X1, Y1, f1), (X2, Y2, f2)])) (encF (sumQ [(X1, Y1, f1), (X2, Y2, f2)]))).toArray, .agg (pL X3 Y3 f3).toArray] W (Ans (.agg (pL (encX (sumQ [(X1, Y1, f1), (X2, Y2, f2), (X3, Y3, f3)])) (encY (sumQ [(X1, Y1, f1), (X2, Y2, f2), (X3, Y3, f3)])) (encF (sumQ [(X1, Y1, f1), (X2, Y2, f2), (X3, Y3, f3)]))).toArray) W)) := fun o1 o2 o3 W => by
    have hE := enc_on (HOK2.out o1 o2)
    exact radd_rep _ _ _ X3 Y3 f3 (encX_len _) (encY_len _) (be_dg' _).1 (be_dg' _).2 hE.1 x3 y3 dx3 dy3 o3 _ (by rw [hE.2]; rfl) W
  have e2 : allOn [(X1, Y1, f1), (X2, Y2, f2)] = (onP X1 Y1 f1 && onP X2 Y2 f2) := by simp [allOn]
  have e3 : allOn [(X1, Y1, f1), (X2, Y2, f2), (X3, Y3, f3)] = (onP X1 Y1 f1 && (onP X2 Y2 f2 && onP X3 Y3 f3)) := by simp [allOn]
  have n2 := su_no (ps := [(X1, Y1, f1), (X2, Y2, f2)])
  have n3 := su_no (ps := [(X1, Y1, f1), (X2, Y2, f2), (X3, Y3, f3)])
  have s2 := su_yes (ps := [(X1, Y1, f1), (X2, Y2, f2)])
  have s3 := su_yes (ps := [(X1, Y1, f1), (X2, Y2, f2), (X3, Y3, f3)])
  rw [e2] at n2 s2
  rw [e3] at n3 s3
  have HLA := hide (suL_len [(X1, Y1, f1), (X2, Y2, f2)])
  have HOA := hide (suL_one [(X1, Y1, f1), (X2, Y2, f2)])
  have HLB := hide (suL_len [(X1, Y1, f1), (X2, Y2, f2), (X3, Y3, f3)])
  have HOB := hide (suL_one [(X1, Y1, f1), (X2, Y2, f2), (X3, Y3, f3)])
  generalize suL [(X1, Y1, f1), (X2, Y2, f2)] = LA at *
  generalize suL [(X1, Y1, f1), (X2, Y2, f2), (X3, Y3, f3)] = LY at *
  generalize suE [(X1, Y1, f1), (X2, Y2, f2)] = EA at *
  generalize suE [(X1, Y1, f1), (X2, Y2, f2), (X3, Y3, f3)] = EB at *
  generalize sumQ [(X1, Y1, f1), (X2, Y2, f2)] = Q at *
  generalize sumQ [(X1, Y1, f1), (X2, Y2, f2), (X3, Y3, f3)] = R at *
  generalize pL X1 Y1 f1 = L1 at *
  generalize pL X2 Y2 f2 = L2 at *
  generalize pL X3 Y3 f3 = L3 at *
  have N2 := hide n2
  have N3 := hide n3
  have S2 := hide s2
  have S3 := hide s3
  have HLF : Hid ((pL z32 z32 true).length = 65) := rfl
  have HOF := hide (pL_one z32 z32 true)
  have HQX := hide (encX_len Q)
  have HQY := hide (encY_len Q)
  have HRX := hide (encX_len R)
  have HRY := hide (encY_len R)
  have hbf := bd_far
  have hnf : ∀ W : World, (neA 34 (.agg (pL z32 z32 true).toArray) (.agg (pL z32 z32 true).toArray)).run Tryd.prog W = .ok (.bool false) W := fun W => by
    have h := neP z32 z32 z32 z32 true true rfl rfl rfl rfl W
    rw [decide_eq_true ⟨rfl, rfl, rfl⟩] at h
    exact h
  have HSA : Hid (∀ (q : Option (Int × Int)) W, Calls Tryd.prog 18 #[.agg (pL (encX q) (encY q) (encF q)).toArray, .agg (pL (encX q) (encY q) (encF q)).toArray] W (Ans (.bool true) W)) := fun q W => same_self (encX q) (encY q) (encF q) (encX_len q) (encY_len q) W
  generalize pL z32 z32 true = LF at *
  obtain ⟨on1, hon1⟩ : ∃ b, onP X1 Y1 f1 = b := ⟨_, rfl⟩
  obtain ⟨on2, hon2⟩ : ∃ b, onP X2 Y2 f2 = b := ⟨_, rfl⟩
  obtain ⟨on3, hon3⟩ : ∃ b, onP X3 Y3 f3 = b := ⟨_, rfl⟩
  rw [hon1] at HRO1 HRA HRB HOK2 N2 N3 S2 S3
  rw [hon2] at HRO2 HRA HRB HOK2 N2 N3 S2 S3
  rw [hon3] at HRO3 HRB N3 S3
  clear n2 n3 s2 s3 e2 e3 hon1 hon2 hon3 hC hN x1 y1 dx1 dy1 x2 y2 dx2 dy2 x3 y3 dx3 dy3 HOK2
  go_enter Tryd.func4, Tryd.ntmps4
  have hl1 := ldPL HL1.out (hS.get 0 rfl)
  have hl2 := ldPL HL2.out (hS.get 1 rfl)
  go_wp2_with fail
  refine (HAD.out _ (HC.out.below hS.bl)).mono ?_
  rintro e U1 ⟨rfl, LB⟩
  have hS := hS.below LB
  have hst := stPLn U1 HLA.out HOA.out
  have hS' : Bx w [(w.heap.size, 34, L1), (w.heap.size + 1, 34, L2), (w.heap.size + 1 + 1, 34, L3), (U1.heap.size, 34, LA)] (U1.alloc (.cells LA.toArray 34)) := hS.newAt 3 U1.heap.size rfl 34 LA _ rfl
  clear hS LB hl1 hl2 o1 o2 o3
  have hS := hS'
  clear hS'
  go_upto_region 2 with fail
  generalize U1.alloc (.cells LA.toArray 34) = U1' at hS ⊢
  generalize U1.heap.size = g7 at hS ⊢
  clear hst
  have hl1 := ldPL HL1.out (hS.get 0 rfl)
  have hl2 := ldPL HL2.out (hS.get 1 rfl)
  have hl3 := ldPL HL3.out (hS.get 2 rfl)
  have hb := bs3 L1 L2 L3 HL1.out HL2.out HL3.out U1'
  go_wp2_with fail
  refine (HS3.out U1' (HC.out.below hS.bl)).mono ?_
  rintro e U2 ⟨rfl, LB⟩
  have hS := (hS.below (below1 U1' _)).below LB
  have hst := stPLn U2 HLB.out HOB.out
  have hS' : Bx w [(w.heap.size, 34, L1), (w.heap.size + 1, 34, L2), (w.heap.size + 1 + 1, 34, L3), (g7, 34, LA), (U2.heap.size, 34, LY)] (U2.alloc (.cells LY.toArray 34)) := hS.newAt 4 U2.heap.size rfl 34 LY _ rfl
  clear hS LB hl1 hl2 hl3 hb
  have hS := hS'
  clear hS'
  go_upto_region 3 with fail
  generalize U2.alloc (.cells LY.toArray 34) = U2' at hS ⊢
  generalize U2.heap.size = g9 at hS ⊢
  clear hst
  go_wp2_with fail
  refine (HS0.out _ (HC.out.below hS.bl)).mono ?_
  rintro e U3 ⟨rfl, LB⟩
  have hS := hS.below LB
  have hst := stPLn U3 HLF.out HOF.out
  have hS' : Bx w [(w.heap.size, 34, L1), (w.heap.size + 1, 34, L2), (w.heap.size + 1 + 1, 34, L3), (g7, 34, LA), (g9, 34, LY), (U3.heap.size, 34, LF)] (U3.alloc (.cells LF.toArray 34)) := hS.newAt 5 U3.heap.size rfl 34 LF _ rfl
  clear hS LB
  have hS := hS'
  clear hS'
  go_upto_region 4 with fail
  generalize U3.alloc (.cells LF.toArray 34) = U3' at hS ⊢
  generalize U3.heap.size = g11 at hS ⊢
  clear hst
  have hlf := ldPL HLF.out (hS.get 5 rfl)
  go_wp2_with fail
  refine (HNA.out _ (HN.out.below hS.bl)).mono ?_
  rintro e U4 ⟨rfl, LB⟩
  have hS := hS.below LB
  clear LB hlf hbf hnf
  cases on1 with
  | false =>
    have HSU : Hid (LA = PZ ∧ LY = PZ ∧ EA = 100 ∧ EB = 100) := ⟨(N2.out rfl).1, (N3.out rfl).1, (N2.out rfl).2, (N3.out rfl).2⟩
    clear N2 N3 S2 S3 HRA HRB
    have hl := ldPL HL1.out (hS.get 0 rfl)
    go_wp2_with fail
    refine (HTH1.out _).mono ?_
    rintro e V1a ⟨rfl, LB⟩
    have hS := hS.below LB
    clear LB hl
    go_wp2_with fail
    refine (HRO1.out _).mono ?_
    rintro e V1 ⟨rfl, LB⟩
    have hS := hS.below LB
    clear LB
    skip
    rw [HSU.out.1] at hS
    rw [HSU.out.2.1] at hS
    rw [HSU.out.2.2.1, HSU.out.2.2.2]
    have hlx := ldPL (L := PZ) rfl (hS.get 3 rfl)
    have hly := ldPL (L := PZ) rfl (hS.get 4 rfl)
    have hbz : ∀ W : World, (bdA 34 #[]).run Tryd.prog W = .ok (.agg PZ.toArray) W := fun W => by kernel_rfl
    have heq : ∀ W : World, (eqA 34 (.agg PZ.toArray) (.agg PZ.toArray)).run Tryd.prog W = .ok (.bool true) W := fun W => by
      have h := eqP z32 z32 z32 z32 false false rfl rfl rfl rfl W
      rw [decide_eq_true ⟨rfl, rfl, rfl⟩] at h
      exact h
    have U9 := hide hS.bl
    clear hS
    generalize PZ = LZ at *
    go_wp2
    go_ret
    exact ⟨rfl, U9.out⟩
  | true =>
  cases on2 with
  | false =>
    have HSU : Hid (LA = PZ ∧ LY = PZ ∧ EA = 100 ∧ EB = 100) := ⟨(N2.out rfl).1, (N3.out rfl).1, (N2.out rfl).2, (N3.out rfl).2⟩
    clear N2 N3 S2 S3 HRA HRB
    have hl := ldPL HL1.out (hS.get 0 rfl)
    go_wp2_with fail
    refine (HTH1.out _).mono ?_
    rintro e V1a ⟨rfl, LB⟩
    have hS := hS.below LB
    clear LB hl
    go_wp2_with fail
    refine (HRO1.out _).mono ?_
    rintro e V1 ⟨rfl, LB⟩
    have hS := hS.below LB
    clear LB
    skip
    have hl := ldPL HL2.out (hS.get 1 rfl)
    go_wp2_with fail
    refine (HTH2.out _).mono ?_
    rintro e V2a ⟨rfl, LB⟩
    have hS := hS.below LB
    clear LB hl
    go_wp2_with fail
    refine (HRO2.out _).mono ?_
    rintro e V2 ⟨rfl, LB⟩
    have hS := hS.below LB
    clear LB
    skip
    rw [HSU.out.1] at hS
    rw [HSU.out.2.1] at hS
    rw [HSU.out.2.2.1, HSU.out.2.2.2]
    have hlx := ldPL (L := PZ) rfl (hS.get 3 rfl)
    have hly := ldPL (L := PZ) rfl (hS.get 4 rfl)
    have hbz : ∀ W : World, (bdA 34 #[]).run Tryd.prog W = .ok (.agg PZ.toArray) W := fun W => by kernel_rfl
    have heq : ∀ W : World, (eqA 34 (.agg PZ.toArray) (.agg PZ.toArray)).run Tryd.prog W = .ok (.bool true) W := fun W => by
      have h := eqP z32 z32 z32 z32 false false rfl rfl rfl rfl W
      rw [decide_eq_true ⟨rfl, rfl, rfl⟩] at h
      exact h
    have U9 := hide hS.bl
    clear hS
    generalize PZ = LZ at *
    go_wp2
    go_ret
    exact ⟨rfl, U9.out⟩
  | true =>
    have HSU : Hid (LA = pL (encX Q) (encY Q) (encF Q) ∧ EA = 0) := S2.out rfl
    have HRA2 : Hid (∀ W, Calls Tryd.prog 17 #[.agg L1.toArray, .agg L2.toArray] W (Ans (.agg (pL (encX Q) (encY Q) (encF Q)).toArray) W)) := fun W => HRA.out rfl rfl W
    clear HRA
    have HSX := hide (HSA.out Q)
    have HSYR := hide (HSA.out R)
    clear N2 S2 HSA
    have hl := ldPL HL1.out (hS.get 0 rfl)
    go_wp2_with fail
    refine (HTH1.out _).mono ?_
    rintro e V1a ⟨rfl, LB⟩
    have hS := hS.below LB
    clear LB hl
    go_wp2_with fail
    refine (HRO1.out _).mono ?_
    rintro e V1 ⟨rfl, LB⟩
    have hS := hS.below LB
    clear LB
    skip
    have hl := ldPL HL2.out (hS.get 1 rfl)
    go_wp2_with fail
    refine (HTH2.out _).mono ?_
    rintro e V2a ⟨rfl, LB⟩
    have hS := hS.below LB
    clear LB hl
    go_wp2_with fail
    refine (HRO2.out _).mono ?_
    rintro e V2 ⟨rfl, LB⟩
    have hS := hS.below LB
    clear LB
    skip
    go_wp2
    have hS := hS.drew
    refine wp_region_held_drew (S := Bx w [(w.heap.size, 34, L1), (w.heap.size + 1, 34, L2), (w.heap.size + 1 + 1, 34, L3), (g7, 34, LA), (g9, 34, LY), (g11, 34, LF)]) (by kernel_rfl) (hS.pre 6) (fun _ => ?_)
    generalize V2.drew = U1 at hS ⊢
    have hP : Bx w [(w.heap.size, 34, L1), (w.heap.size + 1, 34, L2), (w.heap.size + 1 + 1, 34, L3), (g7, 34, LA), (g9, 34, LY), (g11, 34, LF)] U1 := hS.pre 6
    refine wpAnyH_take (i := 0) (v := ?_) rfl (by kernel_rfl) (by kernel_rfl) (by kernel_rfl) (fun _ _ _ h => h) (Or.inl ⟨by rfl, ?_⟩) (by assumption) ?_
    rotate_left
    · intro wq hSq
      have hl := ldPL HL1.out (hSq.get 0 rfl)
      go_simp
      try with_reducible rfl
    simp only [List.getElem_toArray, List.getElem_cons_zero, Act.put, List.setIfInBounds_toArray, List.set_cons_zero, List.set_cons_succ]
    refine wpAnyH_take (i := 2) (v := ?_) rfl (by kernel_rfl) (by kernel_rfl) (by kernel_rfl) (fun _ _ _ h => h) (Or.inl ⟨by rfl, ?_⟩) (by assumption) ?_
    rotate_left
    · intro wq hSq
      have hl := ldPL HL2.out (hSq.get 1 rfl)
      go_simp
      try with_reducible rfl
    simp only [List.getElem_toArray, List.getElem_cons_succ, List.getElem_cons_zero, Act.put, List.setIfInBounds_toArray, List.set_cons_zero, List.set_cons_succ]
    clear hP
    refine' mk_restN (K := fun W g13 => Bx w [(w.heap.size, 34, L1), (w.heap.size + 1, 34, L2), (w.heap.size + 1 + 1, 34, L3), (g7, 34, LA), (g9, 34, LY), (g11, 34, LF), (g13, 41, PZ)] W) (fun R3a => ?_) ?_
    rotate_left
    · skip
      refine' mk_restW (K := fun W => Bx w [(w.heap.size, 34, L1), (w.heap.size + 1, 34, L2), (w.heap.size + 1 + 1, 34, L3), (g7, 34, LA), (g9, 34, LY), (g11, 34, LF)] W) (fun R3 => ?_) ?_
      rotate_left
      · skip
        refine' mk_restN (K := fun W g13 => Bx w [(w.heap.size, 34, L1), (w.heap.size + 1, 34, L2), (w.heap.size + 1 + 1, 34, L3), (g7, 34, LA), (g9, 34, LY), (g11, 34, LF), (g13, 41, PZ)] W) (fun R2a => ?_) ?_
        rotate_left
        · skip
          refine' mk_restW (K := fun W => Bx w [(w.heap.size, 34, L1), (w.heap.size + 1, 34, L2), (w.heap.size + 1 + 1, 34, L3), (g7, 34, LA), (g9, 34, LY), (g11, 34, LF)] W) (fun R2 => ?_) ?_
          rotate_left
          · skip
            refine' mk_restN (K := fun W g13 => Bx w [(w.heap.size, 34, L1), (w.heap.size + 1, 34, L2), (w.heap.size + 1 + 1, 34, L3), (g7, 34, LA), (g9, 34, LY), (g11, 34, LF), (g13, 41, PZ)] W) (fun R1a => ?_) ?_
            rotate_left
            · skip
              refine' mk_restW (K := fun W => Bx w [(w.heap.size, 34, L1), (w.heap.size + 1, 34, L2), (w.heap.size + 1 + 1, 34, L3), (g7, 34, LA), (g9, 34, LY), (g11, 34, LF)] W) (fun R1 => ?_) ?_
              rotate_left
              · skip
                refine' mk_restN (K := fun W g13 => Bx w [(w.heap.size, 34, L1), (w.heap.size + 1, 34, L2), (w.heap.size + 1 + 1, 34, L3), (g7, 34, LA), (g9, 34, LY), (g11, 34, LF), (g13, 41, PZ)] W) (fun R0a => ?_) ?_
                rotate_left
                · skip
                  refine wpAnyH_ready (rs := [1, 5]) (by kernel_rfl) (by simp) ?_
                  refine (AllReadyH.cons rfl (fun Kq hKq => ?_) (AllReadyH.cons rfl (fun Kq hKq => ?_) AllReadyH.nil))
                  · go_simp
                    refine (HTH1.out _).mono ?_
                    rintro e U2 ⟨rfl, LB⟩
                    have hS := hS.below LB
                    clear LB
                    refine hKq.out _ _ (hS.pre 6) (fun _ => ?_)
                    clear hKq Kq
                    exact R1.out U2 hS
                  · go_simp
                    have hS' := hS.newAt 6 U1.heap.size rfl 41 PZ Tryd.zeroCells41 zc_rpt
                    refine hKq.out _ _ (hS'.pre 6) (fun _ => ?_)
                    clear hKq Kq
                    generalize U1.alloc (.cells Tryd.zeroCells41 41) = U3 at hS' ⊢
                    generalize U1.heap.size = g13 at hS' ⊢
                    exact R0a.out U3 g13 hS'
                · rintro U4 g13 hS
                  refine wpAnyH_ready (rs := [1]) (by kernel_rfl) (by simp) ?_
                  refine (AllReadyH.cons rfl (fun Kq hKq => ?_) AllReadyH.nil)
                  · go_simp
                    refine (HTH1.out _).mono ?_
                    rintro e U5 ⟨rfl, LB⟩
                    have hS := hS.below LB
                    clear LB
                    refine hKq.out _ _ (hS.pre 6) (fun _ => ?_)
                    clear hKq Kq
                    exact R1a.out U5 g13 hS
              · rintro U6 hS
                refine wpAnyH_ready (rs := [3, 5]) (by kernel_rfl) (by simp) ?_
                refine (AllReadyH.cons rfl (fun Kq hKq => ?_) (AllReadyH.cons rfl (fun Kq hKq => ?_) AllReadyH.nil))
                · go_simp
                  refine (HTH2.out _).mono ?_
                  rintro e U7 ⟨rfl, LB⟩
                  have hS := hS.below LB
                  clear LB
                  refine hKq.out _ _ (hS.pre 6) (fun _ => ?_)
                  clear hKq Kq
                  exact R2.out U7 hS
                · go_simp
                  have hS' := hS.newAt 6 U6.heap.size rfl 41 PZ Tryd.zeroCells41 zc_rpt
                  refine hKq.out _ _ (hS'.pre 6) (fun _ => ?_)
                  clear hKq Kq
                  generalize U6.alloc (.cells Tryd.zeroCells41 41) = U8 at hS' ⊢
                  generalize U6.heap.size = g13 at hS' ⊢
                  exact R1a.out U8 g13 hS'
            · rintro U9 g13 hS
              refine wpAnyH_ready (rs := [3]) (by kernel_rfl) (by simp) ?_
              refine (AllReadyH.cons rfl (fun Kq hKq => ?_) AllReadyH.nil)
              · go_simp
                refine (HTH2.out _).mono ?_
                rintro e U10 ⟨rfl, LB⟩
                have hS := hS.below LB
                clear LB
                refine hKq.out _ _ (hS.pre 6) (fun _ => ?_)
                clear hKq Kq
                exact R2a.out U10 g13 hS
          · rintro U11 hS
            refine wpAnyH_ready (rs := [4, 5]) (by kernel_rfl) (by simp) ?_
            refine (AllReadyH.cons rfl (fun Kq hKq => ?_) (AllReadyH.cons rfl (fun Kq hKq => ?_) AllReadyH.nil))
            · go_simp
              refine (HRA2.out _).mono ?_
              rintro e U12 ⟨rfl, LB⟩
              have hS := hS.below LB
              clear LB
              refine hKq.out _ _ (hS.pre 6) (fun _ => ?_)
              clear hKq Kq
              exact R3.out U12 hS
            · go_simp
              have hS' := hS.newAt 6 U11.heap.size rfl 41 PZ Tryd.zeroCells41 zc_rpt
              refine hKq.out _ _ (hS'.pre 6) (fun _ => ?_)
              clear hKq Kq
              generalize U11.alloc (.cells Tryd.zeroCells41 41) = U13 at hS' ⊢
              generalize U11.heap.size = g13 at hS' ⊢
              exact R2a.out U13 g13 hS'
        · rintro U14 g13 hS
          refine wpAnyH_ready (rs := [4]) (by kernel_rfl) (by simp) ?_
          refine (AllReadyH.cons rfl (fun Kq hKq => ?_) AllReadyH.nil)
          · go_simp
            refine (HRA2.out _).mono ?_
            rintro e U15 ⟨rfl, LB⟩
            have hS := hS.below LB
            clear LB
            refine hKq.out _ _ (hS.pre 6) (fun _ => ?_)
            clear hKq Kq
            exact R3a.out U15 g13 hS
      · rintro U16 hS
        refine wpAnyH_ready (rs := [5]) (by kernel_rfl) (by simp) ?_
        refine (AllReadyH.cons rfl (fun Kq hKq => ?_) AllReadyH.nil)
        · go_simp
          have hS' := hS.newAt 6 U16.heap.size rfl 41 PZ Tryd.zeroCells41 zc_rpt
          refine hKq.out _ _ (hS'.pre 6) (fun _ => ?_)
          clear hKq Kq
          generalize U16.alloc (.cells Tryd.zeroCells41 41) = U17 at hS' ⊢
          generalize U16.heap.size = g13 at hS' ⊢
          exact R3a.out U17 g13 hS'
    · rintro U18 g13 hS
      have hst := stR (X := encX Q) (Y := encY Q) (f := encF Q) (hS.get 6 rfl) rfl HQX.out HQY.out
      refine wpAnyH_ready (rs := [6]) (by kernel_rfl) (by simp) ?_
      refine AllReadyH.cons rfl (fun Kq hKq => ?_) AllReadyH.nil
      go_simp
      have hS' : Bx w [(w.heap.size, 34, L1), (w.heap.size + 1, 34, L2), (w.heap.size + 1 + 1, 34, L3), (g7, 34, LA), (g9, 34, LY), (g11, 34, LF), (g13, 41, (pL (encX Q) (encY Q) (encF Q)))] (U18.setCells g13 0 (pL (encX Q) (encY Q) (encF Q))) := hS.setAt 6 (pL (encX Q) (encY Q) (encF Q)) rfl (by rw [pL_len HQX.out HQY.out]; rfl)
      refine hKq.out _ _ (hS'.pre 6) (fun _ => ?_)
      clear hKq Kq hst hS
      have hS := hS'
      clear hS'
      generalize U18.setCells g13 0 (pL (encX Q) (encY Q) (encF Q)) = U19 at hS ⊢
      refine wpAnyH_done (by kernel_rfl) ?_ _
      skip
      have hl7 := ldPL HLA.out (hS.get 3 rfl)
      have hl13 := (rpt_ld HQX.out HQY.out (hS.get 6 rfl)).1
      have HEA := hide HSU.out.2
      rw [HEA.out]
      have HSX' : Hid (∀ W, Calls Tryd.prog 18 #[.agg LA.toArray, .agg (pL (encX Q) (encY Q) (encF Q)).toArray] W (Ans (.bool true) W)) := fun W => by rw [HSU.out.1]; exact HSX.out W
      go_wp2_with fail
      refine (HSX'.out _).mono ?_
      rintro e V5 ⟨rfl, LB⟩
      have hS := hS.below LB
      clear LB hl7 hl13
      have hl := ldPL HL3.out (hS.get 2 rfl)
      go_wp2_with fail
      refine (HTH3.out _).mono ?_
      rintro e V6a ⟨rfl, LB⟩
      have hS := hS.below LB
      clear LB hl
      go_wp2_with fail
      refine (HRO3.out _).mono ?_
      rintro e V6 ⟨rfl, LB⟩
      have hS := hS.below LB
      clear LB
      skip
      cases on3 with
      | false =>
        have HSV : Hid (LY = PZ ∧ EB = 100) := N3.out rfl
        rw [HSV.out.1] at hS
        rw [HSV.out.2]
        have hly := ldPL (L := PZ) rfl (hS.get 4 rfl)
        have hbz : ∀ W : World, (bdA 34 #[]).run Tryd.prog W = .ok (.agg PZ.toArray) W := fun W => by kernel_rfl
        have heq : ∀ W : World, (eqA 34 (.agg PZ.toArray) (.agg PZ.toArray)).run Tryd.prog W = .ok (.bool true) W := fun W => by
          have h := eqP z32 z32 z32 z32 false false rfl rfl rfl rfl W
          rw [decide_eq_true ⟨rfl, rfl, rfl⟩] at h
          exact h
        have U9 := hide hS.bl
        clear hS
        generalize PZ = LZ at *
        go_wp2
        go_ret
        exact ⟨rfl, U9.out⟩
      | true =>
        have HSV : Hid (LY = pL (encX R) (encY R) (encF R) ∧ EB = 0) := S3.out rfl
        have HRB2 : Hid (∀ W, Calls Tryd.prog 17 #[.agg (pL (encX Q) (encY Q) (encF Q)).toArray, .agg L3.toArray] W (Ans (.agg (pL (encX R) (encY R) (encF R)).toArray) W)) := fun W => HRB.out (by simp) (by simp) (by simp) W
        have HSY : Hid (∀ W, Calls Tryd.prog 18 #[.agg LY.toArray, .agg (pL (encX R) (encY R) (encF R)).toArray] W (Ans (.bool true) W)) := fun W => by rw [HSV.out.1]; exact HSYR.out W
        rw [HSV.out.2]
        go_wp2
        have hS := hS.drew
        refine wp_region_held_drew (S := Bx w [(w.heap.size, 34, L1), (w.heap.size + 1, 34, L2), (w.heap.size + 1 + 1, 34, L3), (g7, 34, LA), (g9, 34, LY), (g11, 34, LF), (g13, 41, (pL (encX Q) (encY Q) (encF Q)))]) (by kernel_rfl) (hS.pre 7) (fun _ => ?_)
        generalize V6.drew = U1 at hS ⊢
        have hP : Bx w [(w.heap.size, 34, L1), (w.heap.size + 1, 34, L2), (w.heap.size + 1 + 1, 34, L3), (g7, 34, LA), (g9, 34, LY), (g11, 34, LF), (g13, 41, (pL (encX Q) (encY Q) (encF Q)))] U1 := hS.pre 7
        refine wpAnyH_take (i := 0) (v := ?_) rfl (by kernel_rfl) (by kernel_rfl) (by kernel_rfl) (fun _ _ _ h => h) (Or.inl ⟨by rfl, ?_⟩) (by assumption) ?_
        rotate_left
        · intro wq hSq
          go_simp
          try with_reducible rfl
        simp only [List.getElem_toArray, List.getElem_cons_zero, Act.put, List.setIfInBounds_toArray, List.set_cons_zero, List.set_cons_succ]
        refine wpAnyH_take (i := 1) (v := ?_) rfl (by kernel_rfl) (by kernel_rfl) (by kernel_rfl) (fun _ _ _ h => h) (Or.inl ⟨by rfl, ?_⟩) (by assumption) ?_
        rotate_left
        · intro wq hSq
          go_simp
          try with_reducible rfl
        simp only [List.getElem_toArray, List.getElem_cons_succ, List.getElem_cons_zero, Act.put, List.setIfInBounds_toArray, List.set_cons_zero, List.set_cons_succ]
        refine wpAnyH_take (i := 2) (v := ?_) rfl (by kernel_rfl) (by kernel_rfl) (by kernel_rfl) (fun _ _ _ h => h) (Or.inl ⟨by rfl, ?_⟩) (by assumption) ?_
        rotate_left
        · intro wq hSq
          go_simp
          try with_reducible rfl
        simp only [List.getElem_toArray, List.getElem_cons_succ, List.getElem_cons_zero, Act.put, List.setIfInBounds_toArray, List.set_cons_zero, List.set_cons_succ]
        refine wpAnyH_take (i := 3) (v := ?_) rfl (by kernel_rfl) (by kernel_rfl) (by kernel_rfl) (fun _ _ _ h => h) (Or.inl ⟨by rfl, ?_⟩) (by assumption) ?_
        rotate_left
        · intro wq hSq
          have hl := ldPL HLB.out (hSq.get 4 rfl)
          go_simp
          try with_reducible rfl
        simp only [List.getElem_toArray, List.getElem_cons_succ, List.getElem_cons_zero, Act.put, List.setIfInBounds_toArray, List.set_cons_zero, List.set_cons_succ]
        refine wpAnyH_take (i := 4) (v := ?_) rfl (by kernel_rfl) (by kernel_rfl) (by kernel_rfl) (fun _ _ _ h => h) (Or.inl ⟨by rfl, ?_⟩) (by assumption) ?_
        rotate_left
        · intro wq hSq
          have hl := (rpt_ld HQX.out HQY.out (hSq.get 6 rfl)).1
          go_simp
          try with_reducible rfl
        simp only [List.getElem_toArray, List.getElem_cons_succ, List.getElem_cons_zero, Act.put, List.setIfInBounds_toArray, List.set_cons_zero, List.set_cons_succ]
        refine wpAnyH_take (i := 5) (v := ?_) rfl (by kernel_rfl) (by kernel_rfl) (by kernel_rfl) (fun _ _ _ h => h) (Or.inl ⟨by rfl, ?_⟩) (by assumption) ?_
        rotate_left
        · intro wq hSq
          have hl := ldPL HL3.out (hSq.get 2 rfl)
          go_simp
          try with_reducible rfl
        simp only [List.getElem_toArray, List.getElem_cons_succ, List.getElem_cons_zero, Act.put, List.setIfInBounds_toArray, List.set_cons_zero, List.set_cons_succ]
        clear hP
        refine wpAnyH_ready (rs := [6]) (by kernel_rfl) (by simp) ?_
        refine AllReadyH.cons rfl (fun Kq hKq => ?_) AllReadyH.nil
        go_simp
        refine (HTH3.out _).mono ?_
        rintro e U2 ⟨rfl, LB⟩
        have hS := hS.below LB
        clear LB
        refine hKq.out _ _ (hS.pre 7) (fun _ => ?_)
        clear hKq Kq
        have hP : Bx w [(w.heap.size, 34, L1), (w.heap.size + 1, 34, L2), (w.heap.size + 1 + 1, 34, L3), (g7, 34, LA), (g9, 34, LY), (g11, 34, LF), (g13, 41, (pL (encX Q) (encY Q) (encF Q)))] U2 := hS.pre 7
        clear hP
        refine wpAnyH_ready (rs := [7]) (by kernel_rfl) (by simp) ?_
        refine AllReadyH.cons rfl (fun Kq hKq => ?_) AllReadyH.nil
        go_simp
        refine (HRB2.out _).mono ?_
        rintro e U3 ⟨rfl, LB⟩
        have hS := hS.below LB
        clear LB
        refine hKq.out _ _ (hS.pre 7) (fun _ => ?_)
        clear hKq Kq
        have hP : Bx w [(w.heap.size, 34, L1), (w.heap.size + 1, 34, L2), (w.heap.size + 1 + 1, 34, L3), (g7, 34, LA), (g9, 34, LY), (g11, 34, LF), (g13, 41, (pL (encX Q) (encY Q) (encF Q)))] U3 := hS.pre 7
        clear hP
        refine wpAnyH_ready (rs := [8]) (by kernel_rfl) (by simp) ?_
        refine AllReadyH.cons rfl (fun Kq hKq => ?_) AllReadyH.nil
        go_simp
        refine (HSY.out _).mono ?_
        rintro e U4 ⟨rfl, LB⟩
        have hS := hS.below LB
        clear LB
        refine hKq.out _ _ (hS.pre 7) (fun _ => ?_)
        clear hKq Kq
        have hP : Bx w [(w.heap.size, 34, L1), (w.heap.size + 1, 34, L2), (w.heap.size + 1 + 1, 34, L3), (g7, 34, LA), (g9, 34, LY), (g11, 34, LF), (g13, 41, (pL (encX Q) (encY Q) (encF Q)))] U4 := hS.pre 7
        refine wpAnyH_take (i := 9) (v := ?_) rfl (by kernel_rfl) (by kernel_rfl) (by kernel_rfl) (fun _ _ _ h => h) (Or.inl ⟨by rfl, ?_⟩) (by assumption) ?_
        rotate_left
        · intro wq hSq
          go_simp
          try with_reducible rfl
        simp only [List.getElem_toArray, List.getElem_cons_succ, List.getElem_cons_zero, Act.put, List.setIfInBounds_toArray, List.set_cons_zero, List.set_cons_succ]
        refine wpAnyH_ready (rs := [10]) (by kernel_rfl) (by simp) ?_
        refine AllReadyH.cons rfl (fun Kq hKq => ?_) AllReadyH.nil
        go_simp
        refine hKq.out _ _ (hS.pre 7) (fun _ => ?_)
        clear hKq Kq
        clear hP
        refine wpAnyH_done (by kernel_rfl) ?_ _
        have U9 := hide hS.bl
        clear hS
        go_wp2
        go_ret
        exact ⟨rfl, U9.out⟩
end Go.Proofs.YtnabmdpgibnkaabDoor
