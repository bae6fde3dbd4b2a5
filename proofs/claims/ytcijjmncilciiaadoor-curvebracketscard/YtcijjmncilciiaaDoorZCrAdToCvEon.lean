/-
  The document's Add: the sum of two points.
  curve.Add: the sum of two points.
  A point's bytes are those of a point of the curve. Plain facts.
-/
import Derived.Test.YtcijjmncilciiaaDoorZCrMl
import Derived.Test.YtcijjmncilciiaaDoorZCvSuToCvBs
namespace Go.Proofs.YtcijjmncilciiaaDoor
open Go.RowKit Go.IntWalk
attribute [local go_sem ↓] ld_F st_F eq_F ld_J st_J bd_J bd_F ld_a32 st_a32 ld_rpt st_rpt eq_rpt bd_rpt

set_option maxRecDepth 100000 in
set_option maxHeartbeats 4000000 in
theorem radd_rep (X1 Y1 : List Int) (f1 : Bool) (X2 Y2 : List Int) (f2 : Bool) (hX1 : X1.length = 32) (hY1 : Y1.length = 32) (dX1 : Dg 256 X1) (dY1 : Dg 256 Y1) (hon1 : onP X1 Y1 f1 = true) (hX2 : X2.length = 32) (hY2 : Y2.length = 32) (dX2 : Dg 256 X2) (dY2 : Dg 256 Y2) (hon2 : onP X2 Y2 f2 = true) (Q : Option (Int × Int)) (hQ : padd (ptOf X1 Y1 f1) (ptOf X2 Y2 f2) = Q) (w : World) :
    Calls Tryd.prog 13 #[.agg (pL X1 Y1 f1).toArray, .agg (pL X2 Y2 f2).toArray] w (Ans (.agg (pL (encX Q) (encY Q) (encF Q)).toArray) w) := by
  have HX1 := hide hX1
  have HY1 := hide hY1
  have HX2 := hide hX2
  have HY2 := hide hY2
  have HQX := hide (encX_len Q)
  have HQY := hide (encY_len Q)
  have o1 := pL_one X1 Y1 f1
  have o2 := pL_one X2 Y2 f2
  have hS : Bx w [(w.heap.size, 33, pL X1 Y1 f1), (w.heap.size + 1, 33, pL X2 Y2 f2), (w.heap.size + 1 + 1, 33, PZ)] (((w.alloc (.cells (pL X1 Y1 f1).toArray 33)).alloc (.cells (pL X2 Y2 f2).toArray 33)).alloc (.cells Tryd.zeroCells33 33)) :=
    (((Bx.nil w).newAt 0 (w.heap.size) (by simp) 33 (pL X1 Y1 f1) _ rfl).newAt 1 (w.heap.size + 1) (by simp) 33 (pL X2 Y2 f2) _ rfl).newAt 2 (w.heap.size + 1 + 1) (by simp) 33 PZ _ zc_rpt
  have HAT1 : Hid (∀ gf W, FF W gf → Calls Tryd.prog 46 #[.pointer (some ⟨gf, 0, none⟩), .agg (pL X1 Y1 f1).toArray] W (AnsD (ptOf X1 Y1 f1) W)) := fun gf W hF => rat_rep hX1 hY1 dX1 dY1 hon1 gf W hF
  have HAT2 : Hid (∀ gf W, FF W gf → Calls Tryd.prog 46 #[.pointer (some ⟨gf, 0, none⟩), .agg (pL X2 Y2 f2).toArray] W (AnsD (ptOf X2 Y2 f2) W)) := fun gf W hF => rat_rep hX2 hY2 dX2 dY2 hon2 gf W hF
  have HSM : Hid (∀ {x1 y1 z1 x2 y2 z2 : Int}, RepD x1 y1 z1 (ptOf X1 Y1 f1) → RepD x2 y2 z2 (ptOf X2 Y2 f2) → ∀ gf W, FF W gf → Calls Tryd.prog 45 #[.pointer (some ⟨gf, 0, none⟩), .agg (j3 x1 y1 z1).toArray, .agg (j3 x2 y2 z2).toArray] W (AnsD Q W)) := fun h1 h2 gf W hF => by rw [← hQ]; exact rsum_rep h1 h2 gf W hF
  have HPT : Hid (∀ {x y z : Int}, RepD x y z Q → ∀ gf W, FF W gf → Calls Tryd.prog 44 #[.pointer (some ⟨gf, 0, none⟩), .agg (j3 x y z).toArray] W (Ans (.agg (pL (encX Q) (encY Q) (encF Q)).toArray) W)) := fun h gf W hF => rpoint_rep h gf W hF
  clear hX1 hY1 dX1 dY1 hon1 hX2 hY2 dX2 dY2 hon2 hQ
  go_enter Tryd.func13, Tryd.ntmps13
  go_wp2_with fail
  refine (rpW_any _).mono ?_
  rintro e U1 ⟨rfl, LB⟩
  have hS := hS.below LB
  clear LB o1 o2
  go_wp2_with fail
  refine (rnew_any _).mono ?_
  rintro e U2 ⟨gf, rfl, hgf, hFd, LB⟩
  have hS0 := hS.grow LB hgf hFd.blk
  have hS : Bx w [(w.heap.size, 33, pL X1 Y1 f1), (w.heap.size + 1, 33, pL X2 Y2 f2), (gf, 89, fdL oneW sqW 1), (w.heap.size + 1 + 1, 33, PZ)] U2 := hS0.toEnd 2 rfl
  clear hS0 LB hgf hFd
  go_wp2
  have hS := hS.drew
  refine wp_region_held_drew (S := Bx w [(w.heap.size, 33, pL X1 Y1 f1), (w.heap.size + 1, 33, pL X2 Y2 f2), (gf, 89, fdL oneW sqW 1)]) (by kernel_rfl) (hS.pre 3) (fun _ => ?_)
  generalize U2.drew = U1 at hS ⊢
  have hP : Bx w [(w.heap.size, 33, pL X1 Y1 f1), (w.heap.size + 1, 33, pL X2 Y2 f2), (gf, 89, fdL oneW sqW 1)] U1 := hS.pre 3
  refine wpAnyH_take (i := 0) (v := ?_) rfl (by kernel_rfl) (by kernel_rfl) (by kernel_rfl) (fun _ _ _ h => h) (Or.inl ⟨by rfl, ?_⟩) (by assumption) ?_
  rotate_left
  · intro wq hSq
    go_simp
    try with_reducible rfl
  simp only [List.getElem_toArray, List.getElem_cons_zero, Act.put, List.setIfInBounds_toArray, List.set_cons_zero, List.set_cons_succ]
  refine wpAnyH_take (i := 1) (v := ?_) rfl (by kernel_rfl) (by kernel_rfl) (by kernel_rfl) (fun _ _ _ h => h) (Or.inl ⟨by rfl, ?_⟩) (by assumption) ?_
  rotate_left
  · intro wq hSq
    go_simp
    try with_reducible rfl
  simp only [List.getElem_toArray, List.getElem_cons_succ, List.getElem_cons_zero, Act.put, List.setIfInBounds_toArray, List.set_cons_zero, List.set_cons_succ]
  refine wpAnyH_take (i := 2) (v := ?_) rfl (by kernel_rfl) (by kernel_rfl) (by kernel_rfl) (fun _ _ _ h => h) (Or.inl ⟨by rfl, ?_⟩) (by assumption) ?_
  rotate_left
  · intro wq hSq
    go_simp
    try with_reducible rfl
  simp only [List.getElem_toArray, List.getElem_cons_succ, List.getElem_cons_zero, Act.put, List.setIfInBounds_toArray, List.set_cons_zero, List.set_cons_succ]
  refine wpAnyH_take (i := 3) (v := ?_) rfl (by kernel_rfl) (by kernel_rfl) (by kernel_rfl) (fun _ _ _ h => h) (Or.inl ⟨by rfl, ?_⟩) (by assumption) ?_
  rotate_left
  · intro wq hSq
    have hl := (rpt_ld HX1.out HY1.out (hSq.get 0 rfl)).1
    go_simp
    try with_reducible rfl
  simp only [List.getElem_toArray, List.getElem_cons_succ, List.getElem_cons_zero, Act.put, List.setIfInBounds_toArray, List.set_cons_zero, List.set_cons_succ]
  refine wpAnyH_take (i := 5) (v := ?_) rfl (by kernel_rfl) (by kernel_rfl) (by kernel_rfl) (fun _ _ _ h => h) (Or.inl ⟨by rfl, ?_⟩) (by assumption) ?_
  rotate_left
  · intro wq hSq
    go_simp
    try with_reducible rfl
  simp only [List.getElem_toArray, List.getElem_cons_succ, List.getElem_cons_zero, Act.put, List.setIfInBounds_toArray, List.set_cons_zero, List.set_cons_succ]
  refine wpAnyH_take (i := 6) (v := ?_) rfl (by kernel_rfl) (by kernel_rfl) (by kernel_rfl) (fun _ _ _ h => h) (Or.inl ⟨by rfl, ?_⟩) (by assumption) ?_
  rotate_left
  · intro wq hSq
    have hl := (rpt_ld HX2.out HY2.out (hSq.get 1 rfl)).1
    go_simp
    try with_reducible rfl
  simp only [List.getElem_toArray, List.getElem_cons_succ, List.getElem_cons_zero, Act.put, List.setIfInBounds_toArray, List.set_cons_zero, List.set_cons_succ]
  clear hP
  refine wpAnyH_ready (rs := [4]) (by kernel_rfl) (by simp) ?_
  refine AllReadyH.cons rfl (fun Kq hKq => ?_) AllReadyH.nil
  go_simp
  refine (HAT1.out gf _ ⟨hS.get 2 rfl, rfl, rfl⟩).mono ?_
  rintro e U2 ⟨a1, b1, c1, rfl, hA1, LB⟩
  have hS := hS.below LB
  clear LB
  have HA1 := hide hA1
  clear hA1
  refine hKq.out _ _ (hS.pre 3) (fun _ => ?_)
  clear hKq Kq
  refine wpAnyH_ready (rs := [7]) (by kernel_rfl) (by simp) ?_
  refine AllReadyH.cons rfl (fun Kq hKq => ?_) AllReadyH.nil
  go_simp
  refine (HAT2.out gf _ ⟨hS.get 2 rfl, rfl, rfl⟩).mono ?_
  rintro e U3 ⟨a2, b2, c2, rfl, hA2, LB⟩
  have hS := hS.below LB
  clear LB
  have HA2 := hide hA2
  clear hA2
  refine hKq.out _ _ (hS.pre 3) (fun _ => ?_)
  clear hKq Kq
  refine wpAnyH_ready (rs := [8]) (by kernel_rfl) (by simp) ?_
  refine AllReadyH.cons rfl (fun Kq hKq => ?_) AllReadyH.nil
  go_simp
  refine (HSM.out HA1.out HA2.out gf _ ⟨hS.get 2 rfl, rfl, rfl⟩).mono ?_
  rintro e U4 ⟨a3, b3, c3, rfl, hA3, LB⟩
  have hS := hS.below LB
  clear LB
  have HA3 := hide hA3
  clear hA3
  refine hKq.out _ _ (hS.pre 3) (fun _ => ?_)
  clear hKq Kq
  refine wpAnyH_ready (rs := [9]) (by kernel_rfl) (by simp) ?_
  refine AllReadyH.cons rfl (fun Kq hKq => ?_) AllReadyH.nil
  go_simp
  refine (HPT.out HA3.out gf _ ⟨hS.get 2 rfl, rfl, rfl⟩).mono ?_
  rintro e U5 ⟨rfl, LB⟩
  have hS := hS.below LB
  clear LB
  refine hKq.out _ _ (hS.pre 3) (fun _ => ?_)
  clear hKq Kq
  have hst := stR (X := encX Q) (Y := encY Q) (f := encF Q) (hS.get 3 rfl) rfl HQX.out HQY.out
  refine wpAnyH_ready (rs := [10]) (by kernel_rfl) (by simp) ?_
  refine AllReadyH.cons rfl (fun Kq hKq => ?_) AllReadyH.nil
  go_simp
  have hS' : Bx w [(w.heap.size, 33, pL X1 Y1 f1), (w.heap.size + 1, 33, pL X2 Y2 f2), (gf, 89, fdL oneW sqW 1), (w.heap.size + 1 + 1, 33, (pL (encX Q) (encY Q) (encF Q)))] (U5.setCells (w.heap.size + 1 + 1) 0 (pL (encX Q) (encY Q) (encF Q))) := hS.setAt 3 (pL (encX Q) (encY Q) (encF Q)) rfl (by rw [pL_len HQX.out HQY.out]; rfl)
  refine hKq.out _ _ (hS'.pre 3) (fun _ => ?_)
  clear hKq Kq hst hS
  have hS := hS'
  clear hS'
  generalize U5.setCells (w.heap.size + 1 + 1) 0 (pL (encX Q) (encY Q) (encF Q)) = U6 at hS ⊢
  refine wpAnyH_done (by kernel_rfl) ?_ _
  go_wp2
  refine bodyPost_ret (v := .agg (pL (encX Q) (encY Q) (encF Q)).toArray) ?_ rfl ⟨rfl, hS.bl⟩
  exact res_one (T := 33) (p := 4) (ty := 33) (X := pL (encX Q) (encY Q) (encF Q)) (by kernel_rfl) _ _ rfl Tryd.underlying33 rfl (by rw [pL_len HQX.out HQY.out]; exact info_rpt) (hS.get 3 rfl)

end Go.Proofs.YtcijjmncilciiaaDoor

namespace Go.Proofs.YtcijjmncilciiaaDoor
open Go.RowKit Go.IntWalk
attribute [local go_sem ↓] ld_num st_num ld_pln st_pln ld_ops st_ops ld_pnt st_pnt ld_dig st_dig ld_tri st_tri eq_num ne_num eq_pnt ne_pnt bd_pnt ld_F st_F eq_F ld_a32 st_a32 ld_rpt st_rpt eq_rpt bd_rpt eq_dgs bs_pts

theorem suL_len (ps : List (List Int × List Int × Bool)) : (suL ps).length = 65 := by
  unfold suL
  split
  · exact pL_len (encX_len _) (encY_len _) _
  · rfl
theorem suL_one (ps : List (List Int × List Int × Bool)) : ∀ v ∈ suL ps, v.oneCell' = true := by
  unfold suL
  split
  · exact pL_one _ _ _
  · exact pL_one _ _ _
theorem stPL {T : TypeId} {w : World} {g : Nat} {Z L : List Value} (h : Blk T w g Z) (hZ : Z.length = 65) (hL : L.length = 65) (h1 : ∀ v ∈ L, v.oneCell' = true) : (stA 25 (.pointer (some ⟨g, 0, none⟩)) (.agg L.toArray)).run Tryd.prog w = .ok () (w.setCells g 0 L) :=
  stA_all (by rw [hL]; exact info_pnt) h (by rw [hZ, hL]) h1
theorem stPLn (w : World) {L : List Value} (hL : L.length = 65) (h1 : ∀ v ∈ L, v.oneCell' = true) : (stA 25 (.pointer (some ⟨w.heap.size, 0, none⟩)) (.agg L.toArray)).run Tryd.prog (w.alloc (.cells Tryd.zeroCells25 25)) = .ok () (w.alloc (.cells L.toArray 25)) :=
  run_storeAt_new (P := Tryd.prog) w 25 _ L.toArray (by rw [List.size_toArray, hL]; exact info_pnt) (by rw [zc_pnt]; simp [hL, PZ, pL_len (X := z32) (Y := z32) rfl rfl]) (all_oneCell_toArray h1)
theorem ldPL {T : TypeId} {w : World} {g : Nat} {L : List Value} (hL : L.length = 65) (h : Blk T w g L) : (ldA 25 (.pointer (some ⟨g, 0, none⟩))).run Tryd.prog w = .ok (.agg L.toArray) w :=
  ldA_all Tryd.underlying25 rfl (by rw [hL]; exact info_pnt) h
theorem pOk2 {X1 Y1 X2 Y2 : List Int} {f1 f2 : Bool} (h1 : X1.length = 32 ∧ Y1.length = 32 ∧ Dg 256 X1 ∧ Dg 256 Y1) (h2 : X2.length = 32 ∧ Y2.length = 32 ∧ Dg 256 X2 ∧ Dg 256 Y2) : pOk [(X1, Y1, f1), (X2, Y2, f2)] := by
  intro p hp
  simp only [List.mem_cons, List.not_mem_nil, or_false] at hp
  rcases hp with rfl | rfl
  · exact h1
  · exact h2
theorem pOk3 {X1 Y1 X2 Y2 X3 Y3 : List Int} {f1 f2 f3 : Bool} (h1 : X1.length = 32 ∧ Y1.length = 32 ∧ Dg 256 X1 ∧ Dg 256 Y1) (h2 : X2.length = 32 ∧ Y2.length = 32 ∧ Dg 256 X2 ∧ Dg 256 Y2) (h3 : X3.length = 32 ∧ Y3.length = 32 ∧ Dg 256 X3 ∧ Dg 256 Y3) : pOk [(X1, Y1, f1), (X2, Y2, f2), (X3, Y3, f3)] := by
  intro p hp
  simp only [List.mem_cons, List.not_mem_nil, or_false] at hp
  rcases hp with rfl | rfl | rfl
  · exact h1
  · exact h2
  · exact h3

/-- Sum of two points and of three, where they lie in a new row. -/
theorem sum_two {X1 Y1 X2 Y2 : List Int} {f1 f2 : Bool} (hok : pOk [(X1, Y1, f1), (X2, Y2, f2)]) (w : World) (hC : Cv w) : Calls Tryd.prog 9 #[.slice (some ⟨w.heap.size, 0, none⟩) 2 2] (w.alloc (.cells (pL X1 Y1 f1 ++ pL X2 Y2 f2).toArray 25)) (Ans (.tuple #[.agg (suL [(X1, Y1, f1), (X2, Y2, f2)]).toArray, .int .i64 (suE [(X1, Y1, f1), (X2, Y2, f2)])]) (w.alloc (.cells (pL X1 Y1 f1 ++ pL X2 Y2 f2).toArray 25))) :=
  sum_any' (some ⟨w.heap.size, 0, none⟩) [(X1, Y1, f1), (X2, Y2, f2)] hok (by simp) _ (.inr ⟨_, rfl, Blk.new _ _ _ _ (by simp [pCs]) rfl⟩) (hC.alloc _)
theorem sum_three {X1 Y1 X2 Y2 X3 Y3 : List Int} {f1 f2 f3 : Bool} (hok : pOk [(X1, Y1, f1), (X2, Y2, f2), (X3, Y3, f3)]) (w : World) (hC : Cv w) : Calls Tryd.prog 9 #[.slice (some ⟨w.heap.size, 0, none⟩) 3 3] (w.alloc (.cells (pL X1 Y1 f1 ++ (pL X2 Y2 f2 ++ pL X3 Y3 f3)).toArray 25)) (Ans (.tuple #[.agg (suL [(X1, Y1, f1), (X2, Y2, f2), (X3, Y3, f3)]).toArray, .int .i64 (suE [(X1, Y1, f1), (X2, Y2, f2), (X3, Y3, f3)])]) (w.alloc (.cells (pL X1 Y1 f1 ++ (pL X2 Y2 f2 ++ pL X3 Y3 f3)).toArray 25))) :=
  sum_any' (some ⟨w.heap.size, 0, none⟩) [(X1, Y1, f1), (X2, Y2, f2), (X3, Y3, f3)] hok (by simp) _ (.inr ⟨_, rfl, Blk.new _ _ _ _ (by simp [pCs]) rfl⟩) (hC.alloc _)
theorem sum_nil (w : World) (hC : Cv w) : Calls Tryd.prog 9 #[.slice none 0 0] w (Ans (.tuple #[.agg (pL z32 z32 true).toArray, .int .i64 0]) w) :=
  sum_any' none [] (fun _ h => by cases h) (by decide) w (.inl ⟨rfl, rfl⟩) hC

set_option maxRecDepth 100000 in
set_option maxHeartbeats 4000000 in
theorem add_any (X1 Y1 : List Int) (f1 : Bool) (X2 Y2 : List Int) (f2 : Bool) (h1 : X1.length = 32 ∧ Y1.length = 32 ∧ Dg 256 X1 ∧ Dg 256 Y1) (h2 : X2.length = 32 ∧ Y2.length = 32 ∧ Dg 256 X2 ∧ Dg 256 Y2) (w : World) (hC : Cv w) :
    Calls Tryd.prog 8 #[.agg (pL X1 Y1 f1).toArray, .agg (pL X2 Y2 f2).toArray] w (Ans (.tuple #[.agg (suL [(X1, Y1, f1), (X2, Y2, f2)]).toArray, .int .i64 (suE [(X1, Y1, f1), (X2, Y2, f2)])]) w) := by
  have HC := hide hC
  have o1 := pL_one X1 Y1 f1
  have o2 := pL_one X2 Y2 f2
  have hS : Bx w [(w.heap.size, 25, pL X1 Y1 f1), (w.heap.size + 1, 25, pL X2 Y2 f2), (w.heap.size + 1 + 1, 25, PZ)] (((w.alloc (.cells (pL X1 Y1 f1).toArray 25)).alloc (.cells (pL X2 Y2 f2).toArray 25)).alloc (.cells Tryd.zeroCells25 25)) :=
    (((Bx.nil w).newAt 0 (w.heap.size) (by simp) 25 (pL X1 Y1 f1) _ rfl).newAt 1 (w.heap.size + 1) (by simp) 25 (pL X2 Y2 f2) _ rfl).newAt 2 (w.heap.size + 1 + 1) (by simp) 25 PZ _ zc_pnt
  have HS2 : Hid (∀ W, Cv W → Calls Tryd.prog 9 #[.slice (some ⟨W.heap.size, 0, none⟩) 2 2] (W.alloc (.cells (pL X1 Y1 f1 ++ pL X2 Y2 f2).toArray 25)) (Ans (.tuple #[.agg (suL [(X1, Y1, f1), (X2, Y2, f2)]).toArray, .int .i64 (suE [(X1, Y1, f1), (X2, Y2, f2)])]) (W.alloc (.cells (pL X1 Y1 f1 ++ pL X2 Y2 f2).toArray 25)))) := fun W hW => sum_two (pOk2 h1 h2) W hW
  have HL1 : Hid ((pL X1 Y1 f1).length = 65) := pL_len h1.1 h1.2.1 f1
  have HL2 : Hid ((pL X2 Y2 f2).length = 65) := pL_len h2.1 h2.2.1 f2
  have HSL := hide (suL_len [(X1, Y1, f1), (X2, Y2, f2)])
  have HSO := hide (suL_one [(X1, Y1, f1), (X2, Y2, f2)])
  generalize suL [(X1, Y1, f1), (X2, Y2, f2)] = LS at *
  generalize suE [(X1, Y1, f1), (X2, Y2, f2)] = ES at *
  generalize pL X1 Y1 f1 = L1 at *
  generalize pL X2 Y2 f2 = L2 at *
  clear h1 h2 hC
  go_enter Tryd.func8, Tryd.ntmps8
  go_upto_region 1 with fail
  generalize (((w.alloc (.cells L1.toArray 25)).alloc (.cells L2.toArray 25)).alloc (.cells Tryd.zeroCells25 25)) = U0 at hS ⊢
  clear o1 o2
  have l1 := ldPL HL1.out (hS.get 0 rfl)
  have l2 := ldPL HL2.out (hS.get 1 rfl)
  have hb := bs2 L1 L2 HL1.out HL2.out U0
  go_wp2_with fail
  refine (HS2.out U0 (HC.out.below hS.bl)).mono ?_
  rintro e U1 ⟨rfl, LB⟩
  have hS := (hS.below (below1 U0 _)).below LB
  have hst := stPL (hS.get 2 rfl) rfl HSL.out HSO.out
  have hS' : Bx w [(w.heap.size, 25, L1), (w.heap.size + 1, 25, L2), (w.heap.size + 1 + 1, 25, LS)] (U1.setCells (w.heap.size + 1 + 1) 0 LS) := hS.setAt 2 LS rfl (by rw [HSL.out]; rfl)
  clear hS LB l1 l2 hb
  go_wp2
  generalize U1.setCells (w.heap.size + 1 + 1) 0 LS = U2 at hS' ⊢
  refine bodyPost_ret (v := .tuple #[.agg LS.toArray, .int .i64 ES]) ?_ rfl ⟨rfl, hS'.bl⟩
  exact res_two (T := 25) (p := 4) (q := 5) (ty := 25) (X := LS) (by kernel_rfl) _ _ rfl Tryd.underlying25 rfl (by rw [HSL.out]; exact info_pnt) (hS'.get 2 rfl)

end Go.Proofs.YtcijjmncilciiaaDoor

namespace Go.Proofs.YtcijjmncilciiaaDoor

/-- A point's bytes are those of a point of the curve, and of this one. -/
theorem uu_inj {a b : Int} (ha : 0 ≤ a ∧ a < PP) (hb : 0 ≤ b ∧ b < PP) (h : Cg (uu a) (uu b)) : a = b := by
  refine (Cg.cancel ri_nd ?_).eq ha hb
  exact h
theorem enc_on : ∀ {p : Option (Int × Int)}, Ok p → onP (encX p) (encY p) (encF p) = true ∧ ptOf (encX p) (encY p) (encF p) = p
  | none, _ => ⟨rfl, rfl⟩
  | some (x, y), h => by
    have ex : dn (be x) = x := dn_be h.1.1 (Int.lt_trans h.1.2 PP_RR)
    have ey : dn (be y) = y := dn_be h.2.1.1 (Int.lt_trans h.2.1.2 PP_RR)
    constructor
    · show onP (be x) (be y) false = true
      have hc : mm (mm y SQ) (mm y SQ) = cub (mm x SQ) := by
        refine uu_inj (mm_bd _ _) (pa_bd _ _) ?_
        have cy := uu_sq y
        have cx := uu_sq x
        have c1 := uu_mm cy cy
        have c2 : Cg (uu (cub (mm x SQ))) (BB + (x * x * x - (x + x + x))) := uu_pa uu_bm (uu_ps (uu_mm (uu_mm cx cx) cx) (uu_pa (uu_pa cx cx) cx))
        refine c1.trans (Cg.trans ?_ c2.symm)
        have e : y * y - (BB + (x * x * x - (x + x + x))) = cR BB x y := by
          unfold cR
          generalize BB = b
          clear c1 c2 cx cy h ex ey
          grind
        show D (y * y - (BB + (x * x * x - (x + x + x))))
        rw [e]
        exact h.2.2
      simp only [onP, ex, ey, Bool.false_eq_true, if_false, decide_eq_true_eq]
      exact ⟨h.1.2, h.2.1.2, hc⟩
    · show some (dn (be x), dn (be y)) = some (x, y)
      rw [ex, ey]
theorem be_dg' (p : Option (Int × Int)) : Dg 256 (encX p) ∧ Dg 256 (encY p) := by
  cases p with
  | none => exact ⟨by intro x hx; simp [encX, z32] at hx; omega, by intro x hx; simp [encY, z32] at hx; omega⟩
  | some p => exact ⟨be_dg _, be_dg _⟩

end Go.Proofs.YtcijjmncilciiaaDoor
