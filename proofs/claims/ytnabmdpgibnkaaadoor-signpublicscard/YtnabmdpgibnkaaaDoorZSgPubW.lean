/-
  The statement SignPublics: its walk.
-/
import Derived.Test.YtnabmdpgibnkaaaDoorZSgPub
namespace Go.Proofs.YtnabmdpgibnkaaaDoor
open Go.RowKit Go.IntWalk
attribute [local go_sem ↓] ld_num st_num ld_pln st_pln ld_ops st_ops ld_pnt st_pnt ld_dig st_dig ld_tri st_tri eq_num ne_num eq_pnt ne_pnt bd_pnt ld_F st_F eq_F ld_a32 st_a32 ld_rpt st_rpt eq_rpt bd_rpt ne_dgs bd_dgs

theorem stPLn {L : List Value} (w : World) (hL : L.length = 65) (h1 : ∀ v ∈ L, v.oneCell' = true) : (stA 25 (.pointer (some ⟨w.heap.size, 0, none⟩)) (.agg L.toArray)).run Tryd.prog (w.alloc (.cells Tryd.zeroCells25 25)) = .ok () (w.alloc (.cells L.toArray 25)) :=
  run_storeAt_new (P := Tryd.prog) w 25 _ L.toArray (by rw [List.size_toArray, hL]; exact info_pnt) (by rw [zc_pnt]; simp [hL, PZ, pL_len (X := z32) (Y := z32) rfl rfl]) (all_oneCell_toArray h1)
theorem ldPL {T : TypeId} {w : World} {g : Nat} {L : List Value} (hL : L.length = 65) (h : Blk T w g L) : (ldA 25 (.pointer (some ⟨g, 0, none⟩))).run Tryd.prog w = .ok (.agg L.toArray) w :=
  ldA_all Tryd.underlying25 rfl (by rw [hL]; exact info_pnt) h

set_option maxRecDepth 100000 in
set_option maxHeartbeats 4000000 in
theorem publics_walk (D : List Int) (w : World) (hC : Cv w) (hN : Cn w) (hD : D.length = 32) (dD : Dg 256 D) :
    Calls Tryd.prog 3 #[.agg (bV D).toArray] w fun e w' => e = .returned (.bool true) ∧ Below w.heap.size w w' := by
  have HD := hide hD
  have HC := hide hC
  have HN := hide hN
  have o1 : ∀ v ∈ bV D, v.oneCell' = true := ints_one _ _
  have hS : Bx w [(w.heap.size, 23, bV D)] (w.alloc (.cells (bV D).toArray 23)) := (Bx.nil w).newAt 0 (w.heap.size) (by simp) 23 (bV D) _ rfl
  have HWK : Hid (∀ W, Cn W → Calls Tryd.prog 8 #[] W (Ans (.bool true) W)) := fun W hW => works11_any W hW
  cases hm : mayS D with
  | true =>
    have HPU : Hid (∀ W, Cv W → Cn W → Calls Tryd.prog 5 #[.agg (bV D).toArray] W (Ans (.tuple #[.agg (pL (encX (pubQ D)) (encY (pubQ D)) (encF (pubQ D))).toArray, .int .i64 0]) W)) := fun W h1 h2 => public_yes D hD dD hm W h1 h2
    have HRP : Hid (∀ W, Calls Tryd.prog 10 #[.agg (bV D).toArray] W (Ans (.agg (pL (encX (pubQ D)) (encY (pubQ D)) (encF (pubQ D))).toArray) W)) := fun W => rpublic_any D hD dD W
    have HRM : Hid (∀ W, Calls Tryd.prog 6 #[.agg (bV D).toArray] W (Ans (.bool true) W)) := fun W => by rw [← hm]; exact rmay_any D hD dD W
    have HMA : Hid (∀ W, Cn W → Calls Tryd.prog 7 #[.agg (bV D).toArray] W (Ans (.bool true) W)) := fun W hW => by rw [← hm]; exact may_any D hD dD W hW
    generalize pubQ D = Q at *
    have HPO : Hid (∀ W, Calls Tryd.prog 9 #[.agg (pL (encX Q) (encY Q) (encF Q)).toArray] W (Ans (.agg (pL (encX Q) (encY Q) (encF Q)).toArray) W)) := fun W => point11_any (encX Q) (encY Q) (encF Q) (encX_len Q) (encY_len Q) W
    have heq : ∀ W : World, (eqA 33 (.agg (pL (encX Q) (encY Q) (encF Q)).toArray) (.agg (pL (encX Q) (encY Q) (encF Q)).toArray)).run Tryd.prog W = .ok (.bool true) W := fun W => by
      have h := eqR (encX Q) (encY Q) (encX Q) (encY Q) (encF Q) (encF Q) (encX_len Q) (encY_len Q) (encX_len Q) (encY_len Q) W
      rw [decide_eq_true ⟨rfl, rfl, rfl⟩] at h
      exact h
    have HLQ : Hid ((pL (encX Q) (encY Q) (encF Q)).length = 65) := pL_len (encX_len Q) (encY_len Q) _
    have HOQ := hide (pL_one (encX Q) (encY Q) (encF Q))
    generalize pL (encX Q) (encY Q) (encF Q) = LQ at *
    clear hD dD hm hC hN
    go_enter Tryd.func3, Tryd.ntmps3
    have hl := ldDd HD.out (hS.get 0 rfl)
    go_wp2_with fail
    refine (HPU.out _ (HC.out.below hS.bl) (HN.out.below hS.bl)).mono ?_
    rintro e U1 ⟨rfl, LB⟩
    have hS := hS.below LB
    have hst := stPLn U1 HLQ.out HOQ.out
    have hS' : Bx w [(w.heap.size, 23, bV D), (U1.heap.size, 25, LQ)] (U1.alloc (.cells LQ.toArray 25)) := hS.newAt 1 U1.heap.size rfl 25 LQ _ rfl
    clear hS LB o1 hl
    have hS := hS'
    clear hS'
    go_upto_region 2 with fail
    generalize U1.alloc (.cells LQ.toArray 25) = U2 at hS ⊢
    generalize U1.heap.size = g3 at hS ⊢
    clear hst
    have hl := ldDd HD.out (hS.get 0 rfl)
    go_wp2_with fail
    refine (HRM.out _).mono ?_
    rintro e U4 ⟨rfl, LB⟩
    have hS := hS.below LB
    clear LB hl
    go_wp2
    have hS := hS.drew
    refine wp_region_held_drew (S := Bx w [(w.heap.size, 23, bV D), (g3, 25, LQ)]) (by kernel_rfl) (hS.pre 2) (fun _ => ?_)
    generalize U4.drew = U1 at hS ⊢
    have hP : Bx w [(w.heap.size, 23, bV D), (g3, 25, LQ)] U1 := hS.pre 2
    refine wpAnyH_take (i := 0) (v := ?_) rfl (by kernel_rfl) (by kernel_rfl) (by kernel_rfl) (fun _ _ _ h => h) (Or.inl ⟨by rfl, ?_⟩) (by assumption) ?_
    rotate_left
    · intro wq hSq
      have hl := ldDd HD.out (hSq.get 0 rfl)
      go_simp
      try with_reducible rfl
    simp only [List.getElem_toArray, List.getElem_cons_zero, Act.put, List.setIfInBounds_toArray, List.set_cons_zero, List.set_cons_succ]
    clear hP
    refine wpAnyH_ready (rs := [1]) (by kernel_rfl) (by simp) ?_
    refine AllReadyH.cons rfl (fun Kq hKq => ?_) AllReadyH.nil
    go_simp
    refine (HMA.out _ (HN.out.below hS.bl)).mono ?_
    rintro e U2 ⟨rfl, LB⟩
    have hS := hS.below LB
    clear LB
    refine hKq.out _ _ (hS.pre 2) (fun _ => ?_)
    clear hKq Kq
    have hP : Bx w [(w.heap.size, 23, bV D), (g3, 25, LQ)] U2 := hS.pre 2
    refine wpAnyH_take (i := 2) (v := ?_) rfl (by kernel_rfl) (by kernel_rfl) (by kernel_rfl) (fun _ _ _ h => h) (Or.inl ⟨by rfl, ?_⟩) (by assumption) ?_
    rotate_left
    · intro wq hSq
      go_simp
      try with_reducible rfl
    simp only [List.getElem_toArray, List.getElem_cons_succ, List.getElem_cons_zero, Act.put, List.setIfInBounds_toArray, List.set_cons_zero, List.set_cons_succ]
    refine wpAnyH_take (i := 3) (v := ?_) rfl (by kernel_rfl) (by kernel_rfl) (by kernel_rfl) (fun _ _ _ h => h) (Or.inl ⟨by rfl, ?_⟩) (by assumption) ?_
    rotate_left
    · intro wq hSq
      go_simp
      try with_reducible rfl
    simp only [List.getElem_toArray, List.getElem_cons_succ, List.getElem_cons_zero, Act.put, List.setIfInBounds_toArray, List.set_cons_zero, List.set_cons_succ]
    refine wpAnyH_take (i := 4) (v := ?_) rfl (by kernel_rfl) (by kernel_rfl) (by kernel_rfl) (fun _ _ _ h => h) (Or.inl ⟨by rfl, ?_⟩) (by assumption) ?_
    rotate_left
    · intro wq hSq
      go_simp
      try with_reducible rfl
    simp only [List.getElem_toArray, List.getElem_cons_succ, List.getElem_cons_zero, Act.put, List.setIfInBounds_toArray, List.set_cons_zero, List.set_cons_succ]
    refine wpAnyH_take (i := 5) (v := ?_) rfl (by kernel_rfl) (by kernel_rfl) (by kernel_rfl) (fun _ _ _ h => h) (Or.inl ⟨by rfl, ?_⟩) (by assumption) ?_
    rotate_left
    · intro wq hSq
      go_simp
      try with_reducible rfl
    simp only [List.getElem_toArray, List.getElem_cons_succ, List.getElem_cons_zero, Act.put, List.setIfInBounds_toArray, List.set_cons_zero, List.set_cons_succ]
    refine wpAnyH_take (i := 6) (v := ?_) rfl (by kernel_rfl) (by kernel_rfl) (by kernel_rfl) (fun _ _ _ h => h) (Or.inl ⟨by rfl, ?_⟩) (by assumption) ?_
    rotate_left
    · intro wq hSq
      go_simp
      try with_reducible rfl
    simp only [List.getElem_toArray, List.getElem_cons_succ, List.getElem_cons_zero, Act.put, List.setIfInBounds_toArray, List.set_cons_zero, List.set_cons_succ]
    refine wpAnyH_take (i := 7) (v := ?_) rfl (by kernel_rfl) (by kernel_rfl) (by kernel_rfl) (fun _ _ _ h => h) (Or.inl ⟨by rfl, ?_⟩) (by assumption) ?_
    rotate_left
    · intro wq hSq
      have hl := ldPL HLQ.out (hSq.get 1 rfl)
      go_simp
      try with_reducible rfl
    simp only [List.getElem_toArray, List.getElem_cons_succ, List.getElem_cons_zero, Act.put, List.setIfInBounds_toArray, List.set_cons_zero, List.set_cons_succ]
    refine wpAnyH_take (i := 9) (v := ?_) rfl (by kernel_rfl) (by kernel_rfl) (by kernel_rfl) (fun _ _ _ h => h) (Or.inl ⟨by rfl, ?_⟩) (by assumption) ?_
    rotate_left
    · intro wq hSq
      have hl := ldDd HD.out (hSq.get 0 rfl)
      go_simp
      try with_reducible rfl
    simp only [List.getElem_toArray, List.getElem_cons_succ, List.getElem_cons_zero, Act.put, List.setIfInBounds_toArray, List.set_cons_zero, List.set_cons_succ]
    clear hP
    refine wpAnyH_ready (rs := [8]) (by kernel_rfl) (by simp) ?_
    refine AllReadyH.cons rfl (fun Kq hKq => ?_) AllReadyH.nil
    go_simp
    refine (HPO.out _).mono ?_
    rintro e U3 ⟨rfl, LB⟩
    have hS := hS.below LB
    clear LB
    refine hKq.out _ _ (hS.pre 2) (fun _ => ?_)
    clear hKq Kq
    have hP : Bx w [(w.heap.size, 23, bV D), (g3, 25, LQ)] U3 := hS.pre 2
    clear hP
    refine wpAnyH_ready (rs := [10]) (by kernel_rfl) (by simp) ?_
    refine AllReadyH.cons rfl (fun Kq hKq => ?_) AllReadyH.nil
    go_simp
    refine (HRP.out _).mono ?_
    rintro e U4 ⟨rfl, LB⟩
    have hS := hS.below LB
    clear LB
    refine hKq.out _ _ (hS.pre 2) (fun _ => ?_)
    clear hKq Kq
    have hP : Bx w [(w.heap.size, 23, bV D), (g3, 25, LQ)] U4 := hS.pre 2
    refine wpAnyH_take (i := 11) (v := ?_) rfl (by kernel_rfl) (by kernel_rfl) (by kernel_rfl) (fun _ _ _ h => h) (Or.inl ⟨by rfl, ?_⟩) (by assumption) ?_
    rotate_left
    · intro wq hSq
      have hl := heq wq
      go_simp
      try with_reducible rfl
    simp only [List.getElem_toArray, List.getElem_cons_succ, List.getElem_cons_zero, Act.put, List.setIfInBounds_toArray, List.set_cons_zero, List.set_cons_succ]
    refine wpAnyH_take (i := 12) (v := ?_) rfl (by kernel_rfl) (by kernel_rfl) (by kernel_rfl) (fun _ _ _ h => h) (Or.inl ⟨by rfl, ?_⟩) (by assumption) ?_
    rotate_left
    · intro wq hSq
      go_simp
      try with_reducible rfl
    simp only [List.getElem_toArray, List.getElem_cons_succ, List.getElem_cons_zero, Act.put, List.setIfInBounds_toArray, List.set_cons_zero, List.set_cons_succ]
    refine wpAnyH_take (i := 13) (v := ?_) rfl (by kernel_rfl) (by kernel_rfl) (by kernel_rfl) (fun _ _ _ h => h) (Or.inl ⟨by rfl, ?_⟩) (by assumption) ?_
    rotate_left
    · intro wq hSq
      go_simp
      try with_reducible rfl
    simp only [List.getElem_toArray, List.getElem_cons_succ, List.getElem_cons_zero, Act.put, List.setIfInBounds_toArray, List.set_cons_zero, List.set_cons_succ]
    clear hP
    refine wpAnyH_ready (rs := [14]) (by kernel_rfl) (by simp) ?_
    refine AllReadyH.cons rfl (fun Kq hKq => ?_) AllReadyH.nil
    go_simp
    refine (HWK.out _ (HN.out.below hS.bl)).mono ?_
    rintro e U5 ⟨rfl, LB⟩
    have hS := hS.below LB
    clear LB
    refine hKq.out _ _ (hS.pre 2) (fun _ => ?_)
    clear hKq Kq
    have hP : Bx w [(w.heap.size, 23, bV D), (g3, 25, LQ)] U5 := hS.pre 2
    refine wpAnyH_take (i := 15) (v := ?_) rfl (by kernel_rfl) (by kernel_rfl) (by kernel_rfl) (fun _ _ _ h => h) (Or.inl ⟨by rfl, ?_⟩) (by assumption) ?_
    rotate_left
    · intro wq hSq
      go_simp
      try with_reducible rfl
    simp only [List.getElem_toArray, List.getElem_cons_succ, List.getElem_cons_zero, Act.put, List.setIfInBounds_toArray, List.set_cons_zero, List.set_cons_succ]
    refine wpAnyH_ready (rs := [16]) (by kernel_rfl) (by simp) ?_
    refine AllReadyH.cons rfl (fun Kq hKq => ?_) AllReadyH.nil
    go_simp
    refine hKq.out _ _ (hS.pre 2) (fun _ => ?_)
    clear hKq Kq
    clear hP
    refine wpAnyH_done (by kernel_rfl) ?_ _
    have U9 := hide hS.bl
    clear hS heq
    go_wp2
    go_ret
    exact ⟨rfl, U9.out⟩
  | false =>
    have HPU : Hid (∀ W, Cn W → Calls Tryd.prog 5 #[.agg (bV D).toArray] W (Ans (.tuple #[.agg PZ.toArray, .int .i64 110]) W)) := fun W h2 => public_no D hD dD hm W h2
    have HRM : Hid (∀ W, Calls Tryd.prog 6 #[.agg (bV D).toArray] W (Ans (.bool false) W)) := fun W => by rw [← hm]; exact rmay_any D hD dD W
    have HMA : Hid (∀ W, Cn W → Calls Tryd.prog 7 #[.agg (bV D).toArray] W (Ans (.bool false) W)) := fun W hW => by rw [← hm]; exact may_any D hD dD W hW
    have hbz : ∀ W : World, (bdA 25 #[]).run Tryd.prog W = .ok (.agg PZ.toArray) W := fun W => by kernel_rfl
    have heq : ∀ W : World, (eqA 25 (.agg PZ.toArray) (.agg PZ.toArray)).run Tryd.prog W = .ok (.bool true) W := fun W => by
      have h := eqP z32 z32 z32 z32 false false rfl rfl rfl rfl W
      rw [decide_eq_true ⟨rfl, rfl, rfl⟩] at h
      exact h
    have HLQ : Hid (PZ.length = 65) := rfl
    have HOQ : Hid (∀ v ∈ PZ, v.oneCell' = true) := pL_one _ _ _
    generalize PZ = LQ at *
    clear hD dD hm hC hN
    go_enter Tryd.func3, Tryd.ntmps3
    have hl := ldDd HD.out (hS.get 0 rfl)
    go_wp2_with fail
    refine (HPU.out _ (HN.out.below hS.bl)).mono ?_
    rintro e U1 ⟨rfl, LB⟩
    have hS := hS.below LB
    have hst := stPLn U1 HLQ.out HOQ.out
    have hS' : Bx w [(w.heap.size, 23, bV D), (U1.heap.size, 25, LQ)] (U1.alloc (.cells LQ.toArray 25)) := hS.newAt 1 U1.heap.size rfl 25 LQ _ rfl
    clear hS LB o1 hl
    have hS := hS'
    clear hS'
    go_upto_region 2 with fail
    generalize U1.alloc (.cells LQ.toArray 25) = U2 at hS ⊢
    generalize U1.heap.size = g3 at hS ⊢
    clear hst
    have hl := ldDd HD.out (hS.get 0 rfl)
    go_wp2_with fail
    refine (HRM.out _).mono ?_
    rintro e U4 ⟨rfl, LB⟩
    have hS := hS.below LB
    clear LB hl
    have hl := ldDd HD.out (hS.get 0 rfl)
    go_wp2_with fail
    refine (HMA.out _ (HN.out.below hS.bl)).mono ?_
    rintro e U5 ⟨rfl, LB⟩
    have hS := hS.below LB
    clear LB hl
    have hlq := ldPL HLQ.out (hS.get 1 rfl)
    go_wp2_with fail
    refine (HWK.out _ (HN.out.below hS.bl)).mono ?_
    rintro e U6 ⟨rfl, LB⟩
    have U9 := hide (hS.below LB).bl
    clear LB hS hlq hbz heq
    go_wp2
    go_ret
    exact ⟨rfl, U9.out⟩

end Go.Proofs.YtnabmdpgibnkaaaDoor
