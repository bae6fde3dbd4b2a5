/-
  The statement CurveMuls: its walk.
-/
import Derived.Test.YtnabmdpgibnkaabDoorZEcEToCvMl
import Derived.Test.YtnabmdpgibnkaabDoorZCrMl
import Derived.Test.YtnabmdpgibnkaabDoorZCvGatToCvNames
import Derived.Test.YtnabmdpgibnkaabDoorZCrDecToCvThe
namespace Go.Proofs.YtnabmdpgibnkaabDoor
open Go.RowKit Go.IntWalk
attribute [local go_sem ↓] ld_num st_num ld_pln st_pln ld_ops st_ops ld_pnt st_pnt ld_dig st_dig ld_tri st_tri eq_num ne_num eq_pnt ne_pnt bd_pnt ld_F st_F eq_F ld_a32 st_a32 ld_rpt st_rpt eq_rpt bd_rpt eq_dgs

set_option maxRecDepth 100000 in
set_option maxHeartbeats 4000000 in
theorem muls_walk (K X Y : List Int) (f : Bool) (w : World) (hC : Cv w) (hN : Cn w) (hK : K.length = 32) (dK : Dg 256 K) (hX : X.length = 32) (hY : Y.length = 32) (dX : Dg 256 X) (dY : Dg 256 Y) :
    Calls Tryd.prog 5 #[.agg (bV K).toArray, .agg (pL X Y f).toArray] w fun e w' => e = .returned (.bool true) ∧ Below w.heap.size w w' := by
  have HK := hide hK
  have HX := hide hX
  have HY := hide hY
  have HC := hide hC
  have HN := hide hN
  have o1 : ∀ v ∈ bV K, v.oneCell' = true := ints_one _ _
  have o2 := pL_one X Y f
  have hS : Bx w [(w.heap.size, 24, bV K), (w.heap.size + 1, 34, pL X Y f)] ((w.alloc (.cells (bV K).toArray 24)).alloc (.cells (pL X Y f).toArray 34)) := ((Bx.nil w).newAt 0 (w.heap.size) (by simp) 24 (bV K) _ rfl).newAt 1 (w.heap.size + 1) (by simp) 34 (pL X Y f) _ rfl
  have HTH : Hid (∀ W, Calls Tryd.prog 16 #[.agg (pL X Y f).toArray] W (Ans (.agg (pL X Y f).toArray) W)) := fun W => theirs_any X Y f hX hY W
  have HRO : Hid (∀ W, Calls Tryd.prog 15 #[.agg (pL X Y f).toArray] W (Ans (.bool (onP X Y f)) W)) := fun W => ron_any X Y hX hY dX dY f W
  have HNA : Hid (∀ W, Cn W → Calls Tryd.prog 14 #[] W (Ans (.bool true) W)) := fun W hW => names_any W hW
  cases hon : onP X Y f with
  | true =>
    have HMU : Hid (∀ W, Cv W → Calls Tryd.prog 19 #[.agg (bV K).toArray, .agg (pL X Y f).toArray] W (Ans (.tuple #[.agg (pL (encX (pmul (kbit K) (ptOf X Y f) 256)) (encY (pmul (kbit K) (ptOf X Y f) 256)) (encF (pmul (kbit K) (ptOf X Y f) 256))).toArray, .int .i64 0]) W)) := fun W hW => mul_yes K X Y f hK dK hX hY dX dY hon W hW
    have HRM : Hid (∀ W, Calls Tryd.prog 20 #[.agg (bV K).toArray, .agg (pL X Y f).toArray] W (Ans (.agg (pL (encX (pmul (kbit K) (ptOf X Y f) 256)) (encY (pmul (kbit K) (ptOf X Y f) 256)) (encF (pmul (kbit K) (ptOf X Y f) 256))).toArray) W)) := fun W => rmul_rep K X Y f hK dK hX hY dX dY hon W
    generalize pmul (kbit K) (ptOf X Y f) 256 = Q at *
    have HQX := hide (encX_len Q)
    have HQY := hide (encY_len Q)
    have HON := hide hon
    have HSA : Hid (∀ W, Calls Tryd.prog 18 #[.agg (pL (encX Q) (encY Q) (encF Q)).toArray, .agg (pL (encX Q) (encY Q) (encF Q)).toArray] W (Ans (.bool true) W)) := fun W => by
      have h := same_any (encX Q) (encY Q) (encX Q) (encY Q) (encF Q) (encF Q) (encX_len Q) (encY_len Q) (encX_len Q) (encY_len Q) W
      rw [decide_eq_true ⟨rfl, rfl, rfl⟩] at h
      exact h
    clear hC hN hK dK hX hY dX dY hon
    go_enter Tryd.func5, Tryd.ntmps5
    have hl0 := ldDg HK.out (hS.get 0 rfl)
    have hl1 := (pnt_ld HX.out HY.out (hS.get 1 rfl)).1
    go_wp2_with fail
    refine (HMU.out _ (HC.out.below hS.bl)).mono ?_
    rintro e U1 ⟨rfl, LB⟩
    have hS := hS.below LB
    have hK5 := Blk.new (T := 34) U1 PZ Tryd.zeroCells34 U1.heap.size zc_pnt rfl
    have hst := stPt (X := encX Q) (Y := encY Q) (f := encF Q) HQX.out HQY.out hK5 rfl
    have hS0 : Bx w [(w.heap.size, 24, bV K), (w.heap.size + 1, 34, pL X Y f), (U1.heap.size, 34, PZ)] (U1.alloc (.cells Tryd.zeroCells34 34)) := hS.newAt 2 U1.heap.size rfl 34 PZ _ zc_pnt
    have hS' : Bx w [(w.heap.size, 24, bV K), (w.heap.size + 1, 34, pL X Y f), (U1.heap.size, 34, pL (encX Q) (encY Q) (encF Q))] ((U1.alloc (.cells Tryd.zeroCells34 34)).setCells U1.heap.size 0 (pL (encX Q) (encY Q) (encF Q))) := hS0.setAt 2 (pL (encX Q) (encY Q) (encF Q)) rfl (by rw [pL_len HQX.out HQY.out]; rfl)
    clear hS hS0 hK5 LB hl0 hl1 o1 o2
    have hS := hS'
    clear hS'
    go_upto_region 2 with fail
    generalize (U1.alloc (.cells Tryd.zeroCells34 34)).setCells U1.heap.size 0 (pL (encX Q) (encY Q) (encF Q)) = U2 at hS ⊢
    generalize U1.heap.size = g5 at hS ⊢
    clear hst
    have hl1 := (pnt_ld HX.out HY.out (hS.get 1 rfl)).1
    go_wp2_with fail
    refine (HTH.out _).mono ?_
    rintro e U3 ⟨rfl, LB⟩
    have hS := hS.below LB
    clear LB hl1
    go_wp2_with fail
    refine (HRO.out _).mono ?_
    rintro e U4 ⟨rfl, LB⟩
    have hS := hS.below LB
    clear LB
    rw [HON.out]
    go_wp2
    have hS := hS.drew
    refine wp_region_held_drew (S := Bx w [(w.heap.size, 24, bV K), (w.heap.size + 1, 34, pL X Y f), (g5, 34, pL (encX Q) (encY Q) (encF Q))]) (by kernel_rfl) (hS.pre 3) (fun _ => ?_)
    generalize U4.drew = U1 at hS ⊢
    have hP : Bx w [(w.heap.size, 24, bV K), (w.heap.size + 1, 34, pL X Y f), (g5, 34, pL (encX Q) (encY Q) (encF Q))] U1 := hS.pre 3
    refine wpAnyH_take (i := 0) (v := ?_) rfl (by kernel_rfl) (by kernel_rfl) (by kernel_rfl) (fun _ _ _ h => h) (Or.inl ⟨by rfl, ?_⟩) (by assumption) ?_
    rotate_left
    · intro wq hSq
      go_simp
      try with_reducible rfl
    simp only [List.getElem_toArray, List.getElem_cons_zero, Act.put, List.setIfInBounds_toArray, List.set_cons_zero, List.set_cons_succ]
    refine wpAnyH_take (i := 1) (v := ?_) rfl (by kernel_rfl) (by kernel_rfl) (by kernel_rfl) (fun _ _ _ h => h) (Or.inl ⟨by rfl, ?_⟩) (by assumption) ?_
    rotate_left
    · intro wq hSq
      go_simp
      try with_reducible rfl
    simp only [List.getElem_toArray, List.getElem_cons_succ, List.getElem_cons_zero, Act.put, List.setIfInBounds_toArray, List.set_cons_zero, List.set_cons_succ]
    refine wpAnyH_take (i := 2) (v := ?_) rfl (by kernel_rfl) (by kernel_rfl) (by kernel_rfl) (fun _ _ _ h => h) (Or.inl ⟨by rfl, ?_⟩) (by assumption) ?_
    rotate_left
    · intro wq hSq
      go_simp
      try with_reducible rfl
    simp only [List.getElem_toArray, List.getElem_cons_succ, List.getElem_cons_zero, Act.put, List.setIfInBounds_toArray, List.set_cons_zero, List.set_cons_succ]
    refine wpAnyH_take (i := 3) (v := ?_) rfl (by kernel_rfl) (by kernel_rfl) (by kernel_rfl) (fun _ _ _ h => h) (Or.inl ⟨by rfl, ?_⟩) (by assumption) ?_
    rotate_left
    · intro wq hSq
      have hl := (pnt_ld HQX.out HQY.out (hSq.get 2 rfl)).1
      go_simp
      try with_reducible rfl
    simp only [List.getElem_toArray, List.getElem_cons_succ, List.getElem_cons_zero, Act.put, List.setIfInBounds_toArray, List.set_cons_zero, List.set_cons_succ]
    refine wpAnyH_take (i := 4) (v := ?_) rfl (by kernel_rfl) (by kernel_rfl) (by kernel_rfl) (fun _ _ _ h => h) (Or.inl ⟨by rfl, ?_⟩) (by assumption) ?_
    rotate_left
    · intro wq hSq
      have hl := ldDg HK.out (hSq.get 0 rfl)
      go_simp
      try with_reducible rfl
    simp only [List.getElem_toArray, List.getElem_cons_succ, List.getElem_cons_zero, Act.put, List.setIfInBounds_toArray, List.set_cons_zero, List.set_cons_succ]
    refine wpAnyH_take (i := 5) (v := ?_) rfl (by kernel_rfl) (by kernel_rfl) (by kernel_rfl) (fun _ _ _ h => h) (Or.inl ⟨by rfl, ?_⟩) (by assumption) ?_
    rotate_left
    · intro wq hSq
      have hl := (pnt_ld HX.out HY.out (hSq.get 1 rfl)).1
      go_simp
      try with_reducible rfl
    simp only [List.getElem_toArray, List.getElem_cons_succ, List.getElem_cons_zero, Act.put, List.setIfInBounds_toArray, List.set_cons_zero, List.set_cons_succ]
    clear hP
    refine wpAnyH_ready (rs := [6]) (by kernel_rfl) (by simp) ?_
    refine AllReadyH.cons rfl (fun Kq hKq => ?_) AllReadyH.nil
    go_simp
    refine (HTH.out _).mono ?_
    rintro e U2 ⟨rfl, LB⟩
    have hS := hS.below LB
    clear LB
    refine hKq.out _ _ (hS.pre 3) (fun _ => ?_)
    clear hKq Kq
    have hP : Bx w [(w.heap.size, 24, bV K), (w.heap.size + 1, 34, pL X Y f), (g5, 34, pL (encX Q) (encY Q) (encF Q))] U2 := hS.pre 3
    clear hP
    refine wpAnyH_ready (rs := [7]) (by kernel_rfl) (by simp) ?_
    refine AllReadyH.cons rfl (fun Kq hKq => ?_) AllReadyH.nil
    go_simp
    refine (HRM.out _).mono ?_
    rintro e U3 ⟨rfl, LB⟩
    have hS := hS.below LB
    clear LB
    refine hKq.out _ _ (hS.pre 3) (fun _ => ?_)
    clear hKq Kq
    have hP : Bx w [(w.heap.size, 24, bV K), (w.heap.size + 1, 34, pL X Y f), (g5, 34, pL (encX Q) (encY Q) (encF Q))] U3 := hS.pre 3
    clear hP
    refine wpAnyH_ready (rs := [8]) (by kernel_rfl) (by simp) ?_
    refine AllReadyH.cons rfl (fun Kq hKq => ?_) AllReadyH.nil
    go_simp
    refine (HSA.out _).mono ?_
    rintro e U4 ⟨rfl, LB⟩
    have hS := hS.below LB
    clear LB
    refine hKq.out _ _ (hS.pre 3) (fun _ => ?_)
    clear hKq Kq
    have hP : Bx w [(w.heap.size, 24, bV K), (w.heap.size + 1, 34, pL X Y f), (g5, 34, pL (encX Q) (encY Q) (encF Q))] U4 := hS.pre 3
    refine wpAnyH_take (i := 9) (v := ?_) rfl (by kernel_rfl) (by kernel_rfl) (by kernel_rfl) (fun _ _ _ h => h) (Or.inl ⟨by rfl, ?_⟩) (by assumption) ?_
    rotate_left
    · intro wq hSq
      go_simp
      try with_reducible rfl
    simp only [List.getElem_toArray, List.getElem_cons_succ, List.getElem_cons_zero, Act.put, List.setIfInBounds_toArray, List.set_cons_zero, List.set_cons_succ]
    refine wpAnyH_take (i := 10) (v := ?_) rfl (by kernel_rfl) (by kernel_rfl) (by kernel_rfl) (fun _ _ _ h => h) (Or.inl ⟨by rfl, ?_⟩) (by assumption) ?_
    rotate_left
    · intro wq hSq
      go_simp
      try with_reducible rfl
    simp only [List.getElem_toArray, List.getElem_cons_succ, List.getElem_cons_zero, Act.put, List.setIfInBounds_toArray, List.set_cons_zero, List.set_cons_succ]
    clear hP
    refine wpAnyH_ready (rs := [11]) (by kernel_rfl) (by simp) ?_
    refine AllReadyH.cons rfl (fun Kq hKq => ?_) AllReadyH.nil
    go_simp
    refine (HNA.out _ (HN.out.below hS.bl)).mono ?_
    rintro e U5 ⟨rfl, LB⟩
    have hS := hS.below LB
    clear LB
    refine hKq.out _ _ (hS.pre 3) (fun _ => ?_)
    clear hKq Kq
    have hP : Bx w [(w.heap.size, 24, bV K), (w.heap.size + 1, 34, pL X Y f), (g5, 34, pL (encX Q) (encY Q) (encF Q))] U5 := hS.pre 3
    refine wpAnyH_take (i := 12) (v := ?_) rfl (by kernel_rfl) (by kernel_rfl) (by kernel_rfl) (fun _ _ _ h => h) (Or.inl ⟨by rfl, ?_⟩) (by assumption) ?_
    rotate_left
    · intro wq hSq
      go_simp
      try with_reducible rfl
    simp only [List.getElem_toArray, List.getElem_cons_succ, List.getElem_cons_zero, Act.put, List.setIfInBounds_toArray, List.set_cons_zero, List.set_cons_succ]
    refine wpAnyH_ready (rs := [13]) (by kernel_rfl) (by simp) ?_
    refine AllReadyH.cons rfl (fun Kq hKq => ?_) AllReadyH.nil
    go_simp
    refine hKq.out _ _ (hS.pre 3) (fun _ => ?_)
    clear hKq Kq
    clear hP
    refine wpAnyH_done (by kernel_rfl) ?_ _
    have U9 := hide hS.bl
    clear hS
    go_wp2
    go_ret
    exact ⟨rfl, U9.out⟩
  | false =>
    have HMU : Hid (∀ W, Cv W → Calls Tryd.prog 19 #[.agg (bV K).toArray, .agg (pL X Y f).toArray] W (Ans (.tuple #[.agg PZ.toArray, .int .i64 100]) W)) := fun W hW => mul_no K X Y f hX hY dX dY hon W hW
    have HON := hide hon
    clear hC hN hK dK hX hY dX dY hon
    go_enter Tryd.func5, Tryd.ntmps5
    have hl0 := ldDg HK.out (hS.get 0 rfl)
    have hl1 := (pnt_ld HX.out HY.out (hS.get 1 rfl)).1
    go_wp2_with fail
    refine (HMU.out _ (HC.out.below hS.bl)).mono ?_
    rintro e U1 ⟨rfl, LB⟩
    have hS := hS.below LB
    have hK5 := Blk.new (T := 34) U1 PZ Tryd.zeroCells34 U1.heap.size zc_pnt rfl
    have hst := (show (stA 34 (.pointer (some ⟨U1.heap.size, 0, none⟩)) (.agg PZ.toArray)).run Tryd.prog (U1.alloc (.cells Tryd.zeroCells34 34)) = .ok () ((U1.alloc (.cells Tryd.zeroCells34 34)).setCells U1.heap.size 0 PZ) from stPt (f := false) (X := z32) (Y := z32) rfl rfl hK5 rfl)
    have hS0 : Bx w [(w.heap.size, 24, bV K), (w.heap.size + 1, 34, pL X Y f), (U1.heap.size, 34, PZ)] (U1.alloc (.cells Tryd.zeroCells34 34)) := hS.newAt 2 U1.heap.size rfl 34 PZ _ zc_pnt
    have hS' : Bx w [(w.heap.size, 24, bV K), (w.heap.size + 1, 34, pL X Y f), (U1.heap.size, 34, PZ)] ((U1.alloc (.cells Tryd.zeroCells34 34)).setCells U1.heap.size 0 (PZ)) := hS0.setAt 2 (PZ) rfl rfl
    clear hS hS0 hK5 LB hl0 hl1 o1 o2
    have hS := hS'
    clear hS'
    go_upto_region 2 with fail
    generalize (U1.alloc (.cells Tryd.zeroCells34 34)).setCells U1.heap.size 0 (PZ) = U2 at hS ⊢
    generalize U1.heap.size = g5 at hS ⊢
    clear hst
    have hl1 := (pnt_ld HX.out HY.out (hS.get 1 rfl)).1
    go_wp2_with fail
    refine (HTH.out _).mono ?_
    rintro e U3 ⟨rfl, LB⟩
    have hS := hS.below LB
    clear LB hl1
    go_wp2_with fail
    refine (HRO.out _).mono ?_
    rintro e U4 ⟨rfl, LB⟩
    have hS := hS.below LB
    clear LB
    rw [HON.out]
    have hlx : (ldA 34 (.pointer (some ⟨g5, 0, none⟩))).run Tryd.prog U4 = .ok (.agg PZ.toArray) U4 := (pnt_ld (X := z32) (Y := z32) (f := false) rfl rfl (hS.get 2 rfl)).1
    have hbz : ∀ W : World, (bdA 34 #[]).run Tryd.prog W = .ok (.agg PZ.toArray) W := fun W => by kernel_rfl
    have heq : ∀ W : World, (eqA 34 (.agg PZ.toArray) (.agg PZ.toArray)).run Tryd.prog W = .ok (.bool true) W := fun W => by
      have h := eqP z32 z32 z32 z32 false false rfl rfl rfl rfl W
      rw [decide_eq_true ⟨rfl, rfl, rfl⟩] at h
      exact h
    generalize PZ = LZ at *
    go_wp2_with fail
    refine (HNA.out _ (HN.out.below hS.bl)).mono ?_
    rintro e U5 ⟨rfl, LB⟩
    have U9 := hide (hS.below LB).bl
    clear hS LB hlx hbz heq
    go_wp2
    go_ret
    exact ⟨rfl, U9.out⟩

end Go.Proofs.YtnabmdpgibnkaabDoor
