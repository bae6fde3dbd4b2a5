/-
  The statement CurveCodes: its walk.
-/
import Derived.Test.YtnabmdpgibnkaabDoorZCvEonToEcK
import Derived.Test.YtnabmdpgibnkaabDoorZCrAdToCvAd
namespace Go.Proofs.YtnabmdpgibnkaabDoor
open Go.RowKit Go.IntWalk
attribute [local go_sem ↓] ld_num st_num ld_pln st_pln ld_ops st_ops ld_pnt st_pnt ld_dig st_dig ld_tri st_tri eq_num ne_num eq_pnt ne_pnt bd_pnt ld_F st_F eq_F ld_a32 st_a32 ld_rpt st_rpt eq_rpt bd_rpt eq_dgs

theorem base_on10 : onP (be GX) (be GY) false = true := by decide +kernel
set_option maxRecDepth 100000 in
set_option maxHeartbeats 4000000 in
theorem codes_walk (K : List Int) (w : World) (hC : Cv w) (hN : Cn w) (hK : K.length = 32) (dK : Dg 256 K) :
    Calls Tryd.prog 8 #[.agg (bV K).toArray] w fun e w' => e = .returned (.bool true) ∧ Below w.heap.size w w' := by
  have HK := hide hK
  have HC := hide hC
  have HN := hide hN
  have o1 : ∀ v ∈ bV K, v.oneCell' = true := ints_one _ _
  have hS : Bx w [(w.heap.size, 24, bV K)] (w.alloc (.cells (bV K).toArray 24)) := (Bx.nil w).newAt 0 (w.heap.size) (by simp) 24 (bV K) _ rfl
  have HB : Hid (∀ W, Cn W → Calls Tryd.prog 21 #[] W (Ans (.agg (pL (be GX) (be GY) false).toArray) W)) := fun W hW => base_any W hW
  have HM1 : Hid (∀ W, Cv W → Calls Tryd.prog 19 #[.agg (bV K).toArray, .agg (pL (be GX) (be GY) false).toArray] W (Ans (.tuple #[.agg (pL (encX (pmul (kbit K) (ptOf (be GX) (be GY) false) 256)) (encY (pmul (kbit K) (ptOf (be GX) (be GY) false) 256)) (encF (pmul (kbit K) (ptOf (be GX) (be GY) false) 256))).toArray, .int .i64 0]) W)) := fun W hW => mul_yes K (be GX) (be GY) false hK dK (be_len _) (be_len _) (be_dg _) (be_dg _) base_on10 W hW
  have hn := mul_n dK hK
  have hok : Ok (pmul (kbit K) (ptOf (be GX) (be GY) false) 256) := by rw [mul_g dK hK]; exact tms_ok g_ok _
  generalize pmul (kbit K) (ptOf (be GX) (be GY) false) 256 = Q at *
  have hE := enc_on hok
  have HOG : Hid (∀ W, Cv W → Calls Tryd.prog 27 #[.agg (pL (be GX) (be GY) false).toArray] W (Ans (.bool true) W)) := fun W hW => by
    have h := on_any (be GX) (be GY) false (be_len _) (be_len _) (be_dg _) (be_dg _) W hW
    rw [base_on10] at h
    exact h
  have HOQ : Hid (∀ W, Cv W → Calls Tryd.prog 27 #[.agg (pL (encX Q) (encY Q) (encF Q)).toArray] W (Ans (.bool true) W)) := fun W hW => by
    have h := on_any (encX Q) (encY Q) (encF Q) (encX_len _) (encY_len _) (be_dg' _).1 (be_dg' _).2 W hW
    rw [hE.1] at h
    exact h
  have HOR : Hid (∀ W, Cn W → Calls Tryd.prog 22 #[] W (Ans (.agg (bV (be NN)).toArray) W)) := fun W hW => order_any W hW
  have HM2 : Hid (∀ W, Cv W → Calls Tryd.prog 19 #[.agg (bV (be NN)).toArray, .agg (pL (encX Q) (encY Q) (encF Q)).toArray] W (Ans (.tuple #[.agg (pL z32 z32 true).toArray, .int .i64 0]) W)) := fun W hW => by
    have h := mul_yes (be NN) (encX Q) (encY Q) (encF Q) (be_len _) (be_dg _) (encX_len _) (encY_len _) (be_dg' _).1 (be_dg' _).2 hE.1 W hW
    rw [hE.2, hn] at h
    exact h
  have HLQ : Hid ((pL (encX Q) (encY Q) (encF Q)).length = 65) := pL_len (encX_len _) (encY_len _) _
  have HOOQ := hide (pL_one (encX Q) (encY Q) (encF Q))
  have HLF : Hid ((pL z32 z32 true).length = 65) := rfl
  have HOF := hide (pL_one z32 z32 true)
  have HBF : Hid (∀ W : World, (bdA 34 #[(2, .bool true)]).run Tryd.prog W = .ok (.agg (pL z32 z32 true).toArray) W) := fun W => by kernel_rfl
  have HNE : Hid (∀ W : World, (neA 34 (.agg (pL z32 z32 true).toArray) (.agg (pL z32 z32 true).toArray)).run Tryd.prog W = .ok (.bool false) W) := fun W => by
    have h := neP z32 z32 z32 z32 true true rfl rfl rfl rfl W
    rw [decide_eq_true ⟨rfl, rfl, rfl⟩] at h
    exact h
  have HEQ : Hid (∀ W : World, (eqA 34 (.agg (pL (encX Q) (encY Q) (encF Q)).toArray) (.agg (pL (encX Q) (encY Q) (encF Q)).toArray)).run Tryd.prog W = .ok (.bool true) W) := fun W => by
    have h := eqP (encX Q) (encY Q) (encX Q) (encY Q) (encF Q) (encF Q) (encX_len _) (encY_len _) (encX_len _) (encY_len _) W
    rw [decide_eq_true ⟨rfl, rfl, rfl⟩] at h
    exact h
  have HEN : Hid (∀ W, Cv W → Calls Tryd.prog 29 #[.agg (pL (encX Q) (encY Q) (encF Q)).toArray] W fun e w' => ∃ a n c, e = .returned (.tuple #[.slice a n c, .int .i64 (encE (encX Q) (encY Q) (encF Q))]) ∧ OwnB w' W.heap.size (.slice a n c) (encB (encX Q) (encY Q) (encF Q)) ∧ Below W.heap.size W w') := fun W hW => encode_any (encX Q) (encY Q) (encF Q) (encX_len _) (encY_len _) (be_dg' _).1 (be_dg' _).2 W hW
  have HFL : Hid (∀ (W : World) (g : Nat), Blk 34 W g (pL (encX Q) (encY Q) (encF Q)) → W.cell? ⟨g, 64, none⟩ = some (.bool (encF Q))) := fun W g h => (pnt_ld (encX_len _) (encY_len _) h).2.2.2
  have HCS : Hid ((encF Q = true ∧ encE (encX Q) (encY Q) (encF Q) = 100 ∧ encB (encX Q) (encY Q) (encF Q) = []) ∨ (encF Q = false ∧ encE (encX Q) (encY Q) (encF Q) = 0 ∧ (encB (encX Q) (encY Q) (encF Q)).length = 65 ∧ Hid (∀ a n c W, Cv W → Src W a n c (encB (encX Q) (encY Q) (encF Q)) → Calls Tryd.prog 30 #[.slice a n c] W (Ans (.tuple #[.agg (pL (encX Q) (encY Q) (encF Q)).toArray, .int .i64 0]) W)))) := by
    have hx := encX_len Q
    have hy := encY_len Q
    have ho := hE.1
    cases hf : encF Q with
    | true => exact .inl ⟨rfl, by unfold encE; rw [Bool.not_true, Bool.and_false]; rfl, by unfold encB; rw [Bool.not_true, Bool.and_false]; rfl⟩
    | false =>
      rw [hf] at ho
      have hd := dec_enc hx hy ho
      refine .inr ⟨rfl, hd.2.1, ?_, ?_⟩
      · rw [hd.1]; simp [hx, hy]
      · intro a n c W hW hs
        rw [hd.1] at hs
        have h := decode_any a n c _ W hW hs
        unfold Rd at h
        rw [hd.2.2.1, hd.2.2.2.1, hd.2.2.2.2] at h
        exact h
  have HBB := hide (encB_bd (encF Q) (be_dg' Q).1 (be_dg' Q).2)
  clear hK dK hC hN hE hok hn
  generalize encE (encX Q) (encY Q) (encF Q) = EE at *
  generalize encB (encX Q) (encY Q) (encF Q) = EB at *
  generalize pL (encX Q) (encY Q) (encF Q) = LQ at *
  generalize pL z32 z32 true = LF at *
  generalize encF Q = fl at *
  clear Q
  generalize pL (be GX) (be GY) false = LG at *
  generalize bV (be NN) = LN at *
  go_enter Tryd.func8, Tryd.ntmps8
  go_upto_region 1 with fail
  generalize (w.alloc (.cells (bV K).toArray 24)) = U0 at hS ⊢
  clear o1
  have hS := hS.drew
  refine wp_region_held_drew (S := Bx w [(w.heap.size, 24, bV K)]) (by kernel_rfl) (hS.pre 1) (fun _ => ?_)
  generalize U0.drew = U1 at hS ⊢
  have hP : Bx w [(w.heap.size, 24, bV K)] U1 := hS.pre 1
  refine wpAnyH_take (i := 0) (v := ?_) rfl (by kernel_rfl) (by kernel_rfl) (by kernel_rfl) (fun _ _ _ h => h) (Or.inl ⟨by rfl, ?_⟩) (by assumption) ?_
  rotate_left
  · intro wq hSq
    have hl := ldDg HK.out (hSq.get 0 rfl)
    go_simp
    try with_reducible rfl
  simp only [List.getElem_toArray, List.getElem_cons_zero, Act.put, List.setIfInBounds_toArray, List.set_cons_zero, List.set_cons_succ]
  clear hP
  refine' mk_restN (K := fun W g3 => Bx w [(w.heap.size, 24, bV K), (g3, 34, PZ)] W) (fun R2a => ?_) ?_
  rotate_left
  · skip
    refine' mk_restW (K := fun W => Bx w [(w.heap.size, 24, bV K)] W) (fun R2 => ?_) ?_
    rotate_left
    · skip
      refine' mk_restN (K := fun W g3 => Bx w [(w.heap.size, 24, bV K), (g3, 34, PZ)] W) (fun R1a => ?_) ?_
      rotate_left
      · skip
        refine' mk_restW (K := fun W => Bx w [(w.heap.size, 24, bV K)] W) (fun R1 => ?_) ?_
        rotate_left
        · skip
          refine' mk_restN (K := fun W g3 => Bx w [(w.heap.size, 24, bV K), (g3, 34, PZ)] W) (fun R0a => ?_) ?_
          rotate_left
          · skip
            refine wpAnyH_ready (rs := [1, 6]) (by kernel_rfl) (by simp) ?_
            refine (AllReadyH.cons rfl (fun Kq hKq => ?_) (AllReadyH.cons rfl (fun Kq hKq => ?_) AllReadyH.nil))
            · go_simp
              refine (HB.out _ (HN.out.below hS.bl)).mono ?_
              rintro e U2 ⟨rfl, LB⟩
              have hS := hS.below LB
              clear LB
              refine hKq.out _ _ (hS.pre 1) (fun _ => ?_)
              clear hKq Kq
              exact R1.out U2 hS
            · go_simp
              have hS' := hS.newAt 1 U1.heap.size rfl 34 PZ Tryd.zeroCells34 zc_pnt
              refine hKq.out _ _ (hS'.pre 1) (fun _ => ?_)
              clear hKq Kq
              generalize U1.alloc (.cells Tryd.zeroCells34 34) = U3 at hS' ⊢
              generalize U1.heap.size = g3 at hS' ⊢
              exact R0a.out U3 g3 hS'
          · rintro U4 g3 hS
            refine wpAnyH_ready (rs := [1]) (by kernel_rfl) (by simp) ?_
            refine (AllReadyH.cons rfl (fun Kq hKq => ?_) AllReadyH.nil)
            · go_simp
              refine (HB.out _ (HN.out.below hS.bl)).mono ?_
              rintro e U5 ⟨rfl, LB⟩
              have hS := hS.below LB
              clear LB
              refine hKq.out _ _ (hS.pre 1) (fun _ => ?_)
              clear hKq Kq
              exact R1a.out U5 g3 hS
        · rintro U6 hS
          refine wpAnyH_ready (rs := [2, 6]) (by kernel_rfl) (by simp) ?_
          refine (AllReadyH.cons rfl (fun Kq hKq => ?_) (AllReadyH.cons rfl (fun Kq hKq => ?_) AllReadyH.nil))
          · go_simp
            refine (HM1.out _ (HC.out.below hS.bl)).mono ?_
            rintro e U7 ⟨rfl, LB⟩
            have hS := hS.below LB
            clear LB
            refine hKq.out _ _ (hS.pre 1) (fun _ => ?_)
            clear hKq Kq
            have hP : Bx w [(w.heap.size, 24, bV K)] U7 := hS.pre 1
            refine wpAnyH_take (i := 3) (v := ?_) rfl (by kernel_rfl) (by kernel_rfl) (by kernel_rfl) (fun _ _ _ h => h) (Or.inl ⟨by rfl, ?_⟩) (by assumption) ?_
            rotate_left
            · intro wq hSq
              go_simp
              try with_reducible rfl
            simp only [List.getElem_toArray, List.getElem_cons_succ, List.getElem_cons_zero, Act.put, List.setIfInBounds_toArray, List.set_cons_zero, List.set_cons_succ]
            refine wpAnyH_take (i := 4) (v := ?_) rfl (by kernel_rfl) (by kernel_rfl) (by kernel_rfl) (fun _ _ _ h => h) (Or.inl ⟨by rfl, ?_⟩) (by assumption) ?_
            rotate_left
            · intro wq hSq
              go_simp
              try with_reducible rfl
            simp only [List.getElem_toArray, List.getElem_cons_succ, List.getElem_cons_zero, Act.put, List.setIfInBounds_toArray, List.set_cons_zero, List.set_cons_succ]
            refine wpAnyH_take (i := 5) (v := ?_) rfl (by kernel_rfl) (by kernel_rfl) (by kernel_rfl) (fun _ _ _ h => h) (Or.inl ⟨by rfl, ?_⟩) (by assumption) ?_
            rotate_left
            · intro wq hSq
              go_simp
              try with_reducible rfl
            simp only [List.getElem_toArray, List.getElem_cons_succ, List.getElem_cons_zero, Act.put, List.setIfInBounds_toArray, List.set_cons_zero, List.set_cons_succ]
            clear hP
            exact R2.out U7 hS
          · go_simp
            have hS' := hS.newAt 1 U6.heap.size rfl 34 PZ Tryd.zeroCells34 zc_pnt
            refine hKq.out _ _ (hS'.pre 1) (fun _ => ?_)
            clear hKq Kq
            generalize U6.alloc (.cells Tryd.zeroCells34 34) = U8 at hS' ⊢
            generalize U6.heap.size = g3 at hS' ⊢
            exact R1a.out U8 g3 hS'
      · rintro U9 g3 hS
        refine wpAnyH_ready (rs := [2]) (by kernel_rfl) (by simp) ?_
        refine (AllReadyH.cons rfl (fun Kq hKq => ?_) AllReadyH.nil)
        · go_simp
          refine (HM1.out _ (HC.out.below hS.bl)).mono ?_
          rintro e U10 ⟨rfl, LB⟩
          have hS := hS.below LB
          clear LB
          refine hKq.out _ _ (hS.pre 1) (fun _ => ?_)
          clear hKq Kq
          have hP : Bx w [(w.heap.size, 24, bV K)] U10 := hS.pre 1
          refine wpAnyH_take (i := 3) (v := ?_) rfl (by kernel_rfl) (by kernel_rfl) (by kernel_rfl) (fun _ _ _ h => h) (Or.inl ⟨by rfl, ?_⟩) (by assumption) ?_
          rotate_left
          · intro wq hSq
            go_simp
            try with_reducible rfl
          simp only [List.getElem_toArray, List.getElem_cons_succ, List.getElem_cons_zero, Act.put, List.setIfInBounds_toArray, List.set_cons_zero, List.set_cons_succ]
          refine wpAnyH_take (i := 4) (v := ?_) rfl (by kernel_rfl) (by kernel_rfl) (by kernel_rfl) (fun _ _ _ h => h) (Or.inl ⟨by rfl, ?_⟩) (by assumption) ?_
          rotate_left
          · intro wq hSq
            go_simp
            try with_reducible rfl
          simp only [List.getElem_toArray, List.getElem_cons_succ, List.getElem_cons_zero, Act.put, List.setIfInBounds_toArray, List.set_cons_zero, List.set_cons_succ]
          refine wpAnyH_take (i := 5) (v := ?_) rfl (by kernel_rfl) (by kernel_rfl) (by kernel_rfl) (fun _ _ _ h => h) (Or.inl ⟨by rfl, ?_⟩) (by assumption) ?_
          rotate_left
          · intro wq hSq
            go_simp
            try with_reducible rfl
          simp only [List.getElem_toArray, List.getElem_cons_succ, List.getElem_cons_zero, Act.put, List.setIfInBounds_toArray, List.set_cons_zero, List.set_cons_succ]
          clear hP
          exact R2a.out U10 g3 hS
    · rintro U11 hS
      refine wpAnyH_ready (rs := [6]) (by kernel_rfl) (by simp) ?_
      refine (AllReadyH.cons rfl (fun Kq hKq => ?_) AllReadyH.nil)
      · go_simp
        have hS' := hS.newAt 1 U11.heap.size rfl 34 PZ Tryd.zeroCells34 zc_pnt
        refine hKq.out _ _ (hS'.pre 1) (fun _ => ?_)
        clear hKq Kq
        generalize U11.alloc (.cells Tryd.zeroCells34 34) = U12 at hS' ⊢
        generalize U11.heap.size = g3 at hS' ⊢
        exact R2a.out U12 g3 hS'
  · rintro U13 g3 hS
    have hst := stPL (hS.get 1 rfl) rfl HLQ.out HOOQ.out
    refine wpAnyH_ready (rs := [7]) (by kernel_rfl) (by simp) ?_
    refine AllReadyH.cons rfl (fun Kq hKq => ?_) AllReadyH.nil
    go_simp
    have hS' : Bx w [(w.heap.size, 24, bV K), (g3, 34, (LQ))] (U13.setCells g3 0 (LQ)) := hS.setAt 1 (LQ) rfl (by rw [HLQ.out]; rfl)
    refine hKq.out _ _ (hS'.pre 1) (fun _ => ?_)
    clear hKq Kq hst hS
    have hS := hS'
    clear hS'
    generalize U13.setCells g3 0 (LQ) = U14 at hS ⊢
    refine wpAnyH_ready (rs := [8]) (by kernel_rfl) (by simp) ?_
    refine AllReadyH.cons rfl (fun Kq hKq => ?_) AllReadyH.nil
    go_simp
    refine hKq.out _ _ (hS.pre 1) (fun _ => ?_)
    clear hKq Kq
    refine wpAnyH_done (by kernel_rfl) ?_ _
    have hl := ldPL HLQ.out (hS.get 1 rfl)
    go_wp2_with fail
    refine (HOQ.out _ (HC.out.below hS.bl)).mono ?_
    rintro e V1 ⟨rfl, LB⟩
    have hS := hS.below LB
    clear LB hl
    go_wp2_with fail
    refine (HB.out _ (HN.out.below hS.bl)).mono ?_
    rintro e V2 ⟨rfl, LB⟩
    have hS := hS.below LB
    clear LB
    go_wp2_with fail
    refine (HOG.out _ (HC.out.below hS.bl)).mono ?_
    rintro e V3 ⟨rfl, LB⟩
    have hS := hS.below LB
    clear LB
    go_wp2
    have hS := hS.drew
    refine wp_region_held_drew (S := Bx w [(w.heap.size, 24, bV K), (g3, 34, (LQ))]) (by kernel_rfl) (hS.pre 2) (fun _ => ?_)
    generalize V3.drew = U15 at hS ⊢
    have hP : Bx w [(w.heap.size, 24, bV K), (g3, 34, (LQ))] U15 := hS.pre 2
    refine wpAnyH_take (i := 1) (v := ?_) rfl (by kernel_rfl) (by kernel_rfl) (by kernel_rfl) (fun _ _ _ h => h) (Or.inl ⟨by rfl, ?_⟩) (by assumption) ?_
    rotate_left
    · intro wq hSq
      have hl := ldPL HLQ.out (hSq.get 1 rfl)
      go_simp
      try with_reducible rfl
    simp only [List.getElem_toArray, List.getElem_cons_succ, List.getElem_cons_zero, Act.put, List.setIfInBounds_toArray, List.set_cons_zero, List.set_cons_succ]
    clear hP
    refine' mk_restN (K := fun W g5 => Bx w [(w.heap.size, 24, bV K), (g3, 34, (LQ)), (g5, 34, PZ)] W) (fun R2a => ?_) ?_
    rotate_left
    · skip
      refine' mk_restW (K := fun W => Bx w [(w.heap.size, 24, bV K), (g3, 34, (LQ))] W) (fun R2 => ?_) ?_
      rotate_left
      · skip
        refine' mk_restN (K := fun W g5 => Bx w [(w.heap.size, 24, bV K), (g3, 34, (LQ)), (g5, 34, PZ)] W) (fun R1a => ?_) ?_
        rotate_left
        · skip
          refine' mk_restW (K := fun W => Bx w [(w.heap.size, 24, bV K), (g3, 34, (LQ))] W) (fun R1 => ?_) ?_
          rotate_left
          · skip
            refine' mk_restN (K := fun W g5 => Bx w [(w.heap.size, 24, bV K), (g3, 34, (LQ)), (g5, 34, PZ)] W) (fun R0a => ?_) ?_
            rotate_left
            · skip
              refine wpAnyH_ready (rs := [0, 6]) (by kernel_rfl) (by simp) ?_
              refine (AllReadyH.cons rfl (fun Kq hKq => ?_) (AllReadyH.cons rfl (fun Kq hKq => ?_) AllReadyH.nil))
              · go_simp
                refine (HOR.out _ (HN.out.below hS.bl)).mono ?_
                rintro e U16 ⟨rfl, LB⟩
                have hS := hS.below LB
                clear LB
                refine hKq.out _ _ (hS.pre 2) (fun _ => ?_)
                clear hKq Kq
                exact R1.out U16 hS
              · go_simp
                have hS' := hS.newAt 2 U15.heap.size rfl 34 PZ Tryd.zeroCells34 zc_pnt
                refine hKq.out _ _ (hS'.pre 2) (fun _ => ?_)
                clear hKq Kq
                generalize U15.alloc (.cells Tryd.zeroCells34 34) = U17 at hS' ⊢
                generalize U15.heap.size = g5 at hS' ⊢
                exact R0a.out U17 g5 hS'
            · rintro U18 g5 hS
              refine wpAnyH_ready (rs := [0]) (by kernel_rfl) (by simp) ?_
              refine (AllReadyH.cons rfl (fun Kq hKq => ?_) AllReadyH.nil)
              · go_simp
                refine (HOR.out _ (HN.out.below hS.bl)).mono ?_
                rintro e U19 ⟨rfl, LB⟩
                have hS := hS.below LB
                clear LB
                refine hKq.out _ _ (hS.pre 2) (fun _ => ?_)
                clear hKq Kq
                exact R1a.out U19 g5 hS
          · rintro U20 hS
            refine wpAnyH_ready (rs := [2, 6]) (by kernel_rfl) (by simp) ?_
            refine (AllReadyH.cons rfl (fun Kq hKq => ?_) (AllReadyH.cons rfl (fun Kq hKq => ?_) AllReadyH.nil))
            · go_simp
              refine (HM2.out _ (HC.out.below hS.bl)).mono ?_
              rintro e U21 ⟨rfl, LB⟩
              have hS := hS.below LB
              clear LB
              refine hKq.out _ _ (hS.pre 2) (fun _ => ?_)
              clear hKq Kq
              have hP : Bx w [(w.heap.size, 24, bV K), (g3, 34, (LQ))] U21 := hS.pre 2
              refine wpAnyH_take (i := 3) (v := ?_) rfl (by kernel_rfl) (by kernel_rfl) (by kernel_rfl) (fun _ _ _ h => h) (Or.inl ⟨by rfl, ?_⟩) (by assumption) ?_
              rotate_left
              · intro wq hSq
                go_simp
                try with_reducible rfl
              simp only [List.getElem_toArray, List.getElem_cons_succ, List.getElem_cons_zero, Act.put, List.setIfInBounds_toArray, List.set_cons_zero, List.set_cons_succ]
              refine wpAnyH_take (i := 4) (v := ?_) rfl (by kernel_rfl) (by kernel_rfl) (by kernel_rfl) (fun _ _ _ h => h) (Or.inl ⟨by rfl, ?_⟩) (by assumption) ?_
              rotate_left
              · intro wq hSq
                go_simp
                try with_reducible rfl
              simp only [List.getElem_toArray, List.getElem_cons_succ, List.getElem_cons_zero, Act.put, List.setIfInBounds_toArray, List.set_cons_zero, List.set_cons_succ]
              refine wpAnyH_take (i := 5) (v := ?_) rfl (by kernel_rfl) (by kernel_rfl) (by kernel_rfl) (fun _ _ _ h => h) (Or.inl ⟨by rfl, ?_⟩) (by assumption) ?_
              rotate_left
              · intro wq hSq
                go_simp
                try with_reducible rfl
              simp only [List.getElem_toArray, List.getElem_cons_succ, List.getElem_cons_zero, Act.put, List.setIfInBounds_toArray, List.set_cons_zero, List.set_cons_succ]
              clear hP
              exact R2.out U21 hS
            · go_simp
              have hS' := hS.newAt 2 U20.heap.size rfl 34 PZ Tryd.zeroCells34 zc_pnt
              refine hKq.out _ _ (hS'.pre 2) (fun _ => ?_)
              clear hKq Kq
              generalize U20.alloc (.cells Tryd.zeroCells34 34) = U22 at hS' ⊢
              generalize U20.heap.size = g5 at hS' ⊢
              exact R1a.out U22 g5 hS'
        · rintro U23 g5 hS
          refine wpAnyH_ready (rs := [2]) (by kernel_rfl) (by simp) ?_
          refine (AllReadyH.cons rfl (fun Kq hKq => ?_) AllReadyH.nil)
          · go_simp
            refine (HM2.out _ (HC.out.below hS.bl)).mono ?_
            rintro e U24 ⟨rfl, LB⟩
            have hS := hS.below LB
            clear LB
            refine hKq.out _ _ (hS.pre 2) (fun _ => ?_)
            clear hKq Kq
            have hP : Bx w [(w.heap.size, 24, bV K), (g3, 34, (LQ))] U24 := hS.pre 2
            refine wpAnyH_take (i := 3) (v := ?_) rfl (by kernel_rfl) (by kernel_rfl) (by kernel_rfl) (fun _ _ _ h => h) (Or.inl ⟨by rfl, ?_⟩) (by assumption) ?_
            rotate_left
            · intro wq hSq
              go_simp
              try with_reducible rfl
            simp only [List.getElem_toArray, List.getElem_cons_succ, List.getElem_cons_zero, Act.put, List.setIfInBounds_toArray, List.set_cons_zero, List.set_cons_succ]
            refine wpAnyH_take (i := 4) (v := ?_) rfl (by kernel_rfl) (by kernel_rfl) (by kernel_rfl) (fun _ _ _ h => h) (Or.inl ⟨by rfl, ?_⟩) (by assumption) ?_
            rotate_left
            · intro wq hSq
              go_simp
              try with_reducible rfl
            simp only [List.getElem_toArray, List.getElem_cons_succ, List.getElem_cons_zero, Act.put, List.setIfInBounds_toArray, List.set_cons_zero, List.set_cons_succ]
            refine wpAnyH_take (i := 5) (v := ?_) rfl (by kernel_rfl) (by kernel_rfl) (by kernel_rfl) (fun _ _ _ h => h) (Or.inl ⟨by rfl, ?_⟩) (by assumption) ?_
            rotate_left
            · intro wq hSq
              go_simp
              try with_reducible rfl
            simp only [List.getElem_toArray, List.getElem_cons_succ, List.getElem_cons_zero, Act.put, List.setIfInBounds_toArray, List.set_cons_zero, List.set_cons_succ]
            clear hP
            exact R2a.out U24 g5 hS
      · rintro U25 hS
        refine wpAnyH_ready (rs := [6]) (by kernel_rfl) (by simp) ?_
        refine (AllReadyH.cons rfl (fun Kq hKq => ?_) AllReadyH.nil)
        · go_simp
          have hS' := hS.newAt 2 U25.heap.size rfl 34 PZ Tryd.zeroCells34 zc_pnt
          refine hKq.out _ _ (hS'.pre 2) (fun _ => ?_)
          clear hKq Kq
          generalize U25.alloc (.cells Tryd.zeroCells34 34) = U26 at hS' ⊢
          generalize U25.heap.size = g5 at hS' ⊢
          exact R2a.out U26 g5 hS'
    · rintro U27 g5 hS
      have hst := stPL (hS.get 2 rfl) rfl HLF.out HOF.out
      refine wpAnyH_ready (rs := [7]) (by kernel_rfl) (by simp) ?_
      refine AllReadyH.cons rfl (fun Kq hKq => ?_) AllReadyH.nil
      go_simp
      have hS' : Bx w [(w.heap.size, 24, bV K), (g3, 34, (LQ)), (g5, 34, (LF))] (U27.setCells g5 0 (LF)) := hS.setAt 2 (LF) rfl (by rw [HLF.out]; rfl)
      refine hKq.out _ _ (hS'.pre 2) (fun _ => ?_)
      clear hKq Kq hst hS
      have hS := hS'
      clear hS'
      generalize U27.setCells g5 0 (LF) = U28 at hS ⊢
      refine wpAnyH_ready (rs := [8]) (by kernel_rfl) (by simp) ?_
      refine AllReadyH.cons rfl (fun Kq hKq => ?_) AllReadyH.nil
      go_simp
      refine hKq.out _ _ (hS.pre 2) (fun _ => ?_)
      clear hKq Kq
      refine wpAnyH_done (by kernel_rfl) ?_ _
      have hl5 := ldPL HLF.out (hS.get 2 rfl)
      have hl3 := ldPL HLQ.out (hS.get 1 rfl)
      have hbf := HBF.out
      have hne := HNE.out
      go_wp2_with fail
      refine (HEN.out _ (HC.out.below hS.bl)).mono ?_
      rintro e V6 ⟨ea, en, ec, rfl, HO, LB⟩
      have hS := hS.below LB
      clear LB hl5 hl3 hbf hne
      have hf := HFL.out _ _ (hS.get 1 rfl)
      rcases HCS.out with ⟨e1, e2, e3⟩ | ⟨e1, e2, e3, HDE⟩
      · rw [e1] at hf
        have hn0 : en = 0 := by have h := (HO.toSrc HBB.out).hlen; rw [e3] at h; exact h.symm
        subst hn0
        rw [e2]
        have U9 := hide hS.bl
        clear hS HO
        go_wp2
        go_ret
        exact ⟨rfl, U9.out⟩
      · rw [e1] at hf
        rw [e2]
        have HSR := hide (HO.toSrc HBB.out)
        have hn0 : en = 65 := by rw [← e3]; exact HSR.out.hlen.symm
        subst hn0
        clear HO
        go_wp2_with fail
        refine (HDE.out _ _ _ _ (HC.out.below hS.bl) HSR.out).mono ?_
        rintro e V7 ⟨rfl, LB⟩
        have hS := hS.below LB
        clear hf
        have hst := stPLn V7 HLQ.out HOOQ.out
        have hS' : Bx w [(w.heap.size, 24, bV K), (g3, 34, (LQ)), (g5, 34, (LF)), (V7.heap.size, 34, LQ)] (V7.alloc (.cells LQ.toArray 34)) := hS.newAt 3 V7.heap.size rfl 34 LQ _ rfl
        clear hS LB
        have hS := hS'
        clear hS'
        go_upto_region 11 with fail
        generalize V7.alloc (.cells LQ.toArray 34) = V8 at hS ⊢
        generalize V7.heap.size = g8 at hS ⊢
        clear hst HSR
        have hl3 := ldPL HLQ.out (hS.get 1 rfl)
        have hl8 := ldPL HLQ.out (hS.get 3 rfl)
        have heq := HEQ.out
        have U9 := hide hS.bl
        clear hS
        go_wp2
        go_ret
        exact ⟨rfl, U9.out⟩

end Go.Proofs.YtnabmdpgibnkaabDoor
