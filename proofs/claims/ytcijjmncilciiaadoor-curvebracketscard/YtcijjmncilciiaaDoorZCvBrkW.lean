/-
  The statement CurveBrackets: its walk.
-/
import Derived.Test.YtcijjmncilciiaaDoorZEcKToCvBas2
namespace Go.Proofs.YtcijjmncilciiaaDoor
open Go.RowKit Go.IntWalk
attribute [local go_sem ↓] ld_num st_num ld_pln st_pln ld_ops st_ops ld_pnt st_pnt ld_dig st_dig ld_tri st_tri eq_num ne_num eq_pnt ne_pnt bd_pnt ld_F st_F eq_F ld_a32 st_a32 ld_rpt st_rpt eq_rpt bd_rpt eq_dgs bs_pts bd_five st_five

set_option maxRecDepth 100000 in
set_option maxHeartbeats 8000000 in
theorem brackets_walk (K : List Int) (i j : Int) (w : World) (hC : Cv w) (hN : Cb w) (hK : K.length = 32) (dK : Dg 256 K) :
    Calls Tryd.prog 6 #[.agg (bV K).toArray, .int .i64 i, .int .i64 j] w fun e w' => e = .returned (.bool true) ∧ Below w.heap.size w w' := by
  have HK := hide hK
  have HC := hide hC
  have HN := hide hN
  have o1 : ∀ v ∈ bV K, v.oneCell' = true := ints_one _ _
  have hS : Bx w [(w.heap.size, 23, bV K)] (w.alloc (.cells (bV K).toArray 23)) := (Bx.nil w).newAt 0 (w.heap.size) (by simp) 23 (bV K) _ rfl
  have HB : Hid (∀ W, Cb W → Calls Tryd.prog 17 #[] W (Ans (.agg (eL (some (gx, gy))).toArray) W)) := fun W hW => baseB W hW
  have HM : Hid (∀ W, Cv W → Calls Tryd.prog 15 #[.agg (bV K).toArray, .agg (eL (some (gx, gy))).toArray] W (Ans (.tuple #[.agg (eL (tms (dn K).toNat (some (gx, gy)))).toArray, .int .i64 0]) W)) := fun W hW => mulQ hK dK W hW
  have hok : Ok (tms (dn K).toNat (some (gx, gy))) := tms_ok g_ok _
  generalize tms (dn K).toNat (some (gx, gy)) = P at *
  obtain ⟨a, ha, hia⟩ := five_of i
  obtain ⟨b, hb, hjb⟩ := five_of j
  obtain ⟨AQ, CQ, hcq, hnq⟩ := pick5_at P a ha
  obtain ⟨AR, CR, hcr, hnr⟩ := pick5_at P b hb
  have okq := pick5_ok hok a
  have okr := pick5_ok hok b
  generalize pick5 P a = Q at *
  generalize pick5 P b = R at *
  have HOP : Hid (∀ W, Cv W → Calls Tryd.prog 23 #[.agg (eL P).toArray] W (Ans (.bool true) W)) := fun W hW => onQ hok W hW
  have HOG : Hid (∀ W, Cv W → Calls Tryd.prog 23 #[.agg (eL (some (gx, gy))).toArray] W (Ans (.bool true) W)) := fun W hW => onQ g_ok W hW
  have HNE : Hid (∀ W, Cv W → Calls Tryd.prog 24 #[.agg (eL P).toArray] W (Ans (.tuple #[.agg (eL (pneg P)).toArray, .int .i64 0]) W)) := fun W hW => negQ hok W hW
  have HA1 : Hid (∀ W, Cv W → Calls Tryd.prog 8 #[.agg (eL P).toArray, .agg (eL Q).toArray] W (Ans (.tuple #[.agg (eL (padd P Q)).toArray, .int .i64 0]) W)) := fun W hW => addQ hok okq W hW
  have HA2 : Hid (∀ W, Cv W → Calls Tryd.prog 8 #[.agg (eL (padd P Q)).toArray, .agg (eL R).toArray] W (Ans (.tuple #[.agg (eL (padd (padd P Q) R)).toArray, .int .i64 0]) W)) := fun W hW => addQ (padd_ok hok okq) okr W hW
  have HA3 : Hid (∀ W, Cv W → Calls Tryd.prog 8 #[.agg (eL Q).toArray, .agg (eL R).toArray] W (Ans (.tuple #[.agg (eL (padd Q R)).toArray, .int .i64 0]) W)) := fun W hW => addQ okq okr W hW
  have HA4 : Hid (∀ W, Cv W → Calls Tryd.prog 8 #[.agg (eL P).toArray, .agg (eL (padd Q R)).toArray] W (Ans (.tuple #[.agg (eL (padd (padd P Q) R)).toArray, .int .i64 0]) W)) := fun W hW => by rw [padd_assoc hok okq okr]; exact addQ hok (padd_ok okq okr) W hW
  have HS3 : Hid (∀ W, Cv W → Calls Tryd.prog 9 #[.slice (some ⟨W.heap.size, 0, none⟩) 3 3] (W.alloc (.cells (eL P ++ (eL Q ++ eL R)).toArray 25)) (Ans (.tuple #[.agg (eL (padd (padd P Q) R)).toArray, .int .i64 0]) (W.alloc (.cells (eL P ++ (eL Q ++ eL R)).toArray 25)))) := fun W hW => sumQ3 hok okq okr W hW
  have HEQ : Hid (∀ W : World, (eqA 25 (.agg (eL (padd (padd P Q) R)).toArray) (.agg (eL (padd (padd P Q) R)).toArray)).run Tryd.prog W = .ok (.bool true) W) := fun W => eqE _ W
  have HBF : Hid (∀ W : World, (bdA 25 #[(2, .bool true)]).run Tryd.prog W = .ok (.agg (eL none).toArray) W) := fun W => by rw [eL_far]; kernel_rfl
  have HB5 : Hid (∀ W : World, (bdA 56 #[(0, .agg (eL P).toArray), (1, .agg (eL (pneg P)).toArray), (2, .agg (eL none).toArray), (3, .agg (eL (some (gx, gy))).toArray), (4, .agg (eL P).toArray)]).run Tryd.prog W = .ok (.agg (eL P ++ (eL (pneg P) ++ (eL none ++ (eL (some (gx, gy)) ++ eL P)))).toArray) W) := fun W => bd5 (eL_len _) (eL_len _) (eL_len _) (eL_len _) (eL_len _) W
  have HL5 : Hid ((eL P ++ (eL (pneg P) ++ (eL none ++ (eL (some (gx, gy)) ++ eL P)))).length = 325) := by unfold Hid; simp [eL_len]
  have HO5 : Hid (∀ v ∈ eL P ++ (eL (pneg P) ++ (eL none ++ (eL (some (gx, gy)) ++ eL P))), v.oneCell' = true) := by
    intro v hv
    simp only [List.mem_append] at hv
    rcases hv with h | h | h | h | h <;> exact eL_one _ v h
  have HAQ := hide hcq
  have HNQ : Hid (AQ.length = a * 65) := by unfold Hid; rw [hnq, Nat.mul_comm]
  have HAR := hide hcr
  have HNR : Hid (AR.length = b * 65) := by unfold Hid; rw [hnr, Nat.mul_comm]
  have HLP := hide (eL_len (P))
  have HOOP := hide (eL_one (P))
  have HLA := hide (eL_len (pneg P))
  have HOOA := hide (eL_one (pneg P))
  have HLG := hide (eL_len (some (gx, gy)))
  have HOOG := hide (eL_one (some (gx, gy)))
  have HLQ := hide (eL_len (Q))
  have HOOQ := hide (eL_one (Q))
  have HLR := hide (eL_len (R))
  have HOOR := hide (eL_one (R))
  have HLX := hide (eL_len (padd P Q))
  have HOOX := hide (eL_one (padd P Q))
  have HLY := hide (eL_len (padd (padd P Q) R))
  have HOOY := hide (eL_one (padd (padd P Q) R))
  have HLZ := hide (eL_len (padd Q R))
  have HOOZ := hide (eL_one (padd Q R))
  have hwa : IntKind.i64.wrap (a : Int) = (a : Int) := by rw [IntKind.wrap_i64]; omega
  have hwb : IntKind.i64.wrap (b : Int) = (b : Int) := by rw [IntKind.wrap_i64]; omega
  have haI : (a : Int) < 5 := by omega
  have hbI : (b : Int) < 5 := by omega
  clear hK dK hC hN hok okq okr hcq hnq hcr hnr
  generalize eL (padd (padd P Q) R) = LY at *
  generalize eL (padd P Q) = LX at *
  generalize eL (padd Q R) = LZ at *
  generalize eL Q = LQ at *
  generalize eL R = LR at *
  generalize eL (pneg P) = LA at *
  generalize eL P = LP at *
  generalize eL none = LF at *
  generalize eL (some (gx, gy)) = LG at *
  clear P Q R
  go_enter Tryd.func6, Tryd.ntmps6
  go_upto_region 1 with fail
  generalize (w.alloc (.cells (bV K).toArray 23)) = U0 at hS ⊢
  clear o1
  have hS := hS.drew
  refine wp_region_held_drew (S := Bx w [(w.heap.size, 23, bV K)]) (by kernel_rfl) (hS.pre 1) (fun _ => ?_)
  generalize U0.drew = U1 at hS ⊢
  have hP : Bx w [(w.heap.size, 23, bV K)] U1 := hS.pre 1
  refine wpAnyH_take (i := 0) (v := ?_) rfl (by kernel_rfl) (by kernel_rfl) (by kernel_rfl) (fun _ _ _ h => h) (Or.inl ⟨by rfl, ?_⟩) (by assumption) ?_
  rotate_left
  · intro wq hSq
    have hl := ldDg HK.out (hSq.get 0 rfl)
    go_simp
    try with_reducible rfl
  simp only [List.getElem_toArray, List.getElem_cons_zero, Act.put, List.setIfInBounds_toArray, List.set_cons_zero, List.set_cons_succ]
  clear hP
  refine' mk_restN (K := fun W g7 => Bx w [(w.heap.size, 23, bV K), (g7, 25, PZ)] W) (fun R2a => ?_) ?_
  rotate_left
  · skip
    refine' mk_restW (K := fun W => Bx w [(w.heap.size, 23, bV K)] W) (fun R2 => ?_) ?_
    rotate_left
    · skip
      refine' mk_restN (K := fun W g7 => Bx w [(w.heap.size, 23, bV K), (g7, 25, PZ)] W) (fun R1a => ?_) ?_
      rotate_left
      · skip
        refine' mk_restW (K := fun W => Bx w [(w.heap.size, 23, bV K)] W) (fun R1 => ?_) ?_
        rotate_left
        · skip
          refine' mk_restN (K := fun W g7 => Bx w [(w.heap.size, 23, bV K), (g7, 25, PZ)] W) (fun R0a => ?_) ?_
          rotate_left
          · skip
            refine wpAnyH_ready (rs := [1, 6]) (by kernel_rfl) (by simp) ?_
            refine (AllReadyH.cons rfl (fun Kq hKq => ?_) (AllReadyH.cons rfl (fun Kq hKq => ?_) AllReadyH.nil))
            · go_simp
              refine (HB.out _ (HN.out.below hS.bl)).mono ?_
              rintro e U2 ⟨rfl, LB⟩
              have hS := hS.below LB
              clear LB
              refine hKq.out _ _ (hS.pre 1) (fun _ => ?_)
              clear hKq Kq
              exact R1.out U2 hS
            · go_simp
              have hS' := hS.newAt 1 U1.heap.size rfl 25 PZ Tryd.zeroCells25 zc_pnt
              refine hKq.out _ _ (hS'.pre 1) (fun _ => ?_)
              clear hKq Kq
              generalize U1.alloc (.cells Tryd.zeroCells25 25) = U3 at hS' ⊢
              generalize U1.heap.size = g7 at hS' ⊢
              exact R0a.out U3 g7 hS'
          · rintro U4 g7 hS
            refine wpAnyH_ready (rs := [1]) (by kernel_rfl) (by simp) ?_
            refine (AllReadyH.cons rfl (fun Kq hKq => ?_) AllReadyH.nil)
            · go_simp
              refine (HB.out _ (HN.out.below hS.bl)).mono ?_
              rintro e U5 ⟨rfl, LB⟩
              have hS := hS.below LB
              clear LB
              refine hKq.out _ _ (hS.pre 1) (fun _ => ?_)
              clear hKq Kq
              exact R1a.out U5 g7 hS
        · rintro U6 hS
          refine wpAnyH_ready (rs := [2, 6]) (by kernel_rfl) (by simp) ?_
          refine (AllReadyH.cons rfl (fun Kq hKq => ?_) (AllReadyH.cons rfl (fun Kq hKq => ?_) AllReadyH.nil))
          · go_simp
            refine (HM.out _ (HC.out.below hS.bl)).mono ?_
            rintro e U7 ⟨rfl, LB⟩
            have hS := hS.below LB
            clear LB
            refine hKq.out _ _ (hS.pre 1) (fun _ => ?_)
            clear hKq Kq
            have hP : Bx w [(w.heap.size, 23, bV K)] U7 := hS.pre 1
            refine wpAnyH_take (i := 3) (v := ?_) rfl (by kernel_rfl) (by kernel_rfl) (by kernel_rfl) (fun _ _ _ h => h) (Or.inl ⟨by rfl, ?_⟩) (by assumption) ?_
            rotate_left
            · intro wq hSq
              go_simp
              try with_reducible rfl
            simp only [List.getElem_toArray, List.getElem_cons_succ, List.getElem_cons_zero, Act.put, List.setIfInBounds_toArray, List.set_cons_zero, List.set_cons_succ]
            refine wpAnyH_take (i := 4) (v := ?_) rfl (by kernel_rfl) (by kernel_rfl) (by kernel_rfl) (fun _ _ _ h => h) (Or.inl ⟨by rfl, ?_⟩) (by assumption) ?_
            rotate_left
            · intro wq hSq
              go_simp
              try with_reducible rfl
            simp only [List.getElem_toArray, List.getElem_cons_succ, List.getElem_cons_zero, Act.put, List.setIfInBounds_toArray, List.set_cons_zero, List.set_cons_succ]
            refine wpAnyH_take (i := 5) (v := ?_) rfl (by kernel_rfl) (by kernel_rfl) (by kernel_rfl) (fun _ _ _ h => h) (Or.inl ⟨by rfl, ?_⟩) (by assumption) ?_
            rotate_left
            · intro wq hSq
              go_simp
              try with_reducible rfl
            simp only [List.getElem_toArray, List.getElem_cons_succ, List.getElem_cons_zero, Act.put, List.setIfInBounds_toArray, List.set_cons_zero, List.set_cons_succ]
            clear hP
            exact R2.out U7 hS
          · go_simp
            have hS' := hS.newAt 1 U6.heap.size rfl 25 PZ Tryd.zeroCells25 zc_pnt
            refine hKq.out _ _ (hS'.pre 1) (fun _ => ?_)
            clear hKq Kq
            generalize U6.alloc (.cells Tryd.zeroCells25 25) = U8 at hS' ⊢
            generalize U6.heap.size = g7 at hS' ⊢
            exact R1a.out U8 g7 hS'
      · rintro U9 g7 hS
        refine wpAnyH_ready (rs := [2]) (by kernel_rfl) (by simp) ?_
        refine (AllReadyH.cons rfl (fun Kq hKq => ?_) AllReadyH.nil)
        · go_simp
          refine (HM.out _ (HC.out.below hS.bl)).mono ?_
          rintro e U10 ⟨rfl, LB⟩
          have hS := hS.below LB
          clear LB
          refine hKq.out _ _ (hS.pre 1) (fun _ => ?_)
          clear hKq Kq
          have hP : Bx w [(w.heap.size, 23, bV K)] U10 := hS.pre 1
          refine wpAnyH_take (i := 3) (v := ?_) rfl (by kernel_rfl) (by kernel_rfl) (by kernel_rfl) (fun _ _ _ h => h) (Or.inl ⟨by rfl, ?_⟩) (by assumption) ?_
          rotate_left
          · intro wq hSq
            go_simp
            try with_reducible rfl
          simp only [List.getElem_toArray, List.getElem_cons_succ, List.getElem_cons_zero, Act.put, List.setIfInBounds_toArray, List.set_cons_zero, List.set_cons_succ]
          refine wpAnyH_take (i := 4) (v := ?_) rfl (by kernel_rfl) (by kernel_rfl) (by kernel_rfl) (fun _ _ _ h => h) (Or.inl ⟨by rfl, ?_⟩) (by assumption) ?_
          rotate_left
          · intro wq hSq
            go_simp
            try with_reducible rfl
          simp only [List.getElem_toArray, List.getElem_cons_succ, List.getElem_cons_zero, Act.put, List.setIfInBounds_toArray, List.set_cons_zero, List.set_cons_succ]
          refine wpAnyH_take (i := 5) (v := ?_) rfl (by kernel_rfl) (by kernel_rfl) (by kernel_rfl) (fun _ _ _ h => h) (Or.inl ⟨by rfl, ?_⟩) (by assumption) ?_
          rotate_left
          · intro wq hSq
            go_simp
            try with_reducible rfl
          simp only [List.getElem_toArray, List.getElem_cons_succ, List.getElem_cons_zero, Act.put, List.setIfInBounds_toArray, List.set_cons_zero, List.set_cons_succ]
          clear hP
          exact R2a.out U10 g7 hS
    · rintro U11 hS
      refine wpAnyH_ready (rs := [6]) (by kernel_rfl) (by simp) ?_
      refine (AllReadyH.cons rfl (fun Kq hKq => ?_) AllReadyH.nil)
      · go_simp
        have hS' := hS.newAt 1 U11.heap.size rfl 25 PZ Tryd.zeroCells25 zc_pnt
        refine hKq.out _ _ (hS'.pre 1) (fun _ => ?_)
        clear hKq Kq
        generalize U11.alloc (.cells Tryd.zeroCells25 25) = U12 at hS' ⊢
        generalize U11.heap.size = g7 at hS' ⊢
        exact R2a.out U12 g7 hS'
  · rintro U13 g7 hS
    have hst := stPL (hS.get 1 rfl) rfl HLP.out HOOP.out
    refine wpAnyH_ready (rs := [7]) (by kernel_rfl) (by simp) ?_
    refine AllReadyH.cons rfl (fun Kq hKq => ?_) AllReadyH.nil
    go_simp
    have hS' : Bx w [(w.heap.size, 23, bV K), (g7, 25, (LP))] (U13.setCells g7 0 (LP)) := hS.setAt 1 (LP) rfl (by rw [HLP.out]; rfl)
    refine hKq.out _ _ (hS'.pre 1) (fun _ => ?_)
    clear hKq Kq hst hS
    have hS := hS'
    clear hS'
    generalize U13.setCells g7 0 (LP) = U14 at hS ⊢
    refine wpAnyH_ready (rs := [8]) (by kernel_rfl) (by simp) ?_
    refine AllReadyH.cons rfl (fun Kq hKq => ?_) AllReadyH.nil
    go_simp
    refine hKq.out _ _ (hS.pre 1) (fun _ => ?_)
    clear hKq Kq
    refine wpAnyH_done (by kernel_rfl) ?_ _
    have hl := ldPL HLP.out (hS.get 1 rfl)
    go_wp2_with fail
    refine (HOP.out _ (HC.out.below hS.bl)).mono ?_
    rintro e V1 ⟨rfl, LB⟩
    have hS := hS.below LB
    clear LB hl
    go_wp2_with fail
    refine (HB.out _ (HN.out.below hS.bl)).mono ?_
    rintro e V2 ⟨rfl, LB⟩
    have hS := hS.below LB
    clear LB
    go_wp2_with fail
    refine (HOG.out _ (HC.out.below hS.bl)).mono ?_
    rintro e V3 ⟨rfl, LB⟩
    have hS := hS.below LB
    clear LB
    have hl := ldPL HLP.out (hS.get 1 rfl)
    go_wp2_with fail
    refine (HNE.out _ (HC.out.below hS.bl)).mono ?_
    rintro e V4 ⟨rfl, LB⟩
    have hS := hS.below LB
    clear LB hl
    have hst := stPLn V4 HLA.out HOOA.out
    have hS' : Bx w [(w.heap.size, 23, bV K), (g7, 25, (LP)), (V4.heap.size, 25, (LA))] (V4.alloc (.cells LA.toArray 25)) := hS.newAt 2 V4.heap.size rfl 25 LA _ rfl
    clear hS
    have hS := hS'
    clear hS'
    go_upto_region 5 with fail
    generalize V4.alloc (.cells LA.toArray 25) = V5 at hS ⊢
    generalize V4.heap.size = g9 at hS ⊢
    clear hst
    have hS := hS.drew
    refine wp_region_held_drew (S := Bx w [(w.heap.size, 23, bV K), (g7, 25, (LP)), (g9, 25, (LA))]) (by kernel_rfl) (hS.pre 3) (fun _ => ?_)
    generalize V5.drew = U15 at hS ⊢
    have hP : Bx w [(w.heap.size, 23, bV K), (g7, 25, (LP)), (g9, 25, (LA))] U15 := hS.pre 3
    refine wpAnyH_take (i := 0) (v := ?_) rfl (by kernel_rfl) (by kernel_rfl) (by kernel_rfl) (fun _ _ _ h => h) (Or.inl ⟨by rfl, ?_⟩) (by assumption) ?_
    rotate_left
    · intro wq hSq
      have hl := ldPL HLP.out (hSq.get 1 rfl)
      go_simp
      try with_reducible rfl
    simp only [List.getElem_toArray, List.getElem_cons_zero, Act.put, List.setIfInBounds_toArray, List.set_cons_zero, List.set_cons_succ]
    refine wpAnyH_take (i := 1) (v := ?_) rfl (by kernel_rfl) (by kernel_rfl) (by kernel_rfl) (fun _ _ _ h => h) (Or.inl ⟨by rfl, ?_⟩) (by assumption) ?_
    rotate_left
    · intro wq hSq
      have hl := ldPL HLA.out (hSq.get 2 rfl)
      go_simp
      try with_reducible rfl
    simp only [List.getElem_toArray, List.getElem_cons_succ, List.getElem_cons_zero, Act.put, List.setIfInBounds_toArray, List.set_cons_zero, List.set_cons_succ]
    refine wpAnyH_take (i := 2) (v := ?_) rfl (by kernel_rfl) (by kernel_rfl) (by kernel_rfl) (fun _ _ _ h => h) (Or.inl ⟨by rfl, ?_⟩) (by assumption) ?_
    rotate_left
    · intro wq hSq
      have hl := HBF.out wq
      go_simp
      try with_reducible rfl
    simp only [List.getElem_toArray, List.getElem_cons_succ, List.getElem_cons_zero, Act.put, List.setIfInBounds_toArray, List.set_cons_zero, List.set_cons_succ]
    refine wpAnyH_take (i := 4) (v := ?_) rfl (by kernel_rfl) (by kernel_rfl) (by kernel_rfl) (fun _ _ _ h => h) (Or.inl ⟨by rfl, ?_⟩) (by assumption) ?_
    rotate_left
    · intro wq hSq
      have hl := ldPL HLP.out (hSq.get 1 rfl)
      go_simp
      try with_reducible rfl
    simp only [List.getElem_toArray, List.getElem_cons_succ, List.getElem_cons_zero, Act.put, List.setIfInBounds_toArray, List.set_cons_zero, List.set_cons_succ]
    clear hP
    refine' mk_restN (K := fun W g11 => Bx w [(w.heap.size, 23, bV K), (g7, 25, (LP)), (g9, 25, (LA)), (g11, 56, P5)] W) (fun R1a => ?_) ?_
    rotate_left
    · skip
      refine' mk_restW (K := fun W => Bx w [(w.heap.size, 23, bV K), (g7, 25, (LP)), (g9, 25, (LA))] W) (fun R1 => ?_) ?_
      rotate_left
      · skip
        refine' mk_restN (K := fun W g11 => Bx w [(w.heap.size, 23, bV K), (g7, 25, (LP)), (g9, 25, (LA)), (g11, 56, P5)] W) (fun R0a => ?_) ?_
        rotate_left
        · skip
          refine wpAnyH_ready (rs := [3, 6]) (by kernel_rfl) (by simp) ?_
          refine (AllReadyH.cons rfl (fun Kq hKq => ?_) (AllReadyH.cons rfl (fun Kq hKq => ?_) AllReadyH.nil))
          · go_simp
            refine (HB.out _ (HN.out.below hS.bl)).mono ?_
            rintro e U16 ⟨rfl, LB⟩
            have hS := hS.below LB
            clear LB
            refine hKq.out _ _ (hS.pre 3) (fun _ => ?_)
            clear hKq Kq
            have hP : Bx w [(w.heap.size, 23, bV K), (g7, 25, (LP)), (g9, 25, (LA))] U16 := hS.pre 3
            refine wpAnyH_take (i := 5) (v := ?_) rfl (by kernel_rfl) (by kernel_rfl) (by kernel_rfl) (fun _ _ _ h => h) (Or.inl ⟨by rfl, ?_⟩) (by assumption) ?_
            rotate_left
            · intro wq hSq
              have hl := HB5.out wq
              go_simp
              try with_reducible rfl
            simp only [List.getElem_toArray, List.getElem_cons_succ, List.getElem_cons_zero, Act.put, List.setIfInBounds_toArray, List.set_cons_zero, List.set_cons_succ]
            clear hP
            exact R1.out U16 hS
          · go_simp
            have hS' := hS.newAt 3 U15.heap.size rfl 56 P5 Tryd.zeroCells56 zc_five
            refine hKq.out _ _ (hS'.pre 3) (fun _ => ?_)
            clear hKq Kq
            generalize U15.alloc (.cells Tryd.zeroCells56 56) = U17 at hS' ⊢
            generalize U15.heap.size = g11 at hS' ⊢
            exact R0a.out U17 g11 hS'
        · rintro U18 g11 hS
          refine wpAnyH_ready (rs := [3]) (by kernel_rfl) (by simp) ?_
          refine (AllReadyH.cons rfl (fun Kq hKq => ?_) AllReadyH.nil)
          · go_simp
            refine (HB.out _ (HN.out.below hS.bl)).mono ?_
            rintro e U19 ⟨rfl, LB⟩
            have hS := hS.below LB
            clear LB
            refine hKq.out _ _ (hS.pre 3) (fun _ => ?_)
            clear hKq Kq
            have hP : Bx w [(w.heap.size, 23, bV K), (g7, 25, (LP)), (g9, 25, (LA))] U19 := hS.pre 3
            refine wpAnyH_take (i := 5) (v := ?_) rfl (by kernel_rfl) (by kernel_rfl) (by kernel_rfl) (fun _ _ _ h => h) (Or.inl ⟨by rfl, ?_⟩) (by assumption) ?_
            rotate_left
            · intro wq hSq
              have hl := HB5.out wq
              go_simp
              try with_reducible rfl
            simp only [List.getElem_toArray, List.getElem_cons_succ, List.getElem_cons_zero, Act.put, List.setIfInBounds_toArray, List.set_cons_zero, List.set_cons_succ]
            clear hP
            exact R1a.out U19 g11 hS
      · rintro U20 hS
        refine wpAnyH_ready (rs := [6]) (by kernel_rfl) (by simp) ?_
        refine (AllReadyH.cons rfl (fun Kq hKq => ?_) AllReadyH.nil)
        · go_simp
          have hS' := hS.newAt 3 U20.heap.size rfl 56 P5 Tryd.zeroCells56 zc_five
          refine hKq.out _ _ (hS'.pre 3) (fun _ => ?_)
          clear hKq Kq
          generalize U20.alloc (.cells Tryd.zeroCells56 56) = U21 at hS' ⊢
          generalize U20.heap.size = g11 at hS' ⊢
          exact R1a.out U21 g11 hS'
    · rintro U22 g11 hS
      have hst := st5 (hS.get 3 rfl) rfl HL5.out HO5.out
      refine wpAnyH_ready (rs := [7]) (by kernel_rfl) (by simp) ?_
      refine AllReadyH.cons rfl (fun Kq hKq => ?_) AllReadyH.nil
      go_simp
      have hS' : Bx w [(w.heap.size, 23, bV K), (g7, 25, (LP)), (g9, 25, (LA)), (g11, 56, (LP ++ (LA ++ (LF ++ (LG ++ LP)))))] (U22.setCells g11 0 (LP ++ (LA ++ (LF ++ (LG ++ LP))))) := hS.setAt 3 (LP ++ (LA ++ (LF ++ (LG ++ LP)))) rfl (by rw [HL5.out]; rfl)
      refine hKq.out _ _ (hS'.pre 3) (fun _ => ?_)
      clear hKq Kq hst hS
      have hS := hS'
      clear hS'
      generalize U22.setCells g11 0 (LP ++ (LA ++ (LF ++ (LG ++ LP)))) = U23 at hS ⊢
      refine wpAnyH_done (by kernel_rfl) ?_ _
      clear HB5
      go_upto_region 6 with fail
      have hS := hS.drew
      refine wp_region_held_drew (S := Bx w [(w.heap.size, 23, bV K), (g7, 25, (LP)), (g9, 25, (LA)), (g11, 56, (LP ++ (LA ++ (LF ++ (LG ++ LP)))))]) (by kernel_rfl) (hS.pre 4) (fun _ => ?_)
      generalize U23.drew = U24 at hS ⊢
      have hP : Bx w [(w.heap.size, 23, bV K), (g7, 25, (LP)), (g9, 25, (LA)), (g11, 56, (LP ++ (LA ++ (LF ++ (LG ++ LP)))))] U24 := hS.pre 4
      refine wpAnyH_take (i := 0) (v := ?_) rfl (by kernel_rfl) (by kernel_rfl) (by kernel_rfl) (fun _ _ _ h => h) (Or.inl ⟨by rfl, ?_⟩) (by assumption) ?_
      rotate_left
      · intro wq hSq
        go_simp
        try with_reducible rfl
      simp only [List.getElem_toArray, List.getElem_cons_zero, Act.put, List.setIfInBounds_toArray, List.set_cons_zero, List.set_cons_succ]
      refine wpAnyH_take (i := 1) (v := ?_) rfl (by kernel_rfl) (by kernel_rfl) (by kernel_rfl) (fun _ _ _ h => h) (Or.inl ⟨by rfl, ?_⟩) (by assumption) ?_
      rotate_left
      · intro wq hSq
        go_simp
        try with_reducible rfl
      simp only [List.getElem_toArray, List.getElem_cons_succ, List.getElem_cons_zero, Act.put, List.setIfInBounds_toArray, List.set_cons_zero, List.set_cons_succ]
      refine wpAnyH_take (i := 2) (v := ?_) rfl (by kernel_rfl) (by kernel_rfl) (by kernel_rfl) (fun _ _ _ h => h) (Or.inl ⟨by rfl, ?_⟩) (by assumption) ?_
      rotate_left
      · intro wq hSq
        go_simp
        try with_reducible rfl
      simp only [List.getElem_toArray, List.getElem_cons_succ, List.getElem_cons_zero, Act.put, List.setIfInBounds_toArray, List.set_cons_zero, List.set_cons_succ]
      refine wpAnyH_take (i := 3) (v := ?_) rfl (by kernel_rfl) (by kernel_rfl) (by kernel_rfl) (fun _ _ _ h => h) (Or.inl ⟨by rfl, ?_⟩) (by assumption) ?_
      rotate_left
      · intro wq hSq
        go_simp
        try with_reducible rfl
      simp only [List.getElem_toArray, List.getElem_cons_succ, List.getElem_cons_zero, Act.put, List.setIfInBounds_toArray, List.set_cons_zero, List.set_cons_succ]
      refine wpAnyH_take (i := 4) (v := ?_) rfl (by kernel_rfl) (by kernel_rfl) (by kernel_rfl) (fun _ _ _ h => h) (Or.inl ⟨by rfl, ?_⟩) (by assumption) ?_
      rotate_left
      · intro wq hSq
        go_simp
        try with_reducible rfl
      simp only [List.getElem_toArray, List.getElem_cons_succ, List.getElem_cons_zero, Act.put, List.setIfInBounds_toArray, List.set_cons_zero, List.set_cons_succ]
      refine wpAnyH_take (i := 5) (v := ?_) rfl (by kernel_rfl) (by kernel_rfl) (by kernel_rfl) (fun _ _ _ h => h) (Or.inl ⟨by rfl, ?_⟩) (by assumption) ?_
      rotate_left
      · intro wq hSq
        have hl := ld5 HLQ.out (hSq.get 3 rfl) HAQ.out HNQ.out
        go_simp
        try with_reducible rfl
      simp only [List.getElem_toArray, List.getElem_cons_succ, List.getElem_cons_zero, Act.put, List.setIfInBounds_toArray, List.set_cons_zero, List.set_cons_succ]
      refine wpAnyH_take (i := 6) (v := ?_) rfl (by kernel_rfl) (by kernel_rfl) (by kernel_rfl) (fun _ _ _ h => h) (Or.inl ⟨by rfl, ?_⟩) (by assumption) ?_
      rotate_left
      · intro wq hSq
        go_simp
        try with_reducible rfl
      simp only [List.getElem_toArray, List.getElem_cons_succ, List.getElem_cons_zero, Act.put, List.setIfInBounds_toArray, List.set_cons_zero, List.set_cons_succ]
      refine wpAnyH_take (i := 7) (v := ?_) rfl (by kernel_rfl) (by kernel_rfl) (by kernel_rfl) (fun _ _ _ h => h) (Or.inl ⟨by rfl, ?_⟩) (by assumption) ?_
      rotate_left
      · intro wq hSq
        go_simp
        try with_reducible rfl
      simp only [List.getElem_toArray, List.getElem_cons_succ, List.getElem_cons_zero, Act.put, List.setIfInBounds_toArray, List.set_cons_zero, List.set_cons_succ]
      refine wpAnyH_take (i := 8) (v := ?_) rfl (by kernel_rfl) (by kernel_rfl) (by kernel_rfl) (fun _ _ _ h => h) (Or.inl ⟨by rfl, ?_⟩) (by assumption) ?_
      rotate_left
      · intro wq hSq
        go_simp
        try with_reducible rfl
      simp only [List.getElem_toArray, List.getElem_cons_succ, List.getElem_cons_zero, Act.put, List.setIfInBounds_toArray, List.set_cons_zero, List.set_cons_succ]
      refine wpAnyH_take (i := 9) (v := ?_) rfl (by kernel_rfl) (by kernel_rfl) (by kernel_rfl) (fun _ _ _ h => h) (Or.inl ⟨by rfl, ?_⟩) (by assumption) ?_
      rotate_left
      · intro wq hSq
        go_simp
        try with_reducible rfl
      simp only [List.getElem_toArray, List.getElem_cons_succ, List.getElem_cons_zero, Act.put, List.setIfInBounds_toArray, List.set_cons_zero, List.set_cons_succ]
      refine wpAnyH_take (i := 10) (v := ?_) rfl (by kernel_rfl) (by kernel_rfl) (by kernel_rfl) (fun _ _ _ h => h) (Or.inl ⟨by rfl, ?_⟩) (by assumption) ?_
      rotate_left
      · intro wq hSq
        go_simp
        try with_reducible rfl
      simp only [List.getElem_toArray, List.getElem_cons_succ, List.getElem_cons_zero, Act.put, List.setIfInBounds_toArray, List.set_cons_zero, List.set_cons_succ]
      refine wpAnyH_take (i := 11) (v := ?_) rfl (by kernel_rfl) (by kernel_rfl) (by kernel_rfl) (fun _ _ _ h => h) (Or.inl ⟨by rfl, ?_⟩) (by assumption) ?_
      rotate_left
      · intro wq hSq
        have hl := ld5 HLR.out (hSq.get 3 rfl) HAR.out HNR.out
        go_simp
        try with_reducible rfl
      simp only [List.getElem_toArray, List.getElem_cons_succ, List.getElem_cons_zero, Act.put, List.setIfInBounds_toArray, List.set_cons_zero, List.set_cons_succ]
      clear hP
      refine' mk_rest2 (K := fun W g12 g13 => Bx w [(w.heap.size, 23, bV K), (g7, 25, (LP)), (g9, 25, (LA)), (g11, 56, (LP ++ (LA ++ (LF ++ (LG ++ LP))))), (g12, 25, PZ), (g13, 25, PZ)] W) (fun R0ab => ?_) ?_
      rotate_left
      · skip
        refine' mk_restN (K := fun W g13 => Bx w [(w.heap.size, 23, bV K), (g7, 25, (LP)), (g9, 25, (LA)), (g11, 56, (LP ++ (LA ++ (LF ++ (LG ++ LP))))), (g13, 25, PZ)] W) (fun R0b => ?_) ?_
        rotate_left
        · skip
          refine' mk_restN (K := fun W g12 => Bx w [(w.heap.size, 23, bV K), (g7, 25, (LP)), (g9, 25, (LA)), (g11, 56, (LP ++ (LA ++ (LF ++ (LG ++ LP))))), (g12, 25, PZ)] W) (fun R0a => ?_) ?_
          rotate_left
          · skip
            refine wpAnyH_ready (rs := [12, 13]) (by kernel_rfl) (by simp) ?_
            refine (AllReadyH.cons rfl (fun Kq hKq => ?_) (AllReadyH.cons rfl (fun Kq hKq => ?_) AllReadyH.nil))
            · go_simp
              have hS' := hS.newAt 4 U24.heap.size rfl 25 PZ Tryd.zeroCells25 zc_pnt
              refine hKq.out _ _ (hS'.pre 4) (fun _ => ?_)
              clear hKq Kq
              generalize U24.alloc (.cells Tryd.zeroCells25 25) = U25 at hS' ⊢
              generalize U24.heap.size = g12 at hS' ⊢
              exact R0a.out U25 g12 hS'
            · go_simp
              have hS' := hS.newAt 4 U24.heap.size rfl 25 PZ Tryd.zeroCells25 zc_pnt
              refine hKq.out _ _ (hS'.pre 4) (fun _ => ?_)
              clear hKq Kq
              generalize U24.alloc (.cells Tryd.zeroCells25 25) = U26 at hS' ⊢
              generalize U24.heap.size = g13 at hS' ⊢
              exact R0b.out U26 g13 hS'
          · rintro U27 g12 hS
            refine wpAnyH_ready (rs := [13]) (by kernel_rfl) (by simp) ?_
            refine (AllReadyH.cons rfl (fun Kq hKq => ?_) AllReadyH.nil)
            · go_simp
              have hS' := hS.newAt 5 U27.heap.size rfl 25 PZ Tryd.zeroCells25 zc_pnt
              refine hKq.out _ _ (hS'.pre 4) (fun _ => ?_)
              clear hKq Kq
              generalize U27.alloc (.cells Tryd.zeroCells25 25) = U28 at hS' ⊢
              generalize U27.heap.size = g13 at hS' ⊢
              exact R0ab.out U28 g12 g13 hS'
        · rintro U29 g13 hS
          refine wpAnyH_ready (rs := [12]) (by kernel_rfl) (by simp) ?_
          refine (AllReadyH.cons rfl (fun Kq hKq => ?_) AllReadyH.nil)
          · go_simp
            have hS' := hS.newAt 4 U29.heap.size rfl 25 PZ Tryd.zeroCells25 zc_pnt
            refine hKq.out _ _ (hS'.pre 4) (fun _ => ?_)
            clear hKq Kq
            generalize U29.alloc (.cells Tryd.zeroCells25 25) = U30 at hS' ⊢
            generalize U29.heap.size = g12 at hS' ⊢
            exact R0ab.out U30 g12 g13 hS'
      · rintro U31 g12 g13 hS
        have hst := stPL (hS.get 4 rfl) rfl HLQ.out HOOQ.out
        refine wpAnyH_ready (rs := [14]) (by kernel_rfl) (by simp) ?_
        refine AllReadyH.cons rfl (fun Kq hKq => ?_) AllReadyH.nil
        go_simp
        have hS' : Bx w [(w.heap.size, 23, bV K), (g7, 25, (LP)), (g9, 25, (LA)), (g11, 56, (LP ++ (LA ++ (LF ++ (LG ++ LP))))), (g12, 25, (LQ)), (g13, 25, PZ)] (U31.setCells g12 0 (LQ)) := hS.setAt 4 (LQ) rfl (by rw [HLQ.out]; rfl)
        refine hKq.out _ _ (hS'.pre 4) (fun _ => ?_)
        clear hKq Kq hst hS
        have hS := hS'
        clear hS'
        generalize U31.setCells g12 0 (LQ) = U32 at hS ⊢
        have hst := stPL (hS.get 5 rfl) rfl HLR.out HOOR.out
        refine wpAnyH_ready (rs := [15]) (by kernel_rfl) (by simp) ?_
        refine AllReadyH.cons rfl (fun Kq hKq => ?_) AllReadyH.nil
        go_simp
        have hS' : Bx w [(w.heap.size, 23, bV K), (g7, 25, (LP)), (g9, 25, (LA)), (g11, 56, (LP ++ (LA ++ (LF ++ (LG ++ LP))))), (g12, 25, (LQ)), (g13, 25, (LR))] (U32.setCells g13 0 (LR)) := hS.setAt 5 (LR) rfl (by rw [HLR.out]; rfl)
        refine hKq.out _ _ (hS'.pre 4) (fun _ => ?_)
        clear hKq Kq hst hS
        have hS := hS'
        clear hS'
        generalize U32.setCells g13 0 (LR) = U33 at hS ⊢
        refine wpAnyH_done (by kernel_rfl) ?_ _
        have hla := ldPL HLP.out (hS.get 1 rfl)
        have hlb := ldPL HLQ.out (hS.get 4 rfl)
        go_wp2_with fail
        refine (HA1.out _ (HC.out.below hS.bl)).mono ?_
        rintro e V7 ⟨rfl, LB⟩
        have hS := hS.below LB
        clear LB hla hlb
        have hst := stPLn V7 HLX.out HOOX.out
        have hS' : Bx w [(w.heap.size, 23, bV K), (g7, 25, (LP)), (g9, 25, (LA)), (g11, 56, (LP ++ (LA ++ (LF ++ (LG ++ LP))))), (g12, 25, (LQ)), (g13, 25, (LR)), (V7.heap.size, 25, (LX))] (V7.alloc (.cells LX.toArray 25)) := hS.newAt 6 V7.heap.size rfl 25 LX _ rfl
        clear hS
        have hS := hS'
        clear hS'
        go_upto_region 8 with fail
        generalize V7.alloc (.cells LX.toArray 25) = V8 at hS ⊢
        generalize V7.heap.size = g14 at hS ⊢
        clear hst
        have hla := ldPL HLX.out (hS.get 6 rfl)
        have hlb := ldPL HLR.out (hS.get 5 rfl)
        go_wp2_with fail
        refine (HA2.out _ (HC.out.below hS.bl)).mono ?_
        rintro e V9 ⟨rfl, LB⟩
        have hS := hS.below LB
        clear LB hla hlb
        have hst := stPLn V9 HLY.out HOOY.out
        have hS' : Bx w [(w.heap.size, 23, bV K), (g7, 25, (LP)), (g9, 25, (LA)), (g11, 56, (LP ++ (LA ++ (LF ++ (LG ++ LP))))), (g12, 25, (LQ)), (g13, 25, (LR)), (g14, 25, (LX)), (V9.heap.size, 25, (LY))] (V9.alloc (.cells LY.toArray 25)) := hS.newAt 7 V9.heap.size rfl 25 LY _ rfl
        clear hS
        have hS := hS'
        clear hS'
        go_upto_region 9 with fail
        generalize V9.alloc (.cells LY.toArray 25) = V10 at hS ⊢
        generalize V9.heap.size = g15 at hS ⊢
        clear hst
        have hla := ldPL HLQ.out (hS.get 4 rfl)
        have hlb := ldPL HLR.out (hS.get 5 rfl)
        go_wp2_with fail
        refine (HA3.out _ (HC.out.below hS.bl)).mono ?_
        rintro e V11 ⟨rfl, LB⟩
        have hS := hS.below LB
        clear LB hla hlb
        have hst := stPLn V11 HLZ.out HOOZ.out
        have hS' : Bx w [(w.heap.size, 23, bV K), (g7, 25, (LP)), (g9, 25, (LA)), (g11, 56, (LP ++ (LA ++ (LF ++ (LG ++ LP))))), (g12, 25, (LQ)), (g13, 25, (LR)), (g14, 25, (LX)), (g15, 25, (LY)), (V11.heap.size, 25, (LZ))] (V11.alloc (.cells LZ.toArray 25)) := hS.newAt 8 V11.heap.size rfl 25 LZ _ rfl
        clear hS
        have hS := hS'
        clear hS'
        go_upto_region 10 with fail
        generalize V11.alloc (.cells LZ.toArray 25) = V12 at hS ⊢
        generalize V11.heap.size = g17 at hS ⊢
        clear hst
        have hla := ldPL HLP.out (hS.get 1 rfl)
        have hlb := ldPL HLZ.out (hS.get 8 rfl)
        go_wp2_with fail
        refine (HA4.out _ (HC.out.below hS.bl)).mono ?_
        rintro e V13 ⟨rfl, LB⟩
        have hS := hS.below LB
        clear LB hla hlb
        have hst := stPLn V13 HLY.out HOOY.out
        have hS' : Bx w [(w.heap.size, 23, bV K), (g7, 25, (LP)), (g9, 25, (LA)), (g11, 56, (LP ++ (LA ++ (LF ++ (LG ++ LP))))), (g12, 25, (LQ)), (g13, 25, (LR)), (g14, 25, (LX)), (g15, 25, (LY)), (g17, 25, (LZ)), (V13.heap.size, 25, (LY))] (V13.alloc (.cells LY.toArray 25)) := hS.newAt 9 V13.heap.size rfl 25 LY _ rfl
        clear hS
        have hS := hS'
        clear hS'
        go_upto_region 11 with fail
        generalize V13.alloc (.cells LY.toArray 25) = V14 at hS ⊢
        generalize V13.heap.size = g19 at hS ⊢
        clear hst
        have hl1 := ldPL HLP.out (hS.get 1 rfl)
        have hl2 := ldPL HLQ.out (hS.get 4 rfl)
        have hl3 := ldPL HLR.out (hS.get 5 rfl)
        have hbs := bs3 LP LQ LR HLP.out HLQ.out HLR.out V14
        go_wp2_with fail
        refine (HS3.out _ (HC.out.below hS.bl)).mono ?_
        rintro e V15 ⟨rfl, LB⟩
        have hS := (hS.below (below1 V14 _)).below LB
        clear LB hl1 hl2 hl3 hbs
        have hst := stPLn V15 HLY.out HOOY.out
        have hS' : Bx w [(w.heap.size, 23, bV K), (g7, 25, (LP)), (g9, 25, (LA)), (g11, 56, (LP ++ (LA ++ (LF ++ (LG ++ LP))))), (g12, 25, (LQ)), (g13, 25, (LR)), (g14, 25, (LX)), (g15, 25, (LY)), (g17, 25, (LZ)), (g19, 25, (LY)), (V15.heap.size, 25, (LY))] (V15.alloc (.cells LY.toArray 25)) := hS.newAt 10 V15.heap.size rfl 25 LY _ rfl
        clear hS
        have hS := hS'
        clear hS'
        go_upto_region 12 with fail
        generalize V15.alloc (.cells LY.toArray 25) = V16 at hS ⊢
        generalize V15.heap.size = g21 at hS ⊢
        clear hst
        have hl1 := ldPL HLY.out (hS.get 7 rfl)
        have hl2 := ldPL HLY.out (hS.get 9 rfl)
        have hl3 := ldPL HLY.out (hS.get 10 rfl)
        have heq := HEQ.out
        have U9 := hide hS.bl
        clear hS
        go_wp2
        go_ret
        exact ⟨rfl, U9.out⟩

end Go.Proofs.YtcijjmncilciiaaDoor
