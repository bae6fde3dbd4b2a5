/-
  sign.May, where the curve's order alone is known to lie in its table.
-/
import Derived.Test.YtnabmdpgibnkaabDoorYSgMay
namespace Go.Proofs.YtnabmdpgibnkaabDoor
open Go.RowKit Go.IntWalk

/-- The curve's order lies in its table. -/
def Od (w : World) : Prop := w.rangeAt 2 0 (L4 17562291160714782033 13611842547513532036 18446744073709551615 18446744069414584320)
theorem Od.below {w w' : World} (h : Od w) (hb : Below w.heap.size w w') : Od w' := range_carry h hb

end Go.Proofs.YtnabmdpgibnkaabDoor
namespace Go.Proofs.YtnabmdpgibnkaabDoor
open Go.RowKit Go.IntWalk
attribute [local go_sem ↓] ld_num st_num ld_pln st_pln ld_ops st_ops ld_pnt st_pnt ld_dig st_dig ld_tri st_tri eq_num ne_num eq_pnt ne_pnt bd_pnt ld_F st_F eq_F ld_a32 st_a32 ld_rpt st_rpt
set_option maxRecDepth 100000 in
theorem order_od (w : World) (hC : Od w) : Calls Tryd.prog 22 #[] w fun e w' => e = .returned (.agg (bV (be NN)).toArray) ∧ Below w.heap.size w w' := by
  have HT : Hid (∀ W, Calls Tryd.prog 60 #[.agg #[.int .u64 17562291160714782033, .int .u64 13611842547513532036, .int .u64 18446744073709551615, .int .u64 18446744069414584320]] W fun e w' => e = .returned (.agg (bV (be NN)).toArray) ∧ Below W.heap.size W w') := fun W => toDigest_any _ _ _ _ NN ⟨by decide, by decide⟩ ⟨by decide, by decide⟩ ⟨by decide, by decide⟩ ⟨by decide, by decide⟩ nn_v W
  have hl := be_len NN
  generalize be NN = D at HT hl ⊢
  have K0 := hide (Blk.new (T := 24) w (bV z32) _ _ rfl rfl)
  have hgl : (ldA 117 (.pointer (some ⟨2, 0, none⟩))).run Tryd.prog (w.alloc (.cells (bV z32).toArray 24)) = .ok (.agg #[.int .u64 17562291160714782033, .int .u64 13611842547513532036, .int .u64 18446744073709551615, .int .u64 18446744069414584320]) (w.alloc (.cells (bV z32).toArray 24)) := ldA_range Tryd.underlying117 rfl (by kernel_rfl) (hC.below (below1 w _))
  rw [z32_lit] at hgl
  have HL := hide hl
  clear hl hC
  go_enter Tryd.func22, Tryd.ntmps22
  go_wp2_with fail
  refine (HT.out _).mono ?_
  rintro e w1 ⟨rfl, LB⟩
  have K1 := hide (K0.out.below LB)
  have U1 := hide (below_then (below1 w _) LB)
  have hst := stD HL.out K1.out rfl
  clear LB
  go_wp2
  exact retD (p := 0) (by kernel_rfl) rfl K1.out rfl HL.out U1.out (by omega)

end Go.Proofs.YtnabmdpgibnkaabDoor
namespace Go.Proofs.YtnabmdpgibnkaabDoor
open Go.RowKit Go.IntWalk
attribute [local go_sem ↓] ld_F st_F eq_F ld_a32 st_a32 ld_dig st_dig ne_dgs bd_dgs
set_option maxRecDepth 100000 in
set_option maxHeartbeats 2000000 in
theorem may_od (D : List Int) (hD : D.length = 32) (dD : Dg 256 D) (w : World) (hN : Od w) :
    Calls Tryd.prog 10 #[.agg (bV D).toArray] w (Ans (.bool (mayS D)) w) := by
  have HD := hide hD
  have HN := hide hN
  have o1 : ∀ v ∈ bV D, v.oneCell' = true := ints_one _ _
  have hS : Bx w [(w.heap.size, 24, bV D)] (w.alloc (.cells (bV D).toArray 24)) := (Bx.nil w).newAt 0 (w.heap.size) (by simp) 24 (bV D) _ rfl
  have HO : Hid (∀ W, Od W → Calls Tryd.prog 22 #[] W (Ans (.agg (bV (be NN)).toArray) W)) := fun W hW => order_od W hW
  have hE := be_len NN
  have dE := be_dg NN
  have hEn : dn (be NN) = NN := dn_be nn_bd.1 nn_bd.2
  have hcmp := cmp_dn D (be NN) (by rw [hD, hE]) dD dE
  have hz := zero_dn hD dD
  have h0 := dn_bd dD hD
  have hneq := neD D z32 hD rfl
  have HCM : Hid (∀ W {g1 g2 : Nat}, Blk 24 W g1 (bV D) → Blk 24 W g2 (bV (be NN)) → Calls Tryd.prog 34 #[.slice (some ⟨g1, 0, none⟩) 32 32, .slice (some ⟨g2, 0, none⟩) 32 32] W (Ans (.int .i64 (Lib.compareBytes (Lib.bytesOf D) (Lib.bytesOf (be NN)))) W)) := fun W g1 g2 h1 h2 => by
    refine (bytesCompare_any _ _ _ D _ _ _ (be NN) W (src_dig hD dD h1) (src_dig hE dE h2)).mono ?_
    rintro e w1 ⟨rfl, rfl⟩
    exact ⟨rfl, Below.refl _ _⟩
  have HMS : Hid (mayS D = (!decide (D = z32) && decide (Lib.compareBytes (Lib.bytesOf D) (Lib.bytesOf (be NN)) < 0))) := by
    unfold Hid mayS
    have e1 : decide (Lib.compareBytes (Lib.bytesOf D) (Lib.bytesOf (be NN)) < 0) = decide (dn D < NN) := by
      apply decide_eq_decide.2
      rw [hcmp]
      show val 256 D.reverse < val 256 (be NN).reverse ↔ _
      have e2 : val 256 (be NN).reverse = NN := hEn
      rw [e2]
      rfl
    rw [e1]
    by_cases hd : dn D = 0
    · have := hz.2 hd
      subst this
      simp [dn_z32]
    · have hne : D ≠ z32 := fun e => hd (hz.1 e)
      have h1 : 0 < dn D := by omega
      simp [hne, h1]
  generalize Lib.compareBytes (Lib.bytesOf D) (Lib.bytesOf (be NN)) = c at *
  generalize be NN = E at *
  have HE := hide hE
  clear hD dD hN hE dE hEn hcmp hz h0
  go_enter Tryd.func10, Tryd.ntmps10
  go_wp2_with fail
  refine (HO.out _ (HN.out.below hS.bl)).mono ?_
  rintro e U1 ⟨rfl, LB⟩
  have hS := hS.below LB
  have hst := stDgn U1 HE.out
  have hS' : Bx w [(w.heap.size, 24, bV D), (U1.heap.size, 24, bV E)] (U1.alloc (.cells (bV E).toArray 24)) := hS.newAt 1 U1.heap.size rfl 24 (bV E) _ rfl
  clear hS LB o1
  have hS := hS'
  clear hS'
  go_upto_region 2 with fail
  generalize U1.alloc (.cells (bV E).toArray 24) = U2 at hS ⊢
  generalize U1.heap.size = g3 at hS ⊢
  clear hst
  have HNQ := hide hneq
  clear hneq
  by_cases hd : D = z32
  · have hne : ∀ W : World, (neA 24 (.agg (bV D).toArray) (.agg (bV z32).toArray)).run Tryd.prog W = .ok (.bool false) W := fun W => by rw [HNQ.out W, decide_eq_true hd]; rfl
    have HA : Hid (mayS D = false) := by unfold Hid; rw [HMS.out, decide_eq_true hd]; rfl
    have hbz := bdd0
    generalize bV z32 = LZ at *
    clear hd
    have hS := hS.drew
    refine wp_region_held_drew (S := Bx w [(w.heap.size, 24, bV D), (g3, 24, bV E)]) (by kernel_rfl) (hS.pre 2) (fun _ => ?_)
    generalize U2.drew = U1 at hS ⊢
    have hP : Bx w [(w.heap.size, 24, bV D), (g3, 24, bV E)] U1 := hS.pre 2
    refine wpAnyH_take (i := 0) (v := ?_) rfl (by kernel_rfl) (by kernel_rfl) (by kernel_rfl) (fun _ _ _ h => h) (Or.inl ⟨by rfl, ?_⟩) (by assumption) ?_
    rotate_left
    · intro wq hSq
      have hl := ldDd HD.out (hSq.get 0 rfl)
      go_simp
      try with_reducible rfl
    simp only [List.getElem_toArray, List.getElem_cons_zero, Act.put, List.setIfInBounds_toArray, List.set_cons_zero, List.set_cons_succ]
    refine wpAnyH_take (i := 1) (v := ?_) rfl (by kernel_rfl) (by kernel_rfl) (by kernel_rfl) (fun _ _ _ h => h) (Or.inl ⟨by rfl, ?_⟩) (by assumption) ?_
    rotate_left
    · intro wq hSq
      have hl := hbz wq
      go_simp
      try with_reducible rfl
    simp only [List.getElem_toArray, List.getElem_cons_succ, List.getElem_cons_zero, Act.put, List.setIfInBounds_toArray, List.set_cons_zero, List.set_cons_succ]
    refine wpAnyH_take (i := 2) (v := ?_) rfl (by kernel_rfl) (by kernel_rfl) (by kernel_rfl) (fun _ _ _ h => h) (Or.inl ⟨by rfl, ?_⟩) (by assumption) ?_
    rotate_left
    · intro wq hSq
      have hl := hne wq
      go_simp
      try with_reducible rfl
    simp only [List.getElem_toArray, List.getElem_cons_succ, List.getElem_cons_zero, Act.put, List.setIfInBounds_toArray, List.set_cons_zero, List.set_cons_succ]
    refine wpAnyH_take (i := 3) (v := ?_) rfl (by kernel_rfl) (by kernel_rfl) (by kernel_rfl) (fun _ _ _ h => h) (Or.inl ⟨by rfl, ?_⟩) (by assumption) ?_
    rotate_left
    · intro wq hSq
      go_simp
      try with_reducible rfl
    simp only [List.getElem_toArray, List.getElem_cons_succ, List.getElem_cons_zero, Act.put, List.setIfInBounds_toArray, List.set_cons_zero, List.set_cons_succ]
    refine wpAnyH_take (i := 4) (v := undef) rfl (by kernel_rfl) (by kernel_rfl) (by kernel_rfl) (fun _ _ _ h => h) (Or.inr ⟨by rfl, rfl⟩) (by assumption) ?_
    simp only [List.getElem_toArray, List.getElem_cons_succ, List.getElem_cons_zero, Act.put, List.setIfInBounds_toArray, List.set_cons_zero, List.set_cons_succ]
    refine wpAnyH_take (i := 5) (v := undef) rfl (by kernel_rfl) (by kernel_rfl) (by kernel_rfl) (fun _ _ _ h => h) (Or.inr ⟨by rfl, rfl⟩) (by assumption) ?_
    simp only [List.getElem_toArray, List.getElem_cons_succ, List.getElem_cons_zero, Act.put, List.setIfInBounds_toArray, List.set_cons_zero, List.set_cons_succ]
    refine wpAnyH_take (i := 6) (v := undef) rfl (by kernel_rfl) (by kernel_rfl) (by kernel_rfl) (fun _ _ _ h => h) (Or.inr ⟨by rfl, rfl⟩) (by assumption) ?_
    simp only [List.getElem_toArray, List.getElem_cons_succ, List.getElem_cons_zero, Act.put, List.setIfInBounds_toArray, List.set_cons_zero, List.set_cons_succ]
    refine wpAnyH_take (i := 7) (v := undef) rfl (by kernel_rfl) (by kernel_rfl) (by kernel_rfl) (fun _ _ _ h => h) (Or.inr ⟨by rfl, rfl⟩) (by assumption) ?_
    simp only [List.getElem_toArray, List.getElem_cons_succ, List.getElem_cons_zero, Act.put, List.setIfInBounds_toArray, List.set_cons_zero, List.set_cons_succ]
    refine wpAnyH_take (i := 8) (v := ?_) rfl (by kernel_rfl) (by kernel_rfl) (by kernel_rfl) (fun _ _ _ h => h) (Or.inl ⟨by rfl, ?_⟩) (by assumption) ?_
    rotate_left
    · intro wq hSq
      go_simp
      try with_reducible rfl
    simp only [List.getElem_toArray, List.getElem_cons_succ, List.getElem_cons_zero, Act.put, List.setIfInBounds_toArray, List.set_cons_zero, List.set_cons_succ]
    refine wpAnyH_ready (rs := [9]) (by kernel_rfl) (by simp) ?_
    refine AllReadyH.cons rfl (fun Kq hKq => ?_) AllReadyH.nil
    go_simp
    refine hKq.out _ _ (hS.pre 2) (fun _ => ?_)
    clear hKq Kq
    clear hP
    refine wpAnyH_done (by kernel_rfl) ?_ _
    have U9 := hide hS.bl
    clear hS hne
    go_wp2
    go_ret
    exact ⟨by rw [HA.out]; rfl, U9.out⟩
  · have hne : ∀ W : World, (neA 24 (.agg (bV D).toArray) (.agg (bV z32).toArray)).run Tryd.prog W = .ok (.bool true) W := fun W => by rw [HNQ.out W, decide_eq_false hd]; rfl
    have HA : Hid (mayS D = decide (c < 0)) := by unfold Hid; rw [HMS.out, decide_eq_false hd]; rfl
    have hbz := bdd0
    generalize bV z32 = LZ at *
    clear hd
    have hS := hS.drew
    refine wp_region_held_drew (S := Bx w [(w.heap.size, 24, bV D), (g3, 24, bV E)]) (by kernel_rfl) (hS.pre 2) (fun _ => ?_)
    generalize U2.drew = U1 at hS ⊢
    have hP : Bx w [(w.heap.size, 24, bV D), (g3, 24, bV E)] U1 := hS.pre 2
    refine wpAnyH_take (i := 0) (v := ?_) rfl (by kernel_rfl) (by kernel_rfl) (by kernel_rfl) (fun _ _ _ h => h) (Or.inl ⟨by rfl, ?_⟩) (by assumption) ?_
    rotate_left
    · intro wq hSq
      have hl := ldDd HD.out (hSq.get 0 rfl)
      go_simp
      try with_reducible rfl
    simp only [List.getElem_toArray, List.getElem_cons_zero, Act.put, List.setIfInBounds_toArray, List.set_cons_zero, List.set_cons_succ]
    refine wpAnyH_take (i := 1) (v := ?_) rfl (by kernel_rfl) (by kernel_rfl) (by kernel_rfl) (fun _ _ _ h => h) (Or.inl ⟨by rfl, ?_⟩) (by assumption) ?_
    rotate_left
    · intro wq hSq
      have hl := hbz wq
      go_simp
      try with_reducible rfl
    simp only [List.getElem_toArray, List.getElem_cons_succ, List.getElem_cons_zero, Act.put, List.setIfInBounds_toArray, List.set_cons_zero, List.set_cons_succ]
    refine wpAnyH_take (i := 2) (v := ?_) rfl (by kernel_rfl) (by kernel_rfl) (by kernel_rfl) (fun _ _ _ h => h) (Or.inl ⟨by rfl, ?_⟩) (by assumption) ?_
    rotate_left
    · intro wq hSq
      have hl := hne wq
      go_simp
      try with_reducible rfl
    simp only [List.getElem_toArray, List.getElem_cons_succ, List.getElem_cons_zero, Act.put, List.setIfInBounds_toArray, List.set_cons_zero, List.set_cons_succ]
    refine wpAnyH_take (i := 3) (v := ?_) rfl (by kernel_rfl) (by kernel_rfl) (by kernel_rfl) (fun _ _ _ h => h) (Or.inl ⟨by rfl, ?_⟩) (by assumption) ?_
    rotate_left
    · intro wq hSq
      go_simp
      try with_reducible rfl
    simp only [List.getElem_toArray, List.getElem_cons_succ, List.getElem_cons_zero, Act.put, List.setIfInBounds_toArray, List.set_cons_zero, List.set_cons_succ]
    refine wpAnyH_take (i := 4) (v := ?_) rfl (by kernel_rfl) (by kernel_rfl) (by kernel_rfl) (fun _ _ _ h => h) (Or.inl ⟨by rfl, ?_⟩) (by assumption) ?_
    rotate_left
    · intro wq hSq
      go_simp
      try with_reducible rfl
    simp only [List.getElem_toArray, List.getElem_cons_succ, List.getElem_cons_zero, Act.put, List.setIfInBounds_toArray, List.set_cons_zero, List.set_cons_succ]
    refine wpAnyH_take (i := 5) (v := ?_) rfl (by kernel_rfl) (by kernel_rfl) (by kernel_rfl) (fun _ _ _ h => h) (Or.inl ⟨by rfl, ?_⟩) (by assumption) ?_
    rotate_left
    · intro wq hSq
      go_simp
      try with_reducible rfl
    simp only [List.getElem_toArray, List.getElem_cons_succ, List.getElem_cons_zero, Act.put, List.setIfInBounds_toArray, List.set_cons_zero, List.set_cons_succ]
    clear hP
    refine wpAnyH_ready (rs := [6]) (by kernel_rfl) (by simp) ?_
    refine AllReadyH.cons rfl (fun Kq hKq => ?_) AllReadyH.nil
    go_simp
    refine (HCM.out _ (hS.get 0 rfl) (hS.get 1 rfl)).mono ?_
    rintro e U2 ⟨rfl, LB⟩
    have hS := hS.below LB
    clear LB
    refine hKq.out _ _ (hS.pre 2) (fun _ => ?_)
    clear hKq Kq
    have hP : Bx w [(w.heap.size, 24, bV D), (g3, 24, bV E)] U2 := hS.pre 2
    refine wpAnyH_take (i := 7) (v := ?_) rfl (by kernel_rfl) (by kernel_rfl) (by kernel_rfl) (fun _ _ _ h => h) (Or.inl ⟨by rfl, ?_⟩) (by assumption) ?_
    rotate_left
    · intro wq hSq
      go_simp
      try with_reducible rfl
    simp only [List.getElem_toArray, List.getElem_cons_succ, List.getElem_cons_zero, Act.put, List.setIfInBounds_toArray, List.set_cons_zero, List.set_cons_succ]
    refine wpAnyH_take (i := 8) (v := ?_) rfl (by kernel_rfl) (by kernel_rfl) (by kernel_rfl) (fun _ _ _ h => h) (Or.inl ⟨by rfl, ?_⟩) (by assumption) ?_
    rotate_left
    · intro wq hSq
      go_simp
      try with_reducible rfl
    simp only [List.getElem_toArray, List.getElem_cons_succ, List.getElem_cons_zero, Act.put, List.setIfInBounds_toArray, List.set_cons_zero, List.set_cons_succ]
    refine wpAnyH_ready (rs := [9]) (by kernel_rfl) (by simp) ?_
    refine AllReadyH.cons rfl (fun Kq hKq => ?_) AllReadyH.nil
    go_simp
    refine hKq.out _ _ (hS.pre 2) (fun _ => ?_)
    clear hKq Kq
    clear hP
    refine wpAnyH_done (by kernel_rfl) ?_ _
    have U9 := hide hS.bl
    clear hS hne
    go_wp2
    go_ret
    exact ⟨by rw [HA.out]; rfl, U9.out⟩


end Go.Proofs.YtnabmdpgibnkaabDoor
