/-
  The document's May: whether a number is a key.
  curve's products.
-/
import Derived.Test.YtnabmdpgibnkaaaDoorZSgMay
import Derived.Test.YtnabmdpgibnkaaaDoorZBxMToCvN
import Derived.Deep.DeepCutAuto
namespace Go.Proofs.YtnabmdpgibnkaaaDoor
open Go.RowKit Go.IntWalk
attribute [local go_sem ↓] ld_F st_F eq_F ld_a32 st_a32 ld_dig st_dig ne_dgs bd_dgs

theorem fw_fL' {R : List Int} {x : Int} (h : Fw R x) : fV R = fL x := by
  have : R = cw x := (h.inj (fw_cw h.bd.1 h.bd.2)).2 rfl
  rw [this]
  rfl
theorem rfromA {D : List Int} (hD : D.length = 32) (dD : Dg 256 D) (w : World) : Calls Tryd.prog 17 #[.agg (bV D).toArray] w (Ans (.agg (fL (dn D)).toArray) w) := by
  refine (rfrom_any D dD hD w).mono ?_
  rintro e w1 ⟨R, rfl, hR, LB⟩
  rw [fw_fL' hR]
  exact ⟨rfl, LB⟩
theorem ldA32 {T : TypeId} {w : World} {g : Nat} {K : List Int} (hK : K.length = 32) (h : Blk T w g (bV K)) : (ldA 22 (.pointer (some ⟨g, 0, none⟩))).run Tryd.prog w = .ok (.agg (bV K).toArray) w :=
  ldA_all Tryd.underlying22 rfl (by rw [bV_len, hK]; exact info_a32) h

set_option maxRecDepth 100000 in
set_option maxHeartbeats 2000000 in
theorem rmay_any (D : List Int) (hD : D.length = 32) (dD : Dg 256 D) (w : World) :
    Calls Tryd.prog 6 #[.agg (bV D).toArray] w (Ans (.bool (mayS D)) w) := by
  have HD := hide hD
  have o1 : ∀ v ∈ bV D, v.oneCell' = true := ints_one _ _
  have hS : Bx w [(w.heap.size, 22, bV D)] (w.alloc (.cells (bV D).toArray 22)) := (Bx.nil w).newAt 0 (w.heap.size) (by simp) 22 (bV D) _ rfl
  have HFR : Hid (∀ W, Calls Tryd.prog 17 #[.agg (bV D).toArray] W (Ans (.agg (fL (dn D)).toArray) W)) := fun W => rfromA hD dD W
  have hb := dn_bd dD hD
  have fx := fw_cw hb.1 hb.2
  have HZ : Hid (∀ W, Calls Tryd.prog 18 #[.agg (fL (dn D)).toArray] W (Ans (.bool (decide (dn D = 0))) W)) := fun W => rzero_any _ _ fx W
  have HNW : Hid (∀ W, Calls Tryd.prog 20 #[] W (Ans (.agg (fV nW).toArray) W)) := fun W => rnW_any W
  have HLS : Hid (∀ W, Calls Tryd.prog 19 #[.agg (fL (dn D)).toArray, .agg (fV nW).toArray] W (Ans (.bool (decide (dn D < NN))) W)) := fun W => rless_any _ _ _ _ fx fw_nW W
  have HMS : Hid (mayS D = (!decide (dn D = 0) && decide (dn D < NN))) := by
    unfold Hid mayS
    by_cases hd : dn D = 0
    · simp [hd]
    · have h1 : 0 < dn D := by omega
      simp [hd, h1]
  generalize dn D = x at *
  clear hD dD hb fx
  go_enter Tryd.func6, Tryd.ntmps6
  have hl := ldA32 HD.out (hS.get 0 rfl)
  go_wp2_with fail
  refine (HFR.out _).mono ?_
  rintro e U1 ⟨rfl, LB⟩
  have hS := hS.below LB
  have hst := stfn U1 x
  have hS' : Bx w [(w.heap.size, 22, bV D), (U1.heap.size, 52, fL x)] (U1.alloc (.cells (fL x).toArray 52)) := hS.newAt 1 U1.heap.size rfl 52 (fL x) _ rfl
  clear hS LB o1 hl
  have hS := hS'
  clear hS'
  go_upto_region 2 with fail
  generalize U1.alloc (.cells (fL x).toArray 52) = U2 at hS ⊢
  generalize U1.heap.size = g3 at hS ⊢
  clear hst
  by_cases hd : x = 0
  · have HA : Hid (mayS D = false) := by unfold Hid; rw [HMS.out, decide_eq_true hd]; rfl
    rw [decide_eq_true hd] at HZ
    clear hd
    have hS := hS.drew
    refine wp_region_held_drew (S := Bx w [(w.heap.size, 22, bV D), (g3, 52, fL x)]) (by kernel_rfl) (hS.pre 2) (fun _ => ?_)
    generalize U2.drew = U1 at hS ⊢
    have hP : Bx w [(w.heap.size, 22, bV D), (g3, 52, fL x)] U1 := hS.pre 2
    refine wpAnyH_take (i := 0) (v := ?_) rfl (by kernel_rfl) (by kernel_rfl) (by kernel_rfl) (fun _ _ _ h => h) (Or.inl ⟨by rfl, ?_⟩) (by assumption) ?_
    rotate_left
    · intro wq hSq
      have hl := ldf (hSq.get 1 rfl)
      go_simp
      try with_reducible rfl
    simp only [List.getElem_toArray, List.getElem_cons_zero, Act.put, List.setIfInBounds_toArray, List.set_cons_zero, List.set_cons_succ]
    clear hP
    refine wpAnyH_ready (rs := [1]) (by kernel_rfl) (by simp) ?_
    refine AllReadyH.cons rfl (fun Kq hKq => ?_) AllReadyH.nil
    go_simp
    refine (HZ.out _).mono ?_
    rintro e U2 ⟨rfl, LB⟩
    have hS := hS.below LB
    clear LB
    refine hKq.out _ _ (hS.pre 2) (fun _ => ?_)
    clear hKq Kq
    have hP : Bx w [(w.heap.size, 22, bV D), (g3, 52, fL x)] U2 := hS.pre 2
    refine wpAnyH_take (i := 2) (v := ?_) rfl (by kernel_rfl) (by kernel_rfl) (by kernel_rfl) (fun _ _ _ h => h) (Or.inl ⟨by rfl, ?_⟩) (by assumption) ?_
    rotate_left
    · intro wq hSq
      go_simp
      try with_reducible rfl
    simp only [List.getElem_toArray, List.getElem_cons_succ, List.getElem_cons_zero, Act.put, List.setIfInBounds_toArray, List.set_cons_zero, List.set_cons_succ]
    refine wpAnyH_take (i := 3) (v := ?_) rfl (by kernel_rfl) (by kernel_rfl) (by kernel_rfl) (fun _ _ _ h => h) (Or.inl ⟨by rfl, ?_⟩) (by assumption) ?_
    rotate_left
    · intro wq hSq
      go_simp
      try with_reducible rfl
    simp only [List.getElem_toArray, List.getElem_cons_succ, List.getElem_cons_zero, Act.put, List.setIfInBounds_toArray, List.set_cons_zero, List.set_cons_succ]
    refine wpAnyH_take (i := 4) (v := undef) rfl (by kernel_rfl) (by kernel_rfl) (by kernel_rfl) (fun _ _ _ h => h) (Or.inr ⟨by rfl, rfl⟩) (by assumption) ?_
    simp only [List.getElem_toArray, List.getElem_cons_succ, List.getElem_cons_zero, Act.put, List.setIfInBounds_toArray, List.set_cons_zero, List.set_cons_succ]
    refine wpAnyH_take (i := 5) (v := undef) rfl (by kernel_rfl) (by kernel_rfl) (by kernel_rfl) (fun _ _ _ h => h) (Or.inr ⟨by rfl, rfl⟩) (by assumption) ?_
    simp only [List.getElem_toArray, List.getElem_cons_succ, List.getElem_cons_zero, Act.put, List.setIfInBounds_toArray, List.set_cons_zero, List.set_cons_succ]
    refine wpAnyH_take (i := 6) (v := undef) rfl (by kernel_rfl) (by kernel_rfl) (by kernel_rfl) (fun _ _ _ h => h) (Or.inr ⟨by rfl, rfl⟩) (by assumption) ?_
    simp only [List.getElem_toArray, List.getElem_cons_succ, List.getElem_cons_zero, Act.put, List.setIfInBounds_toArray, List.set_cons_zero, List.set_cons_succ]
    refine wpAnyH_take (i := 7) (v := ?_) rfl (by kernel_rfl) (by kernel_rfl) (by kernel_rfl) (fun _ _ _ h => h) (Or.inl ⟨by rfl, ?_⟩) (by assumption) ?_
    rotate_left
    · intro wq hSq
      go_simp
      try with_reducible rfl
    simp only [List.getElem_toArray, List.getElem_cons_succ, List.getElem_cons_zero, Act.put, List.setIfInBounds_toArray, List.set_cons_zero, List.set_cons_succ]
    refine wpAnyH_ready (rs := [8]) (by kernel_rfl) (by simp) ?_
    refine AllReadyH.cons rfl (fun Kq hKq => ?_) AllReadyH.nil
    go_simp
    refine hKq.out _ _ (hS.pre 2) (fun _ => ?_)
    clear hKq Kq
    clear hP
    refine wpAnyH_done (by kernel_rfl) ?_ _
    have U9 := hide hS.bl
    clear hS
    go_wp2
    go_ret
    exact ⟨by rw [HA.out]; rfl, U9.out⟩
  · have HA : Hid (mayS D = decide (x < NN)) := by unfold Hid; rw [HMS.out, decide_eq_false hd]; rfl
    rw [decide_eq_false hd] at HZ
    clear hd
    generalize decide (x < NN) = bb at *
    have hS := hS.drew
    refine wp_region_held_drew (S := Bx w [(w.heap.size, 22, bV D), (g3, 52, fL x)]) (by kernel_rfl) (hS.pre 2) (fun _ => ?_)
    generalize U2.drew = U1 at hS ⊢
    have hP : Bx w [(w.heap.size, 22, bV D), (g3, 52, fL x)] U1 := hS.pre 2
    refine wpAnyH_take (i := 0) (v := ?_) rfl (by kernel_rfl) (by kernel_rfl) (by kernel_rfl) (fun _ _ _ h => h) (Or.inl ⟨by rfl, ?_⟩) (by assumption) ?_
    rotate_left
    · intro wq hSq
      have hl := ldf (hSq.get 1 rfl)
      go_simp
      try with_reducible rfl
    simp only [List.getElem_toArray, List.getElem_cons_zero, Act.put, List.setIfInBounds_toArray, List.set_cons_zero, List.set_cons_succ]
    clear hP
    refine wpAnyH_ready (rs := [1]) (by kernel_rfl) (by simp) ?_
    refine AllReadyH.cons rfl (fun Kq hKq => ?_) AllReadyH.nil
    go_simp
    refine (HZ.out _).mono ?_
    rintro e U2 ⟨rfl, LB⟩
    have hS := hS.below LB
    clear LB
    refine hKq.out _ _ (hS.pre 2) (fun _ => ?_)
    clear hKq Kq
    have hP : Bx w [(w.heap.size, 22, bV D), (g3, 52, fL x)] U2 := hS.pre 2
    refine wpAnyH_take (i := 2) (v := ?_) rfl (by kernel_rfl) (by kernel_rfl) (by kernel_rfl) (fun _ _ _ h => h) (Or.inl ⟨by rfl, ?_⟩) (by assumption) ?_
    rotate_left
    · intro wq hSq
      go_simp
      try with_reducible rfl
    simp only [List.getElem_toArray, List.getElem_cons_succ, List.getElem_cons_zero, Act.put, List.setIfInBounds_toArray, List.set_cons_zero, List.set_cons_succ]
    refine wpAnyH_take (i := 3) (v := ?_) rfl (by kernel_rfl) (by kernel_rfl) (by kernel_rfl) (fun _ _ _ h => h) (Or.inl ⟨by rfl, ?_⟩) (by assumption) ?_
    rotate_left
    · intro wq hSq
      go_simp
      try with_reducible rfl
    simp only [List.getElem_toArray, List.getElem_cons_succ, List.getElem_cons_zero, Act.put, List.setIfInBounds_toArray, List.set_cons_zero, List.set_cons_succ]
    refine wpAnyH_take (i := 4) (v := ?_) rfl (by kernel_rfl) (by kernel_rfl) (by kernel_rfl) (fun _ _ _ h => h) (Or.inl ⟨by rfl, ?_⟩) (by assumption) ?_
    rotate_left
    · intro wq hSq
      have hl := ldf (hSq.get 1 rfl)
      go_simp
      try with_reducible rfl
    simp only [List.getElem_toArray, List.getElem_cons_succ, List.getElem_cons_zero, Act.put, List.setIfInBounds_toArray, List.set_cons_zero, List.set_cons_succ]
    clear hP
    refine wpAnyH_ready (rs := [5]) (by kernel_rfl) (by simp) ?_
    refine AllReadyH.cons rfl (fun Kq hKq => ?_) AllReadyH.nil
    go_simp
    refine (HNW.out _).mono ?_
    rintro e U3 ⟨rfl, LB⟩
    have hS := hS.below LB
    clear LB
    refine hKq.out _ _ (hS.pre 2) (fun _ => ?_)
    clear hKq Kq
    have hP : Bx w [(w.heap.size, 22, bV D), (g3, 52, fL x)] U3 := hS.pre 2
    clear hP
    refine wpAnyH_ready (rs := [6]) (by kernel_rfl) (by simp) ?_
    refine AllReadyH.cons rfl (fun Kq hKq => ?_) AllReadyH.nil
    go_simp
    refine (HLS.out _).mono ?_
    rintro e U4 ⟨rfl, LB⟩
    have hS := hS.below LB
    clear LB
    refine hKq.out _ _ (hS.pre 2) (fun _ => ?_)
    clear hKq Kq
    have hP : Bx w [(w.heap.size, 22, bV D), (g3, 52, fL x)] U4 := hS.pre 2
    refine wpAnyH_take (i := 7) (v := ?_) rfl (by kernel_rfl) (by kernel_rfl) (by kernel_rfl) (fun _ _ _ h => h) (Or.inl ⟨by rfl, ?_⟩) (by assumption) ?_
    rotate_left
    · intro wq hSq
      go_simp
      try with_reducible rfl
    simp only [List.getElem_toArray, List.getElem_cons_succ, List.getElem_cons_zero, Act.put, List.setIfInBounds_toArray, List.set_cons_zero, List.set_cons_succ]
    refine wpAnyH_ready (rs := [8]) (by kernel_rfl) (by simp) ?_
    refine AllReadyH.cons rfl (fun Kq hKq => ?_) AllReadyH.nil
    go_simp
    refine hKq.out _ _ (hS.pre 2) (fun _ => ?_)
    clear hKq Kq
    clear hP
    refine wpAnyH_done (by kernel_rfl) ?_ _
    have U9 := hide hS.bl
    clear hS
    go_wp2
    go_ret
    exact ⟨by rw [HA.out]; rfl, U9.out⟩

end Go.Proofs.YtnabmdpgibnkaaaDoor

namespace Go.Proofs.YtnabmdpgibnkaaaDoor
open Go.RowKit Go.IntWalk
attribute [local go_sem ↓] ld_num st_num ld_pln st_pln ld_ops st_ops ld_tri st_tri bd_tri

set_option maxRecDepth 100000 in
set_option maxHeartbeats 2000000 in
theorem products_core (x y u v v17 v22 v23 : Int) (b_x : Nb x) (b_y : Nb y) (b_u : Nb u) (b_v : Nb v) (h17 : mm x y = v17) (h22 : mm u v = v22) (h23 : pa v17 v22 = v23) (w : World) :
    Calls Tryd.prog 89 #[.agg doL.toArray, .agg (nL x).toArray, .agg (nL y).toArray, .agg (nL u).toArray, .agg (nL v).toArray] w (Ans (.agg (nL v23).toArray) w) := by
  have b_v17 : Nb v17 := by rw [← h17]; exact mm_bd _ _
  have b_v22 : Nb v22 := by rw [← h22]; exact mm_bd _ _
  have b_v23 : Nb v23 := by rw [← h23]; exact pa_bd _ _
  have C17 : Hid (∀ W, Calls Tryd.prog 65 #[.agg (nL x).toArray, .agg (nL y).toArray] W (Ans (.agg (nL v17).toArray) W)) := fun W => by rw [← h17]; exact timesN b_x b_y W
  have C22 : Hid (∀ W, Calls Tryd.prog 65 #[.agg (nL u).toArray, .agg (nL v).toArray] W (Ans (.agg (nL v22).toArray) W)) := fun W => by rw [← h22]; exact timesN b_u b_v W
  have C23 : Hid (∀ W, Calls Tryd.prog 63 #[.agg (nL v17).toArray, .agg (nL v22).toArray] W (Ans (.agg (nL v23).toArray) W)) := fun W => by rw [← h23]; exact plusN b_v17 b_v22 W
  have o1 := doL_one
  have o_x := nL_one x
  have o_y := nL_one y
  have o_u := nL_one u
  have o_v := nL_one v
  have hS : Bx w [(w.heap.size, 86, doL), (w.heap.size + 1, 89, (nL x)), (w.heap.size + 1 + 1, 89, (nL y)), (w.heap.size + 1 + 1 + 1, 89, (nL u)), (w.heap.size + 1 + 1 + 1 + 1, 89, (nL v)), (w.heap.size + 1 + 1 + 1 + 1 + 1, 89, z4L)] ((((((w.alloc (.cells doL.toArray 86)).alloc (.cells (nL x).toArray 89)).alloc (.cells (nL y).toArray 89)).alloc (.cells (nL u).toArray 89)).alloc (.cells (nL v).toArray 89)).alloc (.cells #[.int .u64 0, .int .u64 0, .int .u64 0, .int .u64 0] 89)) := (((((((Bx.nil w).newAt 0 (w.heap.size) (by simp) 86 doL _ rfl).newAt 1 (w.heap.size + 1) (by simp) 89 (nL x) _ rfl).newAt 2 (w.heap.size + 1 + 1) (by simp) 89 (nL y) _ rfl).newAt 3 (w.heap.size + 1 + 1 + 1) (by simp) 89 (nL u) _ rfl).newAt 4 (w.heap.size + 1 + 1 + 1 + 1) (by simp) 89 (nL v) _ rfl).newAt 5 (w.heap.size + 1 + 1 + 1 + 1 + 1) (by simp) 89 z4L _ rfl)
  clear b_x b_y b_u b_v b_v17 b_v22 b_v23 h17 h22 h23
  go_enter Tryd.func89, Tryd.ntmps89
  go_wp2
  clear o1 o_x o_y o_u o_v
  generalize ((((((w.alloc (.cells doL.toArray 86)).alloc (.cells (nL x).toArray 89)).alloc (.cells (nL y).toArray 89)).alloc (.cells (nL u).toArray 89)).alloc (.cells (nL v).toArray 89)).alloc (.cells #[.int .u64 0, .int .u64 0, .int .u64 0, .int .u64 0] 89)) = U0 at hS ⊢
  have hS := hS.drew
  refine wp_region_held_drew (S := Bx w [(w.heap.size, 86, doL), (w.heap.size + 1, 89, (nL x)), (w.heap.size + 1 + 1, 89, (nL y)), (w.heap.size + 1 + 1 + 1, 89, (nL u)), (w.heap.size + 1 + 1 + 1 + 1, 89, (nL v))]) (by kernel_rfl) (hS.pre 5) (fun _ => ?_)
  generalize U0.drew = U1 at hS ⊢
  have hP : Bx w [(w.heap.size, 86, doL), (w.heap.size + 1, 89, (nL x)), (w.heap.size + 1 + 1, 89, (nL y)), (w.heap.size + 1 + 1 + 1, 89, (nL u)), (w.heap.size + 1 + 1 + 1 + 1, 89, (nL v))] U1 := hS.pre 5
  refine wpAnyH_take (i := 0) (v := ?_) rfl (by kernel_rfl) (by kernel_rfl) (by kernel_rfl) (fun _ _ _ h => h) (Or.inl ⟨by rfl, ?_⟩) (by assumption) ?_
  rotate_left
  · intro wq hSq
    go_simp
    try with_reducible rfl
  simp only [List.getElem_toArray, List.getElem_cons_zero, Act.put, List.setIfInBounds_toArray, List.set_cons_zero, List.set_cons_succ]
  refine wpAnyH_take (i := 1) (v := ?_) rfl (by kernel_rfl) (by kernel_rfl) (by kernel_rfl) (fun _ _ _ h => h) (Or.inl ⟨by rfl, ?_⟩) (by assumption) ?_
  rotate_left
  · intro wq hSq
    have hl := (doC (hSq.get 0 rfl)).1
    go_simp
    try with_reducible rfl
  simp only [List.getElem_toArray, List.getElem_cons_succ, List.getElem_cons_zero, Act.put, List.setIfInBounds_toArray, List.set_cons_zero, List.set_cons_succ]
  refine wpAnyH_take (i := 2) (v := ?_) rfl (by kernel_rfl) (by kernel_rfl) (by kernel_rfl) (fun _ _ _ h => h) (Or.inl ⟨by rfl, ?_⟩) (by assumption) ?_
  rotate_left
  · intro wq hSq
    go_simp
    try with_reducible rfl
  simp only [List.getElem_toArray, List.getElem_cons_succ, List.getElem_cons_zero, Act.put, List.setIfInBounds_toArray, List.set_cons_zero, List.set_cons_succ]
  refine wpAnyH_take (i := 3) (v := ?_) rfl (by kernel_rfl) (by kernel_rfl) (by kernel_rfl) (fun _ _ _ h => h) (Or.inl ⟨by rfl, ?_⟩) (by assumption) ?_
  rotate_left
  · intro wq hSq
    have hl := (doC (hSq.get 0 rfl)).2.2.1
    go_simp
    try with_reducible rfl
  simp only [List.getElem_toArray, List.getElem_cons_succ, List.getElem_cons_zero, Act.put, List.setIfInBounds_toArray, List.set_cons_zero, List.set_cons_succ]
  refine wpAnyH_take (i := 4) (v := ?_) rfl (by kernel_rfl) (by kernel_rfl) (by kernel_rfl) (fun _ _ _ h => h) (Or.inl ⟨by rfl, ?_⟩) (by assumption) ?_
  rotate_left
  · intro wq hSq
    have hl := ldN (hSq.get 1 rfl)
    go_simp
    try with_reducible rfl
  simp only [List.getElem_toArray, List.getElem_cons_succ, List.getElem_cons_zero, Act.put, List.setIfInBounds_toArray, List.set_cons_zero, List.set_cons_succ]
  refine wpAnyH_take (i := 5) (v := ?_) rfl (by kernel_rfl) (by kernel_rfl) (by kernel_rfl) (fun _ _ _ h => h) (Or.inl ⟨by rfl, ?_⟩) (by assumption) ?_
  rotate_left
  · intro wq hSq
    have hl := ldN (hSq.get 2 rfl)
    go_simp
    try with_reducible rfl
  simp only [List.getElem_toArray, List.getElem_cons_succ, List.getElem_cons_zero, Act.put, List.setIfInBounds_toArray, List.set_cons_zero, List.set_cons_succ]
  refine wpAnyH_take (i := 7) (v := ?_) rfl (by kernel_rfl) (by kernel_rfl) (by kernel_rfl) (fun _ _ _ h => h) (Or.inl ⟨by rfl, ?_⟩) (by assumption) ?_
  rotate_left
  · intro wq hSq
    go_simp
    try with_reducible rfl
  simp only [List.getElem_toArray, List.getElem_cons_succ, List.getElem_cons_zero, Act.put, List.setIfInBounds_toArray, List.set_cons_zero, List.set_cons_succ]
  refine wpAnyH_take (i := 8) (v := ?_) rfl (by kernel_rfl) (by kernel_rfl) (by kernel_rfl) (fun _ _ _ h => h) (Or.inl ⟨by rfl, ?_⟩) (by assumption) ?_
  rotate_left
  · intro wq hSq
    have hl := (doC (hSq.get 0 rfl)).2.2.1
    go_simp
    try with_reducible rfl
  simp only [List.getElem_toArray, List.getElem_cons_succ, List.getElem_cons_zero, Act.put, List.setIfInBounds_toArray, List.set_cons_zero, List.set_cons_succ]
  refine wpAnyH_take (i := 9) (v := ?_) rfl (by kernel_rfl) (by kernel_rfl) (by kernel_rfl) (fun _ _ _ h => h) (Or.inl ⟨by rfl, ?_⟩) (by assumption) ?_
  rotate_left
  · intro wq hSq
    have hl := ldN (hSq.get 3 rfl)
    go_simp
    try with_reducible rfl
  simp only [List.getElem_toArray, List.getElem_cons_succ, List.getElem_cons_zero, Act.put, List.setIfInBounds_toArray, List.set_cons_zero, List.set_cons_succ]
  refine wpAnyH_take (i := 10) (v := ?_) rfl (by kernel_rfl) (by kernel_rfl) (by kernel_rfl) (fun _ _ _ h => h) (Or.inl ⟨by rfl, ?_⟩) (by assumption) ?_
  rotate_left
  · intro wq hSq
    have hl := ldN (hSq.get 4 rfl)
    go_simp
    try with_reducible rfl
  simp only [List.getElem_toArray, List.getElem_cons_succ, List.getElem_cons_zero, Act.put, List.setIfInBounds_toArray, List.set_cons_zero, List.set_cons_succ]
  clear hP
  refine wpAnyH_ready (rs := [6]) (by kernel_rfl) (by simp) ?_
  refine AllReadyH.cons rfl (fun Kq hKq => ?_) AllReadyH.nil
  go_simp
  refine (C17.out _).mono ?_
  rintro e U2 ⟨rfl, LB⟩
  have hS := hS.below LB
  clear LB
  refine hKq.out _ _ (hS.pre 5) (fun _ => ?_)
  clear hKq Kq
  refine wpAnyH_ready (rs := [11]) (by kernel_rfl) (by simp) ?_
  refine AllReadyH.cons rfl (fun Kq hKq => ?_) AllReadyH.nil
  go_simp
  refine (C22.out _).mono ?_
  rintro e U3 ⟨rfl, LB⟩
  have hS := hS.below LB
  clear LB
  refine hKq.out _ _ (hS.pre 5) (fun _ => ?_)
  clear hKq Kq
  refine wpAnyH_ready (rs := [12]) (by kernel_rfl) (by simp) ?_
  refine AllReadyH.cons rfl (fun Kq hKq => ?_) AllReadyH.nil
  go_simp
  refine (C23.out _).mono ?_
  rintro e U4 ⟨rfl, LB⟩
  have hS := hS.below LB
  clear LB
  refine hKq.out _ _ (hS.pre 5) (fun _ => ?_)
  clear hKq Kq
  have hst := stN (hS.get 5 rfl) rfl v23
  refine wpAnyH_ready (rs := [13]) (by kernel_rfl) (by simp) ?_
  refine AllReadyH.cons rfl (fun Kq hKq => ?_) AllReadyH.nil
  go_simp
  have hS' : Bx w [(w.heap.size, 86, doL), (w.heap.size + 1, 89, (nL x)), (w.heap.size + 1 + 1, 89, (nL y)), (w.heap.size + 1 + 1 + 1, 89, (nL u)), (w.heap.size + 1 + 1 + 1 + 1, 89, (nL v)), (w.heap.size + 1 + 1 + 1 + 1 + 1, 89, (nL v23))] (U4.setCells (w.heap.size + 1 + 1 + 1 + 1 + 1) 0 (nL v23)) := hS.setAt 5 (nL v23) rfl rfl
  refine hKq.out _ _ (hS'.pre 5) (fun _ => ?_)
  clear hKq Kq hst hS
  have hS := hS'
  clear hS'
  generalize U4.setCells (w.heap.size + 1 + 1 + 1 + 1 + 1) 0 (nL v23) = U5 at hS ⊢
  refine wpAnyH_done (by kernel_rfl) ?_ _
  go_wp2
  refine bodyPost_ret (v := .agg (nL v23).toArray) ?_ rfl ⟨rfl, hS.bl⟩
  exact res_one (T := 89) (p := 10) (ty := 89) (X := nL v23) (by kernel_rfl) _ _ rfl Tryd.underlying89 rfl (by kernel_rfl) (hS.get 5 rfl)

theorem productsN {x y u v : Int} (hx : Nb x) (hy : Nb y) (hu : Nb u) (hv : Nb v) (w : World) : Calls Tryd.prog 89 #[.agg doL.toArray, .agg (nL x).toArray, .agg (nL y).toArray, .agg (nL u).toArray, .agg (nL v).toArray] w (Ans (.agg (nL (pa (mm x y) (mm u v))).toArray) w) :=
  products_core x y u v _ _ _ hx hy hu hv rfl rfl rfl w

end Go.Proofs.YtnabmdpgibnkaaaDoor
