/-
  The document's twice, where it is far.
-/
import Derived.Test.YtnabmdpgibnkaabDoorZCvMuToCrN
import Derived.Deep.DeepCutAuto
namespace Go.Proofs.YtnabmdpgibnkaabDoor
open Go.RowKit Go.IntWalk
attribute [local go_sem ↓] ld_F st_F eq_F ld_J st_J bd_J bd_F

set_option maxRecDepth 100000 in
set_option maxHeartbeats 8000000 in
theorem twice_z (gf : Nat) (x y z : Int) (b_z : Nb z) (hz : z = 0)  (w : World) (hF : FF w gf) :
    Calls Tryd.prog 59 #[.pointer (some ⟨gf, 0, none⟩), .agg (j3 x y z).toArray] w (Ans (.agg (j3 ONE ONE 0).toArray) w) := by
  have HF := hide hF
  have C14 : Hid (∀ W, Calls Tryd.prog 89 #[.agg (fL z).toArray] W (Ans (.bool (decide (z = 0))) W)) := fun W => rzeroN b_z W
  have hS : Bx w [(w.heap.size, 110, (j3 x y z)), (w.heap.size + 1, 110, z24)] ((w.alloc (.cells (j3 x y z).toArray 110)).alloc (.cells #[.int .u64 0, .int .u64 0, .int .u64 0, .int .u64 0, .int .u64 0, .int .u64 0, .int .u64 0, .int .u64 0, .int .u64 0, .int .u64 0, .int .u64 0, .int .u64 0, .int .u64 0, .int .u64 0, .int .u64 0, .int .u64 0, .int .u64 0, .int .u64 0, .int .u64 0, .int .u64 0, .int .u64 0, .int .u64 0, .int .u64 0, .int .u64 0] 110)) := (((Bx.nil w).newAt 0 (w.heap.size) (by simp) 110 (j3 x y z) _ rfl).newAt 1 (w.heap.size + 1) (by simp) 110 z24 _ rfl)
  have o1 := j3_one x y z
  have HZ : Hid (decide (z = 0) = true) := decide_eq_true hz
  clear hz
  clear hF b_z
  go_enter Tryd.func59, Tryd.ntmps59
  have hl := (ldj3 (hS.get 0 rfl)).2.2
  go_wp2_with fail
  refine (C14.out _).mono ?_
  rintro e U901 ⟨rfl, LB⟩
  clear o1 hl
  have hS := hS.below LB
  clear LB
  rw [HZ.out]
  go_wp2
  have hS := hS.drew
  refine wp_region_held_drew (S := Bx w [(w.heap.size, 110, (j3 x y z))]) (by kernel_rfl) (hS.pre 1) (fun _ => ?_)
  generalize U901.drew = U1 at hS ⊢
  have hP : Bx w [(w.heap.size, 110, (j3 x y z))] U1 := hS.pre 1
  refine wpAnyH_take (i := 0) (v := ?_) rfl (by kernel_rfl) (by kernel_rfl) (by kernel_rfl) (fun _ _ _ h => h) (Or.inl ⟨by rfl, ?_⟩) (by assumption) ?_
  rotate_left
  · intro wq hSq
    go_simp
    try with_reducible rfl
  simp only [List.getElem_toArray, List.getElem_cons_zero, Act.put, List.setIfInBounds_toArray, List.set_cons_zero, List.set_cons_succ]
  refine wpAnyH_take (i := 1) (v := ?_) rfl (by kernel_rfl) (by kernel_rfl) (by kernel_rfl) (fun _ _ _ h => h) (Or.inl ⟨by rfl, ?_⟩) (by assumption) ?_
  rotate_left
  · intro wq hSq
    go_simp
    try with_reducible rfl
  simp only [List.getElem_toArray, List.getElem_cons_succ, List.getElem_cons_zero, Act.put, List.setIfInBounds_toArray, List.set_cons_zero, List.set_cons_succ]
  refine wpAnyH_take (i := 2) (v := ?_) rfl (by kernel_rfl) (by kernel_rfl) (by kernel_rfl) (fun _ _ _ h => h) (Or.inl ⟨by rfl, ?_⟩) (by assumption) ?_
  rotate_left
  · intro wq hSq
    go_simp
    try with_reducible rfl
  simp only [List.getElem_toArray, List.getElem_cons_succ, List.getElem_cons_zero, Act.put, List.setIfInBounds_toArray, List.set_cons_zero, List.set_cons_succ]
  refine wpAnyH_take (i := 3) (v := ?_) rfl (by kernel_rfl) (by kernel_rfl) (by kernel_rfl) (fun _ _ _ h => h) (Or.inl ⟨by rfl, ?_⟩) (by assumption) ?_
  rotate_left
  · intro wq hSq
    have hl := (HF.out.at hSq.bl).ld1
    go_simp
    try with_reducible rfl
  simp only [List.getElem_toArray, List.getElem_cons_succ, List.getElem_cons_zero, Act.put, List.setIfInBounds_toArray, List.set_cons_zero, List.set_cons_succ]
  refine wpAnyH_take (i := 4) (v := ?_) rfl (by kernel_rfl) (by kernel_rfl) (by kernel_rfl) (fun _ _ _ h => h) (Or.inl ⟨by rfl, ?_⟩) (by assumption) ?_
  rotate_left
  · intro wq hSq
    go_simp
    try with_reducible rfl
  simp only [List.getElem_toArray, List.getElem_cons_succ, List.getElem_cons_zero, Act.put, List.setIfInBounds_toArray, List.set_cons_zero, List.set_cons_succ]
  refine wpAnyH_take (i := 5) (v := ?_) rfl (by kernel_rfl) (by kernel_rfl) (by kernel_rfl) (fun _ _ _ h => h) (Or.inl ⟨by rfl, ?_⟩) (by assumption) ?_
  rotate_left
  · intro wq hSq
    go_simp
    try with_reducible rfl
  simp only [List.getElem_toArray, List.getElem_cons_succ, List.getElem_cons_zero, Act.put, List.setIfInBounds_toArray, List.set_cons_zero, List.set_cons_succ]
  refine wpAnyH_take (i := 6) (v := ?_) rfl (by kernel_rfl) (by kernel_rfl) (by kernel_rfl) (fun _ _ _ h => h) (Or.inl ⟨by rfl, ?_⟩) (by assumption) ?_
  rotate_left
  · intro wq hSq
    go_simp
    try with_reducible rfl
  simp only [List.getElem_toArray, List.getElem_cons_succ, List.getElem_cons_zero, Act.put, List.setIfInBounds_toArray, List.set_cons_zero, List.set_cons_succ]
  refine wpAnyH_take (i := 7) (v := ?_) rfl (by kernel_rfl) (by kernel_rfl) (by kernel_rfl) (fun _ _ _ h => h) (Or.inl ⟨by rfl, ?_⟩) (by assumption) ?_
  rotate_left
  · intro wq hSq
    have hl := (HF.out.at hSq.bl).ld1
    go_simp
    try with_reducible rfl
  simp only [List.getElem_toArray, List.getElem_cons_succ, List.getElem_cons_zero, Act.put, List.setIfInBounds_toArray, List.set_cons_zero, List.set_cons_succ]
  refine wpAnyH_take (i := 8) (v := ?_) rfl (by kernel_rfl) (by kernel_rfl) (by kernel_rfl) (fun _ _ _ h => h) (Or.inl ⟨by rfl, ?_⟩) (by assumption) ?_
  rotate_left
  · intro wq hSq
    have hl := bdf0 wq
    go_simp
    try with_reducible rfl
  simp only [List.getElem_toArray, List.getElem_cons_succ, List.getElem_cons_zero, Act.put, List.setIfInBounds_toArray, List.set_cons_zero, List.set_cons_succ]
  refine wpAnyH_take (i := 9) (v := ?_) rfl (by kernel_rfl) (by kernel_rfl) (by kernel_rfl) (fun _ _ _ h => h) (Or.inl ⟨by rfl, ?_⟩) (by assumption) ?_
  rotate_left
  · intro wq hSq
    have hl := bdj3 ONE ONE 0 wq
    go_simp
    try with_reducible rfl
  simp only [List.getElem_toArray, List.getElem_cons_succ, List.getElem_cons_zero, Act.put, List.setIfInBounds_toArray, List.set_cons_zero, List.set_cons_succ]
  clear hP
  have hst := stj (hS.get 1 rfl) rfl ONE ONE 0
  refine wpAnyH_ready (rs := [10]) (by kernel_rfl) (by simp) ?_
  refine AllReadyH.cons rfl (fun Kq hKq => ?_) AllReadyH.nil
  go_simp
  have hS' : Bx w [(w.heap.size, 110, (j3 x y z)), (w.heap.size + 1, 110, (j3 ONE ONE 0))] (U1.setCells (w.heap.size + 1) 0 (j3 ONE ONE 0)) := hS.setAt 1 (j3 ONE ONE 0) rfl rfl
  refine hKq.out _ _ (hS'.pre 1) (fun _ => ?_)
  clear hKq Kq hst hS
  have hS := hS'
  clear hS'
  generalize U1.setCells (w.heap.size + 1) 0 (j3 ONE ONE 0) = U2 at hS ⊢
  refine wpAnyH_done (by kernel_rfl) ?_ _
  go_wp2
  refine bodyPost_ret (v := .agg (j3 ONE ONE 0).toArray) ?_ rfl ⟨rfl, hS.bl⟩
  exact res_one (T := 110) (p := 4) (ty := 110) (X := j3 ONE ONE 0) (by kernel_rfl) _ _ rfl Tryd.underlying110 rfl (by kernel_rfl) (hS.get 1 rfl)

set_option maxRecDepth 100000 in
set_option maxHeartbeats 8000000 in
theorem twice_y (gf : Nat) (x y z : Int) (b_y : Nb y) (b_z : Nb z) (hz : z ≠ 0) (hy : y = 0)  (w : World) (hF : FF w gf) :
    Calls Tryd.prog 59 #[.pointer (some ⟨gf, 0, none⟩), .agg (j3 x y z).toArray] w (Ans (.agg (j3 ONE ONE 0).toArray) w) := by
  have HF := hide hF
  have C14 : Hid (∀ W, Calls Tryd.prog 89 #[.agg (fL z).toArray] W (Ans (.bool (decide (z = 0))) W)) := fun W => rzeroN b_z W
  have C18 : Hid (∀ W, Calls Tryd.prog 89 #[.agg (fL y).toArray] W (Ans (.bool (decide (y = 0))) W)) := fun W => rzeroN b_y W
  have hS : Bx w [(w.heap.size, 110, (j3 x y z)), (w.heap.size + 1, 110, z24)] ((w.alloc (.cells (j3 x y z).toArray 110)).alloc (.cells #[.int .u64 0, .int .u64 0, .int .u64 0, .int .u64 0, .int .u64 0, .int .u64 0, .int .u64 0, .int .u64 0, .int .u64 0, .int .u64 0, .int .u64 0, .int .u64 0, .int .u64 0, .int .u64 0, .int .u64 0, .int .u64 0, .int .u64 0, .int .u64 0, .int .u64 0, .int .u64 0, .int .u64 0, .int .u64 0, .int .u64 0, .int .u64 0] 110)) := (((Bx.nil w).newAt 0 (w.heap.size) (by simp) 110 (j3 x y z) _ rfl).newAt 1 (w.heap.size + 1) (by simp) 110 z24 _ rfl)
  have o1 := j3_one x y z
  have HZ : Hid (decide (z = 0) = false) := decide_eq_false hz
  have HY : Hid (decide (y = 0) = true) := decide_eq_true hy
  clear hz hy
  clear hF b_y b_z
  go_enter Tryd.func59, Tryd.ntmps59
  have hl := (ldj3 (hS.get 0 rfl)).2.2
  go_wp2_with fail
  refine (C14.out _).mono ?_
  rintro e U901 ⟨rfl, LB⟩
  clear o1 hl
  have hS := hS.below LB
  clear LB
  rw [HZ.out]
  have hl := (ldj3 (hS.get 0 rfl)).2.1
  go_wp2_with fail
  refine (C18.out _).mono ?_
  rintro e U902 ⟨rfl, LB⟩
  clear hl
  have hS := hS.below LB
  clear LB
  rw [HY.out]
  go_wp2
  have hS := hS.drew
  refine wp_region_held_drew (S := Bx w [(w.heap.size, 110, (j3 x y z))]) (by kernel_rfl) (hS.pre 1) (fun _ => ?_)
  generalize U902.drew = U1 at hS ⊢
  have hP : Bx w [(w.heap.size, 110, (j3 x y z))] U1 := hS.pre 1
  refine wpAnyH_take (i := 0) (v := ?_) rfl (by kernel_rfl) (by kernel_rfl) (by kernel_rfl) (fun _ _ _ h => h) (Or.inl ⟨by rfl, ?_⟩) (by assumption) ?_
  rotate_left
  · intro wq hSq
    go_simp
    try with_reducible rfl
  simp only [List.getElem_toArray, List.getElem_cons_zero, Act.put, List.setIfInBounds_toArray, List.set_cons_zero, List.set_cons_succ]
  refine wpAnyH_take (i := 1) (v := ?_) rfl (by kernel_rfl) (by kernel_rfl) (by kernel_rfl) (fun _ _ _ h => h) (Or.inl ⟨by rfl, ?_⟩) (by assumption) ?_
  rotate_left
  · intro wq hSq
    go_simp
    try with_reducible rfl
  simp only [List.getElem_toArray, List.getElem_cons_succ, List.getElem_cons_zero, Act.put, List.setIfInBounds_toArray, List.set_cons_zero, List.set_cons_succ]
  refine wpAnyH_take (i := 2) (v := ?_) rfl (by kernel_rfl) (by kernel_rfl) (by kernel_rfl) (fun _ _ _ h => h) (Or.inl ⟨by rfl, ?_⟩) (by assumption) ?_
  rotate_left
  · intro wq hSq
    go_simp
    try with_reducible rfl
  simp only [List.getElem_toArray, List.getElem_cons_succ, List.getElem_cons_zero, Act.put, List.setIfInBounds_toArray, List.set_cons_zero, List.set_cons_succ]
  refine wpAnyH_take (i := 3) (v := ?_) rfl (by kernel_rfl) (by kernel_rfl) (by kernel_rfl) (fun _ _ _ h => h) (Or.inl ⟨by rfl, ?_⟩) (by assumption) ?_
  rotate_left
  · intro wq hSq
    have hl := (HF.out.at hSq.bl).ld1
    go_simp
    try with_reducible rfl
  simp only [List.getElem_toArray, List.getElem_cons_succ, List.getElem_cons_zero, Act.put, List.setIfInBounds_toArray, List.set_cons_zero, List.set_cons_succ]
  refine wpAnyH_take (i := 4) (v := ?_) rfl (by kernel_rfl) (by kernel_rfl) (by kernel_rfl) (fun _ _ _ h => h) (Or.inl ⟨by rfl, ?_⟩) (by assumption) ?_
  rotate_left
  · intro wq hSq
    go_simp
    try with_reducible rfl
  simp only [List.getElem_toArray, List.getElem_cons_succ, List.getElem_cons_zero, Act.put, List.setIfInBounds_toArray, List.set_cons_zero, List.set_cons_succ]
  refine wpAnyH_take (i := 5) (v := ?_) rfl (by kernel_rfl) (by kernel_rfl) (by kernel_rfl) (fun _ _ _ h => h) (Or.inl ⟨by rfl, ?_⟩) (by assumption) ?_
  rotate_left
  · intro wq hSq
    go_simp
    try with_reducible rfl
  simp only [List.getElem_toArray, List.getElem_cons_succ, List.getElem_cons_zero, Act.put, List.setIfInBounds_toArray, List.set_cons_zero, List.set_cons_succ]
  refine wpAnyH_take (i := 6) (v := ?_) rfl (by kernel_rfl) (by kernel_rfl) (by kernel_rfl) (fun _ _ _ h => h) (Or.inl ⟨by rfl, ?_⟩) (by assumption) ?_
  rotate_left
  · intro wq hSq
    go_simp
    try with_reducible rfl
  simp only [List.getElem_toArray, List.getElem_cons_succ, List.getElem_cons_zero, Act.put, List.setIfInBounds_toArray, List.set_cons_zero, List.set_cons_succ]
  refine wpAnyH_take (i := 7) (v := ?_) rfl (by kernel_rfl) (by kernel_rfl) (by kernel_rfl) (fun _ _ _ h => h) (Or.inl ⟨by rfl, ?_⟩) (by assumption) ?_
  rotate_left
  · intro wq hSq
    have hl := (HF.out.at hSq.bl).ld1
    go_simp
    try with_reducible rfl
  simp only [List.getElem_toArray, List.getElem_cons_succ, List.getElem_cons_zero, Act.put, List.setIfInBounds_toArray, List.set_cons_zero, List.set_cons_succ]
  refine wpAnyH_take (i := 8) (v := ?_) rfl (by kernel_rfl) (by kernel_rfl) (by kernel_rfl) (fun _ _ _ h => h) (Or.inl ⟨by rfl, ?_⟩) (by assumption) ?_
  rotate_left
  · intro wq hSq
    have hl := bdf0 wq
    go_simp
    try with_reducible rfl
  simp only [List.getElem_toArray, List.getElem_cons_succ, List.getElem_cons_zero, Act.put, List.setIfInBounds_toArray, List.set_cons_zero, List.set_cons_succ]
  refine wpAnyH_take (i := 9) (v := ?_) rfl (by kernel_rfl) (by kernel_rfl) (by kernel_rfl) (fun _ _ _ h => h) (Or.inl ⟨by rfl, ?_⟩) (by assumption) ?_
  rotate_left
  · intro wq hSq
    have hl := bdj3 ONE ONE 0 wq
    go_simp
    try with_reducible rfl
  simp only [List.getElem_toArray, List.getElem_cons_succ, List.getElem_cons_zero, Act.put, List.setIfInBounds_toArray, List.set_cons_zero, List.set_cons_succ]
  clear hP
  have hst := stj (hS.get 1 rfl) rfl ONE ONE 0
  refine wpAnyH_ready (rs := [10]) (by kernel_rfl) (by simp) ?_
  refine AllReadyH.cons rfl (fun Kq hKq => ?_) AllReadyH.nil
  go_simp
  have hS' : Bx w [(w.heap.size, 110, (j3 x y z)), (w.heap.size + 1, 110, (j3 ONE ONE 0))] (U1.setCells (w.heap.size + 1) 0 (j3 ONE ONE 0)) := hS.setAt 1 (j3 ONE ONE 0) rfl rfl
  refine hKq.out _ _ (hS'.pre 1) (fun _ => ?_)
  clear hKq Kq hst hS
  have hS := hS'
  clear hS'
  generalize U1.setCells (w.heap.size + 1) 0 (j3 ONE ONE 0) = U2 at hS ⊢
  refine wpAnyH_done (by kernel_rfl) ?_ _
  go_wp2
  refine bodyPost_ret (v := .agg (j3 ONE ONE 0).toArray) ?_ rfl ⟨rfl, hS.bl⟩
  exact res_one (T := 110) (p := 4) (ty := 110) (X := j3 ONE ONE 0) (by kernel_rfl) _ _ rfl Tryd.underlying110 rfl (by kernel_rfl) (hS.get 1 rfl)

end Go.Proofs.YtnabmdpgibnkaabDoor
