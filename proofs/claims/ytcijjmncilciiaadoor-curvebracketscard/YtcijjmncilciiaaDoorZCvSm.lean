/-
  curve's sum of two triples.
-/
import Derived.Test.YtcijjmncilciiaaDoorZCvPr
import Derived.Deep.DeepCutAuto
namespace Go.Proofs.YtcijjmncilciiaaDoor
open Go.RowKit Go.IntWalk
attribute [local go_sem ↓] ld_num st_num ld_pln st_pln ld_ops st_ops ld_tri st_tri bd_tri

set_option maxRecDepth 100000 in
set_option maxHeartbeats 8000000 in
theorem sum_core (x1 y1 z1 x2 y2 z2 v24 v31 v38 v48 v58 v68 v76 v77 v78 v87 v89 v92 v93 v94 v100 v101 v106 v111 v118 v123 v124 v130 v136 : Int) (b_x1 : Nb x1) (b_y1 : Nb y1) (b_z1 : Nb z1) (b_x2 : Nb x2) (b_y2 : Nb y2) (b_z2 : Nb z2) (h24 : mm x1 x2 = v24) (h31 : mm y1 y2 = v31) (h38 : mm z1 z2 = v38) (h48 : pa (mm x1 y2) (mm y1 x2) = v48) (h58 : pa (mm x1 z2) (mm z1 x2) = v58) (h68 : pa (mm y1 z2) (mm z1 y2) = v68) (h76 : mm BM v38 = v76) (h77 : ps v58 v76 = v77) (h78 : pa (pa v77 v77) v77 = v78) (h87 : mm BM v58 = v87) (h89 : ps v87 v24 = v89) (h92 : pa (pa v38 v38) v38 = v92) (h93 : ps v89 v92 = v93) (h94 : pa (pa v93 v93) v93 = v94) (h100 : ps v24 v38 = v100) (h101 : pa (pa v100 v100) v100 = v101) (h106 : pa v31 v78 = v106) (h111 : ps v31 v78 = v111) (h118 : mm v48 v106 = v118) (h123 : mm v68 v94 = v123) (h124 : ps v118 v123 = v124) (h130 : pa (mm v106 v111) (mm v101 v94) = v130) (h136 : pa (mm v68 v111) (mm v48 v101) = v136) (w : World) :
    Calls Tryd.prog 30 #[.agg (t3 x1 y1 z1).toArray, .agg (t3 x2 y2 z2).toArray, .agg doL.toArray] w (Ans (.agg (t3 v124 v130 v136).toArray) w) := by
  have b_BM := bm_nb
  have b_v24 : Nb v24 := by rw [← h24]; exact mm_bd _ _
  have b_v31 : Nb v31 := by rw [← h31]; exact mm_bd _ _
  have b_v38 : Nb v38 := by rw [← h38]; exact mm_bd _ _
  have b_v48 : Nb v48 := by rw [← h48]; exact pa_bd _ _
  have b_v58 : Nb v58 := by rw [← h58]; exact pa_bd _ _
  have b_v68 : Nb v68 := by rw [← h68]; exact pa_bd _ _
  have b_v76 : Nb v76 := by rw [← h76]; exact mm_bd _ _
  have b_v77 : Nb v77 := by rw [← h77]; exact ps_bd _ _
  have b_v78 : Nb v78 := by rw [← h78]; exact pa_bd _ _
  have b_v87 : Nb v87 := by rw [← h87]; exact mm_bd _ _
  have b_v89 : Nb v89 := by rw [← h89]; exact ps_bd _ _
  have b_v92 : Nb v92 := by rw [← h92]; exact pa_bd _ _
  have b_v93 : Nb v93 := by rw [← h93]; exact ps_bd _ _
  have b_v94 : Nb v94 := by rw [← h94]; exact pa_bd _ _
  have b_v100 : Nb v100 := by rw [← h100]; exact ps_bd _ _
  have b_v101 : Nb v101 := by rw [← h101]; exact pa_bd _ _
  have b_v106 : Nb v106 := by rw [← h106]; exact pa_bd _ _
  have b_v111 : Nb v111 := by rw [← h111]; exact ps_bd _ _
  have b_v118 : Nb v118 := by rw [← h118]; exact mm_bd _ _
  have b_v123 : Nb v123 := by rw [← h123]; exact mm_bd _ _
  have b_v124 : Nb v124 := by rw [← h124]; exact ps_bd _ _
  have b_v130 : Nb v130 := by rw [← h130]; exact pa_bd _ _
  have b_v136 : Nb v136 := by rw [← h136]; exact pa_bd _ _
  have C24 : Hid (∀ W, Calls Tryd.prog 62 #[.agg (nL x1).toArray, .agg (nL x2).toArray] W (Ans (.agg (nL v24).toArray) W)) := fun W => by rw [← h24]; exact timesN b_x1 b_x2 W
  have C31 : Hid (∀ W, Calls Tryd.prog 62 #[.agg (nL y1).toArray, .agg (nL y2).toArray] W (Ans (.agg (nL v31).toArray) W)) := fun W => by rw [← h31]; exact timesN b_y1 b_y2 W
  have C38 : Hid (∀ W, Calls Tryd.prog 62 #[.agg (nL z1).toArray, .agg (nL z2).toArray] W (Ans (.agg (nL v38).toArray) W)) := fun W => by rw [← h38]; exact timesN b_z1 b_z2 W
  have C48 : Hid (∀ W, Calls Tryd.prog 65 #[.agg doL.toArray, .agg (nL x1).toArray, .agg (nL y2).toArray, .agg (nL y1).toArray, .agg (nL x2).toArray] W (Ans (.agg (nL v48).toArray) W)) := fun W => by rw [← h48]; exact productsN b_x1 b_y2 b_y1 b_x2 W
  have C58 : Hid (∀ W, Calls Tryd.prog 65 #[.agg doL.toArray, .agg (nL x1).toArray, .agg (nL z2).toArray, .agg (nL z1).toArray, .agg (nL x2).toArray] W (Ans (.agg (nL v58).toArray) W)) := fun W => by rw [← h58]; exact productsN b_x1 b_z2 b_z1 b_x2 W
  have C68 : Hid (∀ W, Calls Tryd.prog 65 #[.agg doL.toArray, .agg (nL y1).toArray, .agg (nL z2).toArray, .agg (nL z1).toArray, .agg (nL y2).toArray] W (Ans (.agg (nL v68).toArray) W)) := fun W => by rw [← h68]; exact productsN b_y1 b_z2 b_z1 b_y2 W
  have C76 : Hid (∀ W, Calls Tryd.prog 62 #[.agg (nL BM).toArray, .agg (nL v38).toArray] W (Ans (.agg (nL v76).toArray) W)) := fun W => by rw [← h76]; exact timesN b_BM b_v38 W
  have C77 : Hid (∀ W, Calls Tryd.prog 61 #[.agg (nL v58).toArray, .agg (nL v76).toArray] W (Ans (.agg (nL v77).toArray) W)) := fun W => by rw [← h77]; exact minusN b_v58 b_v76 W
  have C78 : Hid (∀ W, Calls Tryd.prog 66 #[.agg doL.toArray, .agg (nL v77).toArray] W (Ans (.agg (nL v78).toArray) W)) := fun W => by rw [← h78]; exact thriceN b_v77 W
  have C87 : Hid (∀ W, Calls Tryd.prog 62 #[.agg (nL BM).toArray, .agg (nL v58).toArray] W (Ans (.agg (nL v87).toArray) W)) := fun W => by rw [← h87]; exact timesN b_BM b_v58 W
  have C89 : Hid (∀ W, Calls Tryd.prog 61 #[.agg (nL v87).toArray, .agg (nL v24).toArray] W (Ans (.agg (nL v89).toArray) W)) := fun W => by rw [← h89]; exact minusN b_v87 b_v24 W
  have C92 : Hid (∀ W, Calls Tryd.prog 66 #[.agg doL.toArray, .agg (nL v38).toArray] W (Ans (.agg (nL v92).toArray) W)) := fun W => by rw [← h92]; exact thriceN b_v38 W
  have C93 : Hid (∀ W, Calls Tryd.prog 61 #[.agg (nL v89).toArray, .agg (nL v92).toArray] W (Ans (.agg (nL v93).toArray) W)) := fun W => by rw [← h93]; exact minusN b_v89 b_v92 W
  have C94 : Hid (∀ W, Calls Tryd.prog 66 #[.agg doL.toArray, .agg (nL v93).toArray] W (Ans (.agg (nL v94).toArray) W)) := fun W => by rw [← h94]; exact thriceN b_v93 W
  have C100 : Hid (∀ W, Calls Tryd.prog 61 #[.agg (nL v24).toArray, .agg (nL v38).toArray] W (Ans (.agg (nL v100).toArray) W)) := fun W => by rw [← h100]; exact minusN b_v24 b_v38 W
  have C101 : Hid (∀ W, Calls Tryd.prog 66 #[.agg doL.toArray, .agg (nL v100).toArray] W (Ans (.agg (nL v101).toArray) W)) := fun W => by rw [← h101]; exact thriceN b_v100 W
  have C106 : Hid (∀ W, Calls Tryd.prog 60 #[.agg (nL v31).toArray, .agg (nL v78).toArray] W (Ans (.agg (nL v106).toArray) W)) := fun W => by rw [← h106]; exact plusN b_v31 b_v78 W
  have C111 : Hid (∀ W, Calls Tryd.prog 61 #[.agg (nL v31).toArray, .agg (nL v78).toArray] W (Ans (.agg (nL v111).toArray) W)) := fun W => by rw [← h111]; exact minusN b_v31 b_v78 W
  have C118 : Hid (∀ W, Calls Tryd.prog 62 #[.agg (nL v48).toArray, .agg (nL v106).toArray] W (Ans (.agg (nL v118).toArray) W)) := fun W => by rw [← h118]; exact timesN b_v48 b_v106 W
  have C123 : Hid (∀ W, Calls Tryd.prog 62 #[.agg (nL v68).toArray, .agg (nL v94).toArray] W (Ans (.agg (nL v123).toArray) W)) := fun W => by rw [← h123]; exact timesN b_v68 b_v94 W
  have C124 : Hid (∀ W, Calls Tryd.prog 61 #[.agg (nL v118).toArray, .agg (nL v123).toArray] W (Ans (.agg (nL v124).toArray) W)) := fun W => by rw [← h124]; exact minusN b_v118 b_v123 W
  have C130 : Hid (∀ W, Calls Tryd.prog 65 #[.agg doL.toArray, .agg (nL v106).toArray, .agg (nL v111).toArray, .agg (nL v101).toArray, .agg (nL v94).toArray] W (Ans (.agg (nL v130).toArray) W)) := fun W => by rw [← h130]; exact productsN b_v106 b_v111 b_v101 b_v94 W
  have C136 : Hid (∀ W, Calls Tryd.prog 65 #[.agg doL.toArray, .agg (nL v68).toArray, .agg (nL v111).toArray, .agg (nL v48).toArray, .agg (nL v101).toArray] W (Ans (.agg (nL v136).toArray) W)) := fun W => by rw [← h136]; exact productsN b_v68 b_v111 b_v48 b_v101 W
  have o1 := doL_one
  have o2 := t3_one x1 y1 z1
  have o3 := t3_one x2 y2 z2
  have hS : Bx w [(w.heap.size, 72, (t3 x1 y1 z1)), (w.heap.size + 1, 72, (t3 x2 y2 z2)), (w.heap.size + 1 + 1, 67, doL), (w.heap.size + 1 + 1 + 1, 72, z12L)] ((((w.alloc (.cells (t3 x1 y1 z1).toArray 72)).alloc (.cells (t3 x2 y2 z2).toArray 72)).alloc (.cells doL.toArray 67)).alloc (.cells #[.int .u64 0, .int .u64 0, .int .u64 0, .int .u64 0, .int .u64 0, .int .u64 0, .int .u64 0, .int .u64 0, .int .u64 0, .int .u64 0, .int .u64 0, .int .u64 0] 72)) := (((((Bx.nil w).newAt 0 (w.heap.size) (by simp) 72 (t3 x1 y1 z1) _ rfl).newAt 1 (w.heap.size + 1) (by simp) 72 (t3 x2 y2 z2) _ rfl).newAt 2 (w.heap.size + 1 + 1) (by simp) 67 doL _ rfl).newAt 3 (w.heap.size + 1 + 1 + 1) (by simp) 72 z12L _ rfl)
  clear b_BM b_x1 b_y1 b_z1 b_x2 b_y2 b_z2 b_v24 b_v31 b_v38 b_v48 b_v58 b_v68 b_v76 b_v77 b_v78 b_v87 b_v89 b_v92 b_v93 b_v94 b_v100 b_v101 b_v106 b_v111 b_v118 b_v123 b_v124 b_v130 b_v136 h24 h31 h38 h48 h58 h68 h76 h77 h78 h87 h89 h92 h93 h94 h100 h101 h106 h111 h118 h123 h124 h130 h136
  go_enter Tryd.func30, Tryd.ntmps30
  go_wp2
  clear o1 o2 o3
  generalize ((((w.alloc (.cells (t3 x1 y1 z1).toArray 72)).alloc (.cells (t3 x2 y2 z2).toArray 72)).alloc (.cells doL.toArray 67)).alloc (.cells #[.int .u64 0, .int .u64 0, .int .u64 0, .int .u64 0, .int .u64 0, .int .u64 0, .int .u64 0, .int .u64 0, .int .u64 0, .int .u64 0, .int .u64 0, .int .u64 0] 72)) = U0 at hS ⊢
  have hS := hS.drew
  refine wp_region_held_drew (S := Bx w [(w.heap.size, 72, (t3 x1 y1 z1)), (w.heap.size + 1, 72, (t3 x2 y2 z2)), (w.heap.size + 1 + 1, 67, doL)]) (by kernel_rfl) (hS.pre 3) (fun _ => ?_)
  generalize U0.drew = U1 at hS ⊢
  have hP : Bx w [(w.heap.size, 72, (t3 x1 y1 z1)), (w.heap.size + 1, 72, (t3 x2 y2 z2)), (w.heap.size + 1 + 1, 67, doL)] U1 := hS.pre 3
  refine wpAnyH_take (i := 0) (v := ?_) rfl (by kernel_rfl) (by kernel_rfl) (by kernel_rfl) (fun _ _ _ h => h) (Or.inl ⟨by rfl, ?_⟩) (by assumption) ?_
  rotate_left
  · intro wq hSq
    go_simp
    try with_reducible rfl
  simp only [List.getElem_toArray, List.getElem_cons_zero, Act.put, List.setIfInBounds_toArray, List.set_cons_zero, List.set_cons_succ]
  refine wpAnyH_take (i := 1) (v := ?_) rfl (by kernel_rfl) (by kernel_rfl) (by kernel_rfl) (fun _ _ _ h => h) (Or.inl ⟨by rfl, ?_⟩) (by assumption) ?_
  rotate_left
  · intro wq hSq
    have hl := (doC (hSq.get 2 rfl)).2.2.1
    go_simp
    try with_reducible rfl
  simp only [List.getElem_toArray, List.getElem_cons_succ, List.getElem_cons_zero, Act.put, List.setIfInBounds_toArray, List.set_cons_zero, List.set_cons_succ]
  refine wpAnyH_take (i := 2) (v := ?_) rfl (by kernel_rfl) (by kernel_rfl) (by kernel_rfl) (fun _ _ _ h => h) (Or.inl ⟨by rfl, ?_⟩) (by assumption) ?_
  rotate_left
  · intro wq hSq
    go_simp
    try with_reducible rfl
  simp only [List.getElem_toArray, List.getElem_cons_succ, List.getElem_cons_zero, Act.put, List.setIfInBounds_toArray, List.set_cons_zero, List.set_cons_succ]
  refine wpAnyH_take (i := 3) (v := ?_) rfl (by kernel_rfl) (by kernel_rfl) (by kernel_rfl) (fun _ _ _ h => h) (Or.inl ⟨by rfl, ?_⟩) (by assumption) ?_
  rotate_left
  · intro wq hSq
    have hl := (ldt3 (hSq.get 0 rfl)).1
    go_simp
    try with_reducible rfl
  simp only [List.getElem_toArray, List.getElem_cons_succ, List.getElem_cons_zero, Act.put, List.setIfInBounds_toArray, List.set_cons_zero, List.set_cons_succ]
  refine wpAnyH_take (i := 4) (v := ?_) rfl (by kernel_rfl) (by kernel_rfl) (by kernel_rfl) (fun _ _ _ h => h) (Or.inl ⟨by rfl, ?_⟩) (by assumption) ?_
  rotate_left
  · intro wq hSq
    go_simp
    try with_reducible rfl
  simp only [List.getElem_toArray, List.getElem_cons_succ, List.getElem_cons_zero, Act.put, List.setIfInBounds_toArray, List.set_cons_zero, List.set_cons_succ]
  refine wpAnyH_take (i := 5) (v := ?_) rfl (by kernel_rfl) (by kernel_rfl) (by kernel_rfl) (fun _ _ _ h => h) (Or.inl ⟨by rfl, ?_⟩) (by assumption) ?_
  rotate_left
  · intro wq hSq
    have hl := (ldt3 (hSq.get 1 rfl)).1
    go_simp
    try with_reducible rfl
  simp only [List.getElem_toArray, List.getElem_cons_succ, List.getElem_cons_zero, Act.put, List.setIfInBounds_toArray, List.set_cons_zero, List.set_cons_succ]
  refine wpAnyH_take (i := 7) (v := ?_) rfl (by kernel_rfl) (by kernel_rfl) (by kernel_rfl) (fun _ _ _ h => h) (Or.inl ⟨by rfl, ?_⟩) (by assumption) ?_
  rotate_left
  · intro wq hSq
    go_simp
    try with_reducible rfl
  simp only [List.getElem_toArray, List.getElem_cons_succ, List.getElem_cons_zero, Act.put, List.setIfInBounds_toArray, List.set_cons_zero, List.set_cons_succ]
  refine wpAnyH_take (i := 8) (v := ?_) rfl (by kernel_rfl) (by kernel_rfl) (by kernel_rfl) (fun _ _ _ h => h) (Or.inl ⟨by rfl, ?_⟩) (by assumption) ?_
  rotate_left
  · intro wq hSq
    have hl := (doC (hSq.get 2 rfl)).2.2.1
    go_simp
    try with_reducible rfl
  simp only [List.getElem_toArray, List.getElem_cons_succ, List.getElem_cons_zero, Act.put, List.setIfInBounds_toArray, List.set_cons_zero, List.set_cons_succ]
  refine wpAnyH_take (i := 9) (v := ?_) rfl (by kernel_rfl) (by kernel_rfl) (by kernel_rfl) (fun _ _ _ h => h) (Or.inl ⟨by rfl, ?_⟩) (by assumption) ?_
  rotate_left
  · intro wq hSq
    go_simp
    try with_reducible rfl
  simp only [List.getElem_toArray, List.getElem_cons_succ, List.getElem_cons_zero, Act.put, List.setIfInBounds_toArray, List.set_cons_zero, List.set_cons_succ]
  refine wpAnyH_take (i := 10) (v := ?_) rfl (by kernel_rfl) (by kernel_rfl) (by kernel_rfl) (fun _ _ _ h => h) (Or.inl ⟨by rfl, ?_⟩) (by assumption) ?_
  rotate_left
  · intro wq hSq
    have hl := (ldt3 (hSq.get 0 rfl)).2.1
    go_simp
    try with_reducible rfl
  simp only [List.getElem_toArray, List.getElem_cons_succ, List.getElem_cons_zero, Act.put, List.setIfInBounds_toArray, List.set_cons_zero, List.set_cons_succ]
  refine wpAnyH_take (i := 11) (v := ?_) rfl (by kernel_rfl) (by kernel_rfl) (by kernel_rfl) (fun _ _ _ h => h) (Or.inl ⟨by rfl, ?_⟩) (by assumption) ?_
  rotate_left
  · intro wq hSq
    go_simp
    try with_reducible rfl
  simp only [List.getElem_toArray, List.getElem_cons_succ, List.getElem_cons_zero, Act.put, List.setIfInBounds_toArray, List.set_cons_zero, List.set_cons_succ]
  refine wpAnyH_take (i := 12) (v := ?_) rfl (by kernel_rfl) (by kernel_rfl) (by kernel_rfl) (fun _ _ _ h => h) (Or.inl ⟨by rfl, ?_⟩) (by assumption) ?_
  rotate_left
  · intro wq hSq
    have hl := (ldt3 (hSq.get 1 rfl)).2.1
    go_simp
    try with_reducible rfl
  simp only [List.getElem_toArray, List.getElem_cons_succ, List.getElem_cons_zero, Act.put, List.setIfInBounds_toArray, List.set_cons_zero, List.set_cons_succ]
  refine wpAnyH_take (i := 14) (v := ?_) rfl (by kernel_rfl) (by kernel_rfl) (by kernel_rfl) (fun _ _ _ h => h) (Or.inl ⟨by rfl, ?_⟩) (by assumption) ?_
  rotate_left
  · intro wq hSq
    go_simp
    try with_reducible rfl
  simp only [List.getElem_toArray, List.getElem_cons_succ, List.getElem_cons_zero, Act.put, List.setIfInBounds_toArray, List.set_cons_zero, List.set_cons_succ]
  refine wpAnyH_take (i := 15) (v := ?_) rfl (by kernel_rfl) (by kernel_rfl) (by kernel_rfl) (fun _ _ _ h => h) (Or.inl ⟨by rfl, ?_⟩) (by assumption) ?_
  rotate_left
  · intro wq hSq
    have hl := (doC (hSq.get 2 rfl)).2.2.1
    go_simp
    try with_reducible rfl
  simp only [List.getElem_toArray, List.getElem_cons_succ, List.getElem_cons_zero, Act.put, List.setIfInBounds_toArray, List.set_cons_zero, List.set_cons_succ]
  refine wpAnyH_take (i := 16) (v := ?_) rfl (by kernel_rfl) (by kernel_rfl) (by kernel_rfl) (fun _ _ _ h => h) (Or.inl ⟨by rfl, ?_⟩) (by assumption) ?_
  rotate_left
  · intro wq hSq
    go_simp
    try with_reducible rfl
  simp only [List.getElem_toArray, List.getElem_cons_succ, List.getElem_cons_zero, Act.put, List.setIfInBounds_toArray, List.set_cons_zero, List.set_cons_succ]
  refine wpAnyH_take (i := 17) (v := ?_) rfl (by kernel_rfl) (by kernel_rfl) (by kernel_rfl) (fun _ _ _ h => h) (Or.inl ⟨by rfl, ?_⟩) (by assumption) ?_
  rotate_left
  · intro wq hSq
    have hl := (ldt3 (hSq.get 0 rfl)).2.2
    go_simp
    try with_reducible rfl
  simp only [List.getElem_toArray, List.getElem_cons_succ, List.getElem_cons_zero, Act.put, List.setIfInBounds_toArray, List.set_cons_zero, List.set_cons_succ]
  refine wpAnyH_take (i := 18) (v := ?_) rfl (by kernel_rfl) (by kernel_rfl) (by kernel_rfl) (fun _ _ _ h => h) (Or.inl ⟨by rfl, ?_⟩) (by assumption) ?_
  rotate_left
  · intro wq hSq
    go_simp
    try with_reducible rfl
  simp only [List.getElem_toArray, List.getElem_cons_succ, List.getElem_cons_zero, Act.put, List.setIfInBounds_toArray, List.set_cons_zero, List.set_cons_succ]
  refine wpAnyH_take (i := 19) (v := ?_) rfl (by kernel_rfl) (by kernel_rfl) (by kernel_rfl) (fun _ _ _ h => h) (Or.inl ⟨by rfl, ?_⟩) (by assumption) ?_
  rotate_left
  · intro wq hSq
    have hl := (ldt3 (hSq.get 1 rfl)).2.2
    go_simp
    try with_reducible rfl
  simp only [List.getElem_toArray, List.getElem_cons_succ, List.getElem_cons_zero, Act.put, List.setIfInBounds_toArray, List.set_cons_zero, List.set_cons_succ]
  clear hP
  refine' mk_rest3 (K := fun W g7 g8 g9 => Bx w [(w.heap.size, 72, (t3 x1 y1 z1)), (w.heap.size + 1, 72, (t3 x2 y2 z2)), (w.heap.size + 1 + 1, 67, doL), (g7, 70, z4L), (g8, 70, z4L), (g9, 70, z4L), (w.heap.size + 1 + 1 + 1, 72, z12L)] W) (fun R3abc => ?_) ?_
  rotate_left
  · skip
    refine' mk_rest2 (K := fun W g8 g9 => Bx w [(w.heap.size, 72, (t3 x1 y1 z1)), (w.heap.size + 1, 72, (t3 x2 y2 z2)), (w.heap.size + 1 + 1, 67, doL), (g8, 70, z4L), (g9, 70, z4L), (w.heap.size + 1 + 1 + 1, 72, z12L)] W) (fun R3bc => ?_) ?_
    rotate_left
    · skip
      refine' mk_rest2 (K := fun W g7 g9 => Bx w [(w.heap.size, 72, (t3 x1 y1 z1)), (w.heap.size + 1, 72, (t3 x2 y2 z2)), (w.heap.size + 1 + 1, 67, doL), (g7, 70, z4L), (g9, 70, z4L), (w.heap.size + 1 + 1 + 1, 72, z12L)] W) (fun R3ac => ?_) ?_
      rotate_left
      · skip
        refine' mk_rest2 (K := fun W g7 g8 => Bx w [(w.heap.size, 72, (t3 x1 y1 z1)), (w.heap.size + 1, 72, (t3 x2 y2 z2)), (w.heap.size + 1 + 1, 67, doL), (g7, 70, z4L), (g8, 70, z4L), (w.heap.size + 1 + 1 + 1, 72, z12L)] W) (fun R3ab => ?_) ?_
        rotate_left
        · skip
          refine' mk_rest3 (K := fun W g7 g8 g9 => Bx w [(w.heap.size, 72, (t3 x1 y1 z1)), (w.heap.size + 1, 72, (t3 x2 y2 z2)), (w.heap.size + 1 + 1, 67, doL), (g7, 70, z4L), (g8, 70, z4L), (g9, 70, z4L), (w.heap.size + 1 + 1 + 1, 72, z12L)] W) (fun R2abc => ?_) ?_
          rotate_left
          · skip
            refine' mk_restN (K := fun W g9 => Bx w [(w.heap.size, 72, (t3 x1 y1 z1)), (w.heap.size + 1, 72, (t3 x2 y2 z2)), (w.heap.size + 1 + 1, 67, doL), (g9, 70, z4L), (w.heap.size + 1 + 1 + 1, 72, z12L)] W) (fun R3c => ?_) ?_
            rotate_left
            · skip
              refine' mk_restN (K := fun W g8 => Bx w [(w.heap.size, 72, (t3 x1 y1 z1)), (w.heap.size + 1, 72, (t3 x2 y2 z2)), (w.heap.size + 1 + 1, 67, doL), (g8, 70, z4L), (w.heap.size + 1 + 1 + 1, 72, z12L)] W) (fun R3b => ?_) ?_
              rotate_left
              · skip
                refine' mk_restN (K := fun W g7 => Bx w [(w.heap.size, 72, (t3 x1 y1 z1)), (w.heap.size + 1, 72, (t3 x2 y2 z2)), (w.heap.size + 1 + 1, 67, doL), (g7, 70, z4L), (w.heap.size + 1 + 1 + 1, 72, z12L)] W) (fun R3a => ?_) ?_
                rotate_left
                · skip
                  refine' mk_rest2 (K := fun W g8 g9 => Bx w [(w.heap.size, 72, (t3 x1 y1 z1)), (w.heap.size + 1, 72, (t3 x2 y2 z2)), (w.heap.size + 1 + 1, 67, doL), (g8, 70, z4L), (g9, 70, z4L), (w.heap.size + 1 + 1 + 1, 72, z12L)] W) (fun R2bc => ?_) ?_
                  rotate_left
                  · skip
                    refine' mk_rest2 (K := fun W g7 g9 => Bx w [(w.heap.size, 72, (t3 x1 y1 z1)), (w.heap.size + 1, 72, (t3 x2 y2 z2)), (w.heap.size + 1 + 1, 67, doL), (g7, 70, z4L), (g9, 70, z4L), (w.heap.size + 1 + 1 + 1, 72, z12L)] W) (fun R2ac => ?_) ?_
                    rotate_left
                    · skip
                      refine' mk_rest2 (K := fun W g7 g8 => Bx w [(w.heap.size, 72, (t3 x1 y1 z1)), (w.heap.size + 1, 72, (t3 x2 y2 z2)), (w.heap.size + 1 + 1, 67, doL), (g7, 70, z4L), (g8, 70, z4L), (w.heap.size + 1 + 1 + 1, 72, z12L)] W) (fun R2ab => ?_) ?_
                      rotate_left
                      · skip
                        refine' mk_rest3 (K := fun W g7 g8 g9 => Bx w [(w.heap.size, 72, (t3 x1 y1 z1)), (w.heap.size + 1, 72, (t3 x2 y2 z2)), (w.heap.size + 1 + 1, 67, doL), (g7, 70, z4L), (g8, 70, z4L), (g9, 70, z4L), (w.heap.size + 1 + 1 + 1, 72, z12L)] W) (fun R1abc => ?_) ?_
                        rotate_left
                        · skip
                          refine' mk_restW (K := fun W => Bx w [(w.heap.size, 72, (t3 x1 y1 z1)), (w.heap.size + 1, 72, (t3 x2 y2 z2)), (w.heap.size + 1 + 1, 67, doL), (w.heap.size + 1 + 1 + 1, 72, z12L)] W) (fun R3 => ?_) ?_
                          rotate_left
                          · skip
                            refine' mk_restN (K := fun W g9 => Bx w [(w.heap.size, 72, (t3 x1 y1 z1)), (w.heap.size + 1, 72, (t3 x2 y2 z2)), (w.heap.size + 1 + 1, 67, doL), (g9, 70, z4L), (w.heap.size + 1 + 1 + 1, 72, z12L)] W) (fun R2c => ?_) ?_
                            rotate_left
                            · skip
                              refine' mk_restN (K := fun W g8 => Bx w [(w.heap.size, 72, (t3 x1 y1 z1)), (w.heap.size + 1, 72, (t3 x2 y2 z2)), (w.heap.size + 1 + 1, 67, doL), (g8, 70, z4L), (w.heap.size + 1 + 1 + 1, 72, z12L)] W) (fun R2b => ?_) ?_
                              rotate_left
                              · skip
                                refine' mk_restN (K := fun W g7 => Bx w [(w.heap.size, 72, (t3 x1 y1 z1)), (w.heap.size + 1, 72, (t3 x2 y2 z2)), (w.heap.size + 1 + 1, 67, doL), (g7, 70, z4L), (w.heap.size + 1 + 1 + 1, 72, z12L)] W) (fun R2a => ?_) ?_
                                rotate_left
                                · skip
                                  refine' mk_rest2 (K := fun W g8 g9 => Bx w [(w.heap.size, 72, (t3 x1 y1 z1)), (w.heap.size + 1, 72, (t3 x2 y2 z2)), (w.heap.size + 1 + 1, 67, doL), (g8, 70, z4L), (g9, 70, z4L), (w.heap.size + 1 + 1 + 1, 72, z12L)] W) (fun R1bc => ?_) ?_
                                  rotate_left
                                  · skip
                                    refine' mk_rest2 (K := fun W g7 g9 => Bx w [(w.heap.size, 72, (t3 x1 y1 z1)), (w.heap.size + 1, 72, (t3 x2 y2 z2)), (w.heap.size + 1 + 1, 67, doL), (g7, 70, z4L), (g9, 70, z4L), (w.heap.size + 1 + 1 + 1, 72, z12L)] W) (fun R1ac => ?_) ?_
                                    rotate_left
                                    · skip
                                      refine' mk_rest2 (K := fun W g7 g8 => Bx w [(w.heap.size, 72, (t3 x1 y1 z1)), (w.heap.size + 1, 72, (t3 x2 y2 z2)), (w.heap.size + 1 + 1, 67, doL), (g7, 70, z4L), (g8, 70, z4L), (w.heap.size + 1 + 1 + 1, 72, z12L)] W) (fun R1ab => ?_) ?_
                                      rotate_left
                                      · skip
                                        refine' mk_rest3 (K := fun W g7 g8 g9 => Bx w [(w.heap.size, 72, (t3 x1 y1 z1)), (w.heap.size + 1, 72, (t3 x2 y2 z2)), (w.heap.size + 1 + 1, 67, doL), (g7, 70, z4L), (g8, 70, z4L), (g9, 70, z4L), (w.heap.size + 1 + 1 + 1, 72, z12L)] W) (fun R0abc => ?_) ?_
                                        rotate_left
                                        · skip
                                          refine' mk_restW (K := fun W => Bx w [(w.heap.size, 72, (t3 x1 y1 z1)), (w.heap.size + 1, 72, (t3 x2 y2 z2)), (w.heap.size + 1 + 1, 67, doL), (w.heap.size + 1 + 1 + 1, 72, z12L)] W) (fun R2 => ?_) ?_
                                          rotate_left
                                          · skip
                                            refine' mk_restN (K := fun W g9 => Bx w [(w.heap.size, 72, (t3 x1 y1 z1)), (w.heap.size + 1, 72, (t3 x2 y2 z2)), (w.heap.size + 1 + 1, 67, doL), (g9, 70, z4L), (w.heap.size + 1 + 1 + 1, 72, z12L)] W) (fun R1c => ?_) ?_
                                            rotate_left
                                            · skip
                                              refine' mk_restN (K := fun W g8 => Bx w [(w.heap.size, 72, (t3 x1 y1 z1)), (w.heap.size + 1, 72, (t3 x2 y2 z2)), (w.heap.size + 1 + 1, 67, doL), (g8, 70, z4L), (w.heap.size + 1 + 1 + 1, 72, z12L)] W) (fun R1b => ?_) ?_
                                              rotate_left
                                              · skip
                                                refine' mk_restN (K := fun W g7 => Bx w [(w.heap.size, 72, (t3 x1 y1 z1)), (w.heap.size + 1, 72, (t3 x2 y2 z2)), (w.heap.size + 1 + 1, 67, doL), (g7, 70, z4L), (w.heap.size + 1 + 1 + 1, 72, z12L)] W) (fun R1a => ?_) ?_
                                                rotate_left
                                                · skip
                                                  refine' mk_rest2 (K := fun W g8 g9 => Bx w [(w.heap.size, 72, (t3 x1 y1 z1)), (w.heap.size + 1, 72, (t3 x2 y2 z2)), (w.heap.size + 1 + 1, 67, doL), (g8, 70, z4L), (g9, 70, z4L), (w.heap.size + 1 + 1 + 1, 72, z12L)] W) (fun R0bc => ?_) ?_
                                                  rotate_left
                                                  · skip
                                                    refine' mk_rest2 (K := fun W g7 g9 => Bx w [(w.heap.size, 72, (t3 x1 y1 z1)), (w.heap.size + 1, 72, (t3 x2 y2 z2)), (w.heap.size + 1 + 1, 67, doL), (g7, 70, z4L), (g9, 70, z4L), (w.heap.size + 1 + 1 + 1, 72, z12L)] W) (fun R0ac => ?_) ?_
                                                    rotate_left
                                                    · skip
                                                      refine' mk_rest2 (K := fun W g7 g8 => Bx w [(w.heap.size, 72, (t3 x1 y1 z1)), (w.heap.size + 1, 72, (t3 x2 y2 z2)), (w.heap.size + 1 + 1, 67, doL), (g7, 70, z4L), (g8, 70, z4L), (w.heap.size + 1 + 1 + 1, 72, z12L)] W) (fun R0ab => ?_) ?_
                                                      rotate_left
                                                      · skip
                                                        refine' mk_restW (K := fun W => Bx w [(w.heap.size, 72, (t3 x1 y1 z1)), (w.heap.size + 1, 72, (t3 x2 y2 z2)), (w.heap.size + 1 + 1, 67, doL), (w.heap.size + 1 + 1 + 1, 72, z12L)] W) (fun R1 => ?_) ?_
                                                        rotate_left
                                                        · skip
                                                          refine' mk_restN (K := fun W g9 => Bx w [(w.heap.size, 72, (t3 x1 y1 z1)), (w.heap.size + 1, 72, (t3 x2 y2 z2)), (w.heap.size + 1 + 1, 67, doL), (g9, 70, z4L), (w.heap.size + 1 + 1 + 1, 72, z12L)] W) (fun R0c => ?_) ?_
                                                          rotate_left
                                                          · skip
                                                            refine' mk_restN (K := fun W g8 => Bx w [(w.heap.size, 72, (t3 x1 y1 z1)), (w.heap.size + 1, 72, (t3 x2 y2 z2)), (w.heap.size + 1 + 1, 67, doL), (g8, 70, z4L), (w.heap.size + 1 + 1 + 1, 72, z12L)] W) (fun R0b => ?_) ?_
                                                            rotate_left
                                                            · skip
                                                              refine' mk_restN (K := fun W g7 => Bx w [(w.heap.size, 72, (t3 x1 y1 z1)), (w.heap.size + 1, 72, (t3 x2 y2 z2)), (w.heap.size + 1 + 1, 67, doL), (g7, 70, z4L), (w.heap.size + 1 + 1 + 1, 72, z12L)] W) (fun R0a => ?_) ?_
                                                              rotate_left
                                                              · skip
                                                                refine wpAnyH_ready (rs := [6, 21, 22, 23]) (by kernel_rfl) (by simp) ?_
                                                                refine (AllReadyH.cons rfl (fun Kq hKq => ?_) (AllReadyH.cons rfl (fun Kq hKq => ?_) (AllReadyH.cons rfl (fun Kq hKq => ?_) (AllReadyH.cons rfl (fun Kq hKq => ?_) AllReadyH.nil))))
                                                                · go_simp
                                                                  refine (C24.out _).mono ?_
                                                                  rintro e U2 ⟨rfl, LB⟩
                                                                  have hS := hS.below LB
                                                                  clear LB
                                                                  refine hKq.out _ _ (hS.pre 3) (fun _ => ?_)
                                                                  clear hKq Kq
                                                                  exact R1.out U2 hS
                                                                · go_simp
                                                                  have hS' := hS.newAt 3 U1.heap.size rfl 70 z4L #[.int .u64 0, .int .u64 0, .int .u64 0, .int .u64 0] rfl
                                                                  refine hKq.out _ _ (hS'.pre 3) (fun _ => ?_)
                                                                  clear hKq Kq
                                                                  generalize U1.alloc (.cells #[.int .u64 0, .int .u64 0, .int .u64 0, .int .u64 0] 70) = U3 at hS' ⊢
                                                                  generalize U1.heap.size = g7 at hS' ⊢
                                                                  exact R0a.out U3 g7 hS'
                                                                · go_simp
                                                                  have hS' := hS.newAt 3 U1.heap.size rfl 70 z4L #[.int .u64 0, .int .u64 0, .int .u64 0, .int .u64 0] rfl
                                                                  refine hKq.out _ _ (hS'.pre 3) (fun _ => ?_)
                                                                  clear hKq Kq
                                                                  generalize U1.alloc (.cells #[.int .u64 0, .int .u64 0, .int .u64 0, .int .u64 0] 70) = U4 at hS' ⊢
                                                                  generalize U1.heap.size = g8 at hS' ⊢
                                                                  exact R0b.out U4 g8 hS'
                                                                · go_simp
                                                                  have hS' := hS.newAt 3 U1.heap.size rfl 70 z4L #[.int .u64 0, .int .u64 0, .int .u64 0, .int .u64 0] rfl
                                                                  refine hKq.out _ _ (hS'.pre 3) (fun _ => ?_)
                                                                  clear hKq Kq
                                                                  generalize U1.alloc (.cells #[.int .u64 0, .int .u64 0, .int .u64 0, .int .u64 0] 70) = U5 at hS' ⊢
                                                                  generalize U1.heap.size = g9 at hS' ⊢
                                                                  exact R0c.out U5 g9 hS'
                                                              · rintro U6 g7 hS
                                                                refine wpAnyH_ready (rs := [6, 22, 23]) (by kernel_rfl) (by simp) ?_
                                                                refine (AllReadyH.cons rfl (fun Kq hKq => ?_) (AllReadyH.cons rfl (fun Kq hKq => ?_) (AllReadyH.cons rfl (fun Kq hKq => ?_) AllReadyH.nil)))
                                                                · go_simp
                                                                  refine (C24.out _).mono ?_
                                                                  rintro e U7 ⟨rfl, LB⟩
                                                                  have hS := hS.below LB
                                                                  clear LB
                                                                  refine hKq.out _ _ (hS.pre 3) (fun _ => ?_)
                                                                  clear hKq Kq
                                                                  exact R1a.out U7 g7 hS
                                                                · go_simp
                                                                  have hS' := hS.newAt 4 U6.heap.size rfl 70 z4L #[.int .u64 0, .int .u64 0, .int .u64 0, .int .u64 0] rfl
                                                                  refine hKq.out _ _ (hS'.pre 3) (fun _ => ?_)
                                                                  clear hKq Kq
                                                                  generalize U6.alloc (.cells #[.int .u64 0, .int .u64 0, .int .u64 0, .int .u64 0] 70) = U8 at hS' ⊢
                                                                  generalize U6.heap.size = g8 at hS' ⊢
                                                                  exact R0ab.out U8 g7 g8 hS'
                                                                · go_simp
                                                                  have hS' := hS.newAt 4 U6.heap.size rfl 70 z4L #[.int .u64 0, .int .u64 0, .int .u64 0, .int .u64 0] rfl
                                                                  refine hKq.out _ _ (hS'.pre 3) (fun _ => ?_)
                                                                  clear hKq Kq
                                                                  generalize U6.alloc (.cells #[.int .u64 0, .int .u64 0, .int .u64 0, .int .u64 0] 70) = U9 at hS' ⊢
                                                                  generalize U6.heap.size = g9 at hS' ⊢
                                                                  exact R0ac.out U9 g7 g9 hS'
                                                            · rintro U10 g8 hS
                                                              refine wpAnyH_ready (rs := [6, 21, 23]) (by kernel_rfl) (by simp) ?_
                                                              refine (AllReadyH.cons rfl (fun Kq hKq => ?_) (AllReadyH.cons rfl (fun Kq hKq => ?_) (AllReadyH.cons rfl (fun Kq hKq => ?_) AllReadyH.nil)))
                                                              · go_simp
                                                                refine (C24.out _).mono ?_
                                                                rintro e U11 ⟨rfl, LB⟩
                                                                have hS := hS.below LB
                                                                clear LB
                                                                refine hKq.out _ _ (hS.pre 3) (fun _ => ?_)
                                                                clear hKq Kq
                                                                exact R1b.out U11 g8 hS
                                                              · go_simp
                                                                have hS' := hS.newAt 3 U10.heap.size rfl 70 z4L #[.int .u64 0, .int .u64 0, .int .u64 0, .int .u64 0] rfl
                                                                refine hKq.out _ _ (hS'.pre 3) (fun _ => ?_)
                                                                clear hKq Kq
                                                                generalize U10.alloc (.cells #[.int .u64 0, .int .u64 0, .int .u64 0, .int .u64 0] 70) = U12 at hS' ⊢
                                                                generalize U10.heap.size = g7 at hS' ⊢
                                                                exact R0ab.out U12 g7 g8 hS'
                                                              · go_simp
                                                                have hS' := hS.newAt 4 U10.heap.size rfl 70 z4L #[.int .u64 0, .int .u64 0, .int .u64 0, .int .u64 0] rfl
                                                                refine hKq.out _ _ (hS'.pre 3) (fun _ => ?_)
                                                                clear hKq Kq
                                                                generalize U10.alloc (.cells #[.int .u64 0, .int .u64 0, .int .u64 0, .int .u64 0] 70) = U13 at hS' ⊢
                                                                generalize U10.heap.size = g9 at hS' ⊢
                                                                exact R0bc.out U13 g8 g9 hS'
                                                          · rintro U14 g9 hS
                                                            refine wpAnyH_ready (rs := [6, 21, 22]) (by kernel_rfl) (by simp) ?_
                                                            refine (AllReadyH.cons rfl (fun Kq hKq => ?_) (AllReadyH.cons rfl (fun Kq hKq => ?_) (AllReadyH.cons rfl (fun Kq hKq => ?_) AllReadyH.nil)))
                                                            · go_simp
                                                              refine (C24.out _).mono ?_
                                                              rintro e U15 ⟨rfl, LB⟩
                                                              have hS := hS.below LB
                                                              clear LB
                                                              refine hKq.out _ _ (hS.pre 3) (fun _ => ?_)
                                                              clear hKq Kq
                                                              exact R1c.out U15 g9 hS
                                                            · go_simp
                                                              have hS' := hS.newAt 3 U14.heap.size rfl 70 z4L #[.int .u64 0, .int .u64 0, .int .u64 0, .int .u64 0] rfl
                                                              refine hKq.out _ _ (hS'.pre 3) (fun _ => ?_)
                                                              clear hKq Kq
                                                              generalize U14.alloc (.cells #[.int .u64 0, .int .u64 0, .int .u64 0, .int .u64 0] 70) = U16 at hS' ⊢
                                                              generalize U14.heap.size = g7 at hS' ⊢
                                                              exact R0ac.out U16 g7 g9 hS'
                                                            · go_simp
                                                              have hS' := hS.newAt 3 U14.heap.size rfl 70 z4L #[.int .u64 0, .int .u64 0, .int .u64 0, .int .u64 0] rfl
                                                              refine hKq.out _ _ (hS'.pre 3) (fun _ => ?_)
                                                              clear hKq Kq
                                                              generalize U14.alloc (.cells #[.int .u64 0, .int .u64 0, .int .u64 0, .int .u64 0] 70) = U17 at hS' ⊢
                                                              generalize U14.heap.size = g8 at hS' ⊢
                                                              exact R0bc.out U17 g8 g9 hS'
                                                        · rintro U18 hS
                                                          refine wpAnyH_ready (rs := [13, 21, 22, 23]) (by kernel_rfl) (by simp) ?_
                                                          refine (AllReadyH.cons rfl (fun Kq hKq => ?_) (AllReadyH.cons rfl (fun Kq hKq => ?_) (AllReadyH.cons rfl (fun Kq hKq => ?_) (AllReadyH.cons rfl (fun Kq hKq => ?_) AllReadyH.nil))))
                                                          · go_simp
                                                            refine (C31.out _).mono ?_
                                                            rintro e U19 ⟨rfl, LB⟩
                                                            have hS := hS.below LB
                                                            clear LB
                                                            refine hKq.out _ _ (hS.pre 3) (fun _ => ?_)
                                                            clear hKq Kq
                                                            exact R2.out U19 hS
                                                          · go_simp
                                                            have hS' := hS.newAt 3 U18.heap.size rfl 70 z4L #[.int .u64 0, .int .u64 0, .int .u64 0, .int .u64 0] rfl
                                                            refine hKq.out _ _ (hS'.pre 3) (fun _ => ?_)
                                                            clear hKq Kq
                                                            generalize U18.alloc (.cells #[.int .u64 0, .int .u64 0, .int .u64 0, .int .u64 0] 70) = U20 at hS' ⊢
                                                            generalize U18.heap.size = g7 at hS' ⊢
                                                            exact R1a.out U20 g7 hS'
                                                          · go_simp
                                                            have hS' := hS.newAt 3 U18.heap.size rfl 70 z4L #[.int .u64 0, .int .u64 0, .int .u64 0, .int .u64 0] rfl
                                                            refine hKq.out _ _ (hS'.pre 3) (fun _ => ?_)
                                                            clear hKq Kq
                                                            generalize U18.alloc (.cells #[.int .u64 0, .int .u64 0, .int .u64 0, .int .u64 0] 70) = U21 at hS' ⊢
                                                            generalize U18.heap.size = g8 at hS' ⊢
                                                            exact R1b.out U21 g8 hS'
                                                          · go_simp
                                                            have hS' := hS.newAt 3 U18.heap.size rfl 70 z4L #[.int .u64 0, .int .u64 0, .int .u64 0, .int .u64 0] rfl
                                                            refine hKq.out _ _ (hS'.pre 3) (fun _ => ?_)
                                                            clear hKq Kq
                                                            generalize U18.alloc (.cells #[.int .u64 0, .int .u64 0, .int .u64 0, .int .u64 0] 70) = U22 at hS' ⊢
                                                            generalize U18.heap.size = g9 at hS' ⊢
                                                            exact R1c.out U22 g9 hS'
                                                      · rintro U23 g7 g8 hS
                                                        refine wpAnyH_ready (rs := [6, 23]) (by kernel_rfl) (by simp) ?_
                                                        refine (AllReadyH.cons rfl (fun Kq hKq => ?_) (AllReadyH.cons rfl (fun Kq hKq => ?_) AllReadyH.nil))
                                                        · go_simp
                                                          refine (C24.out _).mono ?_
                                                          rintro e U24 ⟨rfl, LB⟩
                                                          have hS := hS.below LB
                                                          clear LB
                                                          refine hKq.out _ _ (hS.pre 3) (fun _ => ?_)
                                                          clear hKq Kq
                                                          exact R1ab.out U24 g7 g8 hS
                                                        · go_simp
                                                          have hS' := hS.newAt 5 U23.heap.size rfl 70 z4L #[.int .u64 0, .int .u64 0, .int .u64 0, .int .u64 0] rfl
                                                          refine hKq.out _ _ (hS'.pre 3) (fun _ => ?_)
                                                          clear hKq Kq
                                                          generalize U23.alloc (.cells #[.int .u64 0, .int .u64 0, .int .u64 0, .int .u64 0] 70) = U25 at hS' ⊢
                                                          generalize U23.heap.size = g9 at hS' ⊢
                                                          exact R0abc.out U25 g7 g8 g9 hS'
                                                    · rintro U26 g7 g9 hS
                                                      refine wpAnyH_ready (rs := [6, 22]) (by kernel_rfl) (by simp) ?_
                                                      refine (AllReadyH.cons rfl (fun Kq hKq => ?_) (AllReadyH.cons rfl (fun Kq hKq => ?_) AllReadyH.nil))
                                                      · go_simp
                                                        refine (C24.out _).mono ?_
                                                        rintro e U27 ⟨rfl, LB⟩
                                                        have hS := hS.below LB
                                                        clear LB
                                                        refine hKq.out _ _ (hS.pre 3) (fun _ => ?_)
                                                        clear hKq Kq
                                                        exact R1ac.out U27 g7 g9 hS
                                                      · go_simp
                                                        have hS' := hS.newAt 4 U26.heap.size rfl 70 z4L #[.int .u64 0, .int .u64 0, .int .u64 0, .int .u64 0] rfl
                                                        refine hKq.out _ _ (hS'.pre 3) (fun _ => ?_)
                                                        clear hKq Kq
                                                        generalize U26.alloc (.cells #[.int .u64 0, .int .u64 0, .int .u64 0, .int .u64 0] 70) = U28 at hS' ⊢
                                                        generalize U26.heap.size = g8 at hS' ⊢
                                                        exact R0abc.out U28 g7 g8 g9 hS'
                                                  · rintro U29 g8 g9 hS
                                                    refine wpAnyH_ready (rs := [6, 21]) (by kernel_rfl) (by simp) ?_
                                                    refine (AllReadyH.cons rfl (fun Kq hKq => ?_) (AllReadyH.cons rfl (fun Kq hKq => ?_) AllReadyH.nil))
                                                    · go_simp
                                                      refine (C24.out _).mono ?_
                                                      rintro e U30 ⟨rfl, LB⟩
                                                      have hS := hS.below LB
                                                      clear LB
                                                      refine hKq.out _ _ (hS.pre 3) (fun _ => ?_)
                                                      clear hKq Kq
                                                      exact R1bc.out U30 g8 g9 hS
                                                    · go_simp
                                                      have hS' := hS.newAt 3 U29.heap.size rfl 70 z4L #[.int .u64 0, .int .u64 0, .int .u64 0, .int .u64 0] rfl
                                                      refine hKq.out _ _ (hS'.pre 3) (fun _ => ?_)
                                                      clear hKq Kq
                                                      generalize U29.alloc (.cells #[.int .u64 0, .int .u64 0, .int .u64 0, .int .u64 0] 70) = U31 at hS' ⊢
                                                      generalize U29.heap.size = g7 at hS' ⊢
                                                      exact R0abc.out U31 g7 g8 g9 hS'
                                                · rintro U32 g7 hS
                                                  refine wpAnyH_ready (rs := [13, 22, 23]) (by kernel_rfl) (by simp) ?_
                                                  refine (AllReadyH.cons rfl (fun Kq hKq => ?_) (AllReadyH.cons rfl (fun Kq hKq => ?_) (AllReadyH.cons rfl (fun Kq hKq => ?_) AllReadyH.nil)))
                                                  · go_simp
                                                    refine (C31.out _).mono ?_
                                                    rintro e U33 ⟨rfl, LB⟩
                                                    have hS := hS.below LB
                                                    clear LB
                                                    refine hKq.out _ _ (hS.pre 3) (fun _ => ?_)
                                                    clear hKq Kq
                                                    exact R2a.out U33 g7 hS
                                                  · go_simp
                                                    have hS' := hS.newAt 4 U32.heap.size rfl 70 z4L #[.int .u64 0, .int .u64 0, .int .u64 0, .int .u64 0] rfl
                                                    refine hKq.out _ _ (hS'.pre 3) (fun _ => ?_)
                                                    clear hKq Kq
                                                    generalize U32.alloc (.cells #[.int .u64 0, .int .u64 0, .int .u64 0, .int .u64 0] 70) = U34 at hS' ⊢
                                                    generalize U32.heap.size = g8 at hS' ⊢
                                                    exact R1ab.out U34 g7 g8 hS'
                                                  · go_simp
                                                    have hS' := hS.newAt 4 U32.heap.size rfl 70 z4L #[.int .u64 0, .int .u64 0, .int .u64 0, .int .u64 0] rfl
                                                    refine hKq.out _ _ (hS'.pre 3) (fun _ => ?_)
                                                    clear hKq Kq
                                                    generalize U32.alloc (.cells #[.int .u64 0, .int .u64 0, .int .u64 0, .int .u64 0] 70) = U35 at hS' ⊢
                                                    generalize U32.heap.size = g9 at hS' ⊢
                                                    exact R1ac.out U35 g7 g9 hS'
                                              · rintro U36 g8 hS
                                                refine wpAnyH_ready (rs := [13, 21, 23]) (by kernel_rfl) (by simp) ?_
                                                refine (AllReadyH.cons rfl (fun Kq hKq => ?_) (AllReadyH.cons rfl (fun Kq hKq => ?_) (AllReadyH.cons rfl (fun Kq hKq => ?_) AllReadyH.nil)))
                                                · go_simp
                                                  refine (C31.out _).mono ?_
                                                  rintro e U37 ⟨rfl, LB⟩
                                                  have hS := hS.below LB
                                                  clear LB
                                                  refine hKq.out _ _ (hS.pre 3) (fun _ => ?_)
                                                  clear hKq Kq
                                                  exact R2b.out U37 g8 hS
                                                · go_simp
                                                  have hS' := hS.newAt 3 U36.heap.size rfl 70 z4L #[.int .u64 0, .int .u64 0, .int .u64 0, .int .u64 0] rfl
                                                  refine hKq.out _ _ (hS'.pre 3) (fun _ => ?_)
                                                  clear hKq Kq
                                                  generalize U36.alloc (.cells #[.int .u64 0, .int .u64 0, .int .u64 0, .int .u64 0] 70) = U38 at hS' ⊢
                                                  generalize U36.heap.size = g7 at hS' ⊢
                                                  exact R1ab.out U38 g7 g8 hS'
                                                · go_simp
                                                  have hS' := hS.newAt 4 U36.heap.size rfl 70 z4L #[.int .u64 0, .int .u64 0, .int .u64 0, .int .u64 0] rfl
                                                  refine hKq.out _ _ (hS'.pre 3) (fun _ => ?_)
                                                  clear hKq Kq
                                                  generalize U36.alloc (.cells #[.int .u64 0, .int .u64 0, .int .u64 0, .int .u64 0] 70) = U39 at hS' ⊢
                                                  generalize U36.heap.size = g9 at hS' ⊢
                                                  exact R1bc.out U39 g8 g9 hS'
                                            · rintro U40 g9 hS
                                              refine wpAnyH_ready (rs := [13, 21, 22]) (by kernel_rfl) (by simp) ?_
                                              refine (AllReadyH.cons rfl (fun Kq hKq => ?_) (AllReadyH.cons rfl (fun Kq hKq => ?_) (AllReadyH.cons rfl (fun Kq hKq => ?_) AllReadyH.nil)))
                                              · go_simp
                                                refine (C31.out _).mono ?_
                                                rintro e U41 ⟨rfl, LB⟩
                                                have hS := hS.below LB
                                                clear LB
                                                refine hKq.out _ _ (hS.pre 3) (fun _ => ?_)
                                                clear hKq Kq
                                                exact R2c.out U41 g9 hS
                                              · go_simp
                                                have hS' := hS.newAt 3 U40.heap.size rfl 70 z4L #[.int .u64 0, .int .u64 0, .int .u64 0, .int .u64 0] rfl
                                                refine hKq.out _ _ (hS'.pre 3) (fun _ => ?_)
                                                clear hKq Kq
                                                generalize U40.alloc (.cells #[.int .u64 0, .int .u64 0, .int .u64 0, .int .u64 0] 70) = U42 at hS' ⊢
                                                generalize U40.heap.size = g7 at hS' ⊢
                                                exact R1ac.out U42 g7 g9 hS'
                                              · go_simp
                                                have hS' := hS.newAt 3 U40.heap.size rfl 70 z4L #[.int .u64 0, .int .u64 0, .int .u64 0, .int .u64 0] rfl
                                                refine hKq.out _ _ (hS'.pre 3) (fun _ => ?_)
                                                clear hKq Kq
                                                generalize U40.alloc (.cells #[.int .u64 0, .int .u64 0, .int .u64 0, .int .u64 0] 70) = U43 at hS' ⊢
                                                generalize U40.heap.size = g8 at hS' ⊢
                                                exact R1bc.out U43 g8 g9 hS'
                                          · rintro U44 hS
                                            refine wpAnyH_ready (rs := [20, 21, 22, 23]) (by kernel_rfl) (by simp) ?_
                                            refine (AllReadyH.cons rfl (fun Kq hKq => ?_) (AllReadyH.cons rfl (fun Kq hKq => ?_) (AllReadyH.cons rfl (fun Kq hKq => ?_) (AllReadyH.cons rfl (fun Kq hKq => ?_) AllReadyH.nil))))
                                            · go_simp
                                              refine (C38.out _).mono ?_
                                              rintro e U45 ⟨rfl, LB⟩
                                              have hS := hS.below LB
                                              clear LB
                                              refine hKq.out _ _ (hS.pre 3) (fun _ => ?_)
                                              clear hKq Kq
                                              exact R3.out U45 hS
                                            · go_simp
                                              have hS' := hS.newAt 3 U44.heap.size rfl 70 z4L #[.int .u64 0, .int .u64 0, .int .u64 0, .int .u64 0] rfl
                                              refine hKq.out _ _ (hS'.pre 3) (fun _ => ?_)
                                              clear hKq Kq
                                              generalize U44.alloc (.cells #[.int .u64 0, .int .u64 0, .int .u64 0, .int .u64 0] 70) = U46 at hS' ⊢
                                              generalize U44.heap.size = g7 at hS' ⊢
                                              exact R2a.out U46 g7 hS'
                                            · go_simp
                                              have hS' := hS.newAt 3 U44.heap.size rfl 70 z4L #[.int .u64 0, .int .u64 0, .int .u64 0, .int .u64 0] rfl
                                              refine hKq.out _ _ (hS'.pre 3) (fun _ => ?_)
                                              clear hKq Kq
                                              generalize U44.alloc (.cells #[.int .u64 0, .int .u64 0, .int .u64 0, .int .u64 0] 70) = U47 at hS' ⊢
                                              generalize U44.heap.size = g8 at hS' ⊢
                                              exact R2b.out U47 g8 hS'
                                            · go_simp
                                              have hS' := hS.newAt 3 U44.heap.size rfl 70 z4L #[.int .u64 0, .int .u64 0, .int .u64 0, .int .u64 0] rfl
                                              refine hKq.out _ _ (hS'.pre 3) (fun _ => ?_)
                                              clear hKq Kq
                                              generalize U44.alloc (.cells #[.int .u64 0, .int .u64 0, .int .u64 0, .int .u64 0] 70) = U48 at hS' ⊢
                                              generalize U44.heap.size = g9 at hS' ⊢
                                              exact R2c.out U48 g9 hS'
                                        · rintro U49 g7 g8 g9 hS
                                          refine wpAnyH_ready (rs := [6]) (by kernel_rfl) (by simp) ?_
                                          refine (AllReadyH.cons rfl (fun Kq hKq => ?_) AllReadyH.nil)
                                          · go_simp
                                            refine (C24.out _).mono ?_
                                            rintro e U50 ⟨rfl, LB⟩
                                            have hS := hS.below LB
                                            clear LB
                                            refine hKq.out _ _ (hS.pre 3) (fun _ => ?_)
                                            clear hKq Kq
                                            exact R1abc.out U50 g7 g8 g9 hS
                                      · rintro U51 g7 g8 hS
                                        refine wpAnyH_ready (rs := [13, 23]) (by kernel_rfl) (by simp) ?_
                                        refine (AllReadyH.cons rfl (fun Kq hKq => ?_) (AllReadyH.cons rfl (fun Kq hKq => ?_) AllReadyH.nil))
                                        · go_simp
                                          refine (C31.out _).mono ?_
                                          rintro e U52 ⟨rfl, LB⟩
                                          have hS := hS.below LB
                                          clear LB
                                          refine hKq.out _ _ (hS.pre 3) (fun _ => ?_)
                                          clear hKq Kq
                                          exact R2ab.out U52 g7 g8 hS
                                        · go_simp
                                          have hS' := hS.newAt 5 U51.heap.size rfl 70 z4L #[.int .u64 0, .int .u64 0, .int .u64 0, .int .u64 0] rfl
                                          refine hKq.out _ _ (hS'.pre 3) (fun _ => ?_)
                                          clear hKq Kq
                                          generalize U51.alloc (.cells #[.int .u64 0, .int .u64 0, .int .u64 0, .int .u64 0] 70) = U53 at hS' ⊢
                                          generalize U51.heap.size = g9 at hS' ⊢
                                          exact R1abc.out U53 g7 g8 g9 hS'
                                    · rintro U54 g7 g9 hS
                                      refine wpAnyH_ready (rs := [13, 22]) (by kernel_rfl) (by simp) ?_
                                      refine (AllReadyH.cons rfl (fun Kq hKq => ?_) (AllReadyH.cons rfl (fun Kq hKq => ?_) AllReadyH.nil))
                                      · go_simp
                                        refine (C31.out _).mono ?_
                                        rintro e U55 ⟨rfl, LB⟩
                                        have hS := hS.below LB
                                        clear LB
                                        refine hKq.out _ _ (hS.pre 3) (fun _ => ?_)
                                        clear hKq Kq
                                        exact R2ac.out U55 g7 g9 hS
                                      · go_simp
                                        have hS' := hS.newAt 4 U54.heap.size rfl 70 z4L #[.int .u64 0, .int .u64 0, .int .u64 0, .int .u64 0] rfl
                                        refine hKq.out _ _ (hS'.pre 3) (fun _ => ?_)
                                        clear hKq Kq
                                        generalize U54.alloc (.cells #[.int .u64 0, .int .u64 0, .int .u64 0, .int .u64 0] 70) = U56 at hS' ⊢
                                        generalize U54.heap.size = g8 at hS' ⊢
                                        exact R1abc.out U56 g7 g8 g9 hS'
                                  · rintro U57 g8 g9 hS
                                    refine wpAnyH_ready (rs := [13, 21]) (by kernel_rfl) (by simp) ?_
                                    refine (AllReadyH.cons rfl (fun Kq hKq => ?_) (AllReadyH.cons rfl (fun Kq hKq => ?_) AllReadyH.nil))
                                    · go_simp
                                      refine (C31.out _).mono ?_
                                      rintro e U58 ⟨rfl, LB⟩
                                      have hS := hS.below LB
                                      clear LB
                                      refine hKq.out _ _ (hS.pre 3) (fun _ => ?_)
                                      clear hKq Kq
                                      exact R2bc.out U58 g8 g9 hS
                                    · go_simp
                                      have hS' := hS.newAt 3 U57.heap.size rfl 70 z4L #[.int .u64 0, .int .u64 0, .int .u64 0, .int .u64 0] rfl
                                      refine hKq.out _ _ (hS'.pre 3) (fun _ => ?_)
                                      clear hKq Kq
                                      generalize U57.alloc (.cells #[.int .u64 0, .int .u64 0, .int .u64 0, .int .u64 0] 70) = U59 at hS' ⊢
                                      generalize U57.heap.size = g7 at hS' ⊢
                                      exact R1abc.out U59 g7 g8 g9 hS'
                                · rintro U60 g7 hS
                                  refine wpAnyH_ready (rs := [20, 22, 23]) (by kernel_rfl) (by simp) ?_
                                  refine (AllReadyH.cons rfl (fun Kq hKq => ?_) (AllReadyH.cons rfl (fun Kq hKq => ?_) (AllReadyH.cons rfl (fun Kq hKq => ?_) AllReadyH.nil)))
                                  · go_simp
                                    refine (C38.out _).mono ?_
                                    rintro e U61 ⟨rfl, LB⟩
                                    have hS := hS.below LB
                                    clear LB
                                    refine hKq.out _ _ (hS.pre 3) (fun _ => ?_)
                                    clear hKq Kq
                                    exact R3a.out U61 g7 hS
                                  · go_simp
                                    have hS' := hS.newAt 4 U60.heap.size rfl 70 z4L #[.int .u64 0, .int .u64 0, .int .u64 0, .int .u64 0] rfl
                                    refine hKq.out _ _ (hS'.pre 3) (fun _ => ?_)
                                    clear hKq Kq
                                    generalize U60.alloc (.cells #[.int .u64 0, .int .u64 0, .int .u64 0, .int .u64 0] 70) = U62 at hS' ⊢
                                    generalize U60.heap.size = g8 at hS' ⊢
                                    exact R2ab.out U62 g7 g8 hS'
                                  · go_simp
                                    have hS' := hS.newAt 4 U60.heap.size rfl 70 z4L #[.int .u64 0, .int .u64 0, .int .u64 0, .int .u64 0] rfl
                                    refine hKq.out _ _ (hS'.pre 3) (fun _ => ?_)
                                    clear hKq Kq
                                    generalize U60.alloc (.cells #[.int .u64 0, .int .u64 0, .int .u64 0, .int .u64 0] 70) = U63 at hS' ⊢
                                    generalize U60.heap.size = g9 at hS' ⊢
                                    exact R2ac.out U63 g7 g9 hS'
                              · rintro U64 g8 hS
                                refine wpAnyH_ready (rs := [20, 21, 23]) (by kernel_rfl) (by simp) ?_
                                refine (AllReadyH.cons rfl (fun Kq hKq => ?_) (AllReadyH.cons rfl (fun Kq hKq => ?_) (AllReadyH.cons rfl (fun Kq hKq => ?_) AllReadyH.nil)))
                                · go_simp
                                  refine (C38.out _).mono ?_
                                  rintro e U65 ⟨rfl, LB⟩
                                  have hS := hS.below LB
                                  clear LB
                                  refine hKq.out _ _ (hS.pre 3) (fun _ => ?_)
                                  clear hKq Kq
                                  exact R3b.out U65 g8 hS
                                · go_simp
                                  have hS' := hS.newAt 3 U64.heap.size rfl 70 z4L #[.int .u64 0, .int .u64 0, .int .u64 0, .int .u64 0] rfl
                                  refine hKq.out _ _ (hS'.pre 3) (fun _ => ?_)
                                  clear hKq Kq
                                  generalize U64.alloc (.cells #[.int .u64 0, .int .u64 0, .int .u64 0, .int .u64 0] 70) = U66 at hS' ⊢
                                  generalize U64.heap.size = g7 at hS' ⊢
                                  exact R2ab.out U66 g7 g8 hS'
                                · go_simp
                                  have hS' := hS.newAt 4 U64.heap.size rfl 70 z4L #[.int .u64 0, .int .u64 0, .int .u64 0, .int .u64 0] rfl
                                  refine hKq.out _ _ (hS'.pre 3) (fun _ => ?_)
                                  clear hKq Kq
                                  generalize U64.alloc (.cells #[.int .u64 0, .int .u64 0, .int .u64 0, .int .u64 0] 70) = U67 at hS' ⊢
                                  generalize U64.heap.size = g9 at hS' ⊢
                                  exact R2bc.out U67 g8 g9 hS'
                            · rintro U68 g9 hS
                              refine wpAnyH_ready (rs := [20, 21, 22]) (by kernel_rfl) (by simp) ?_
                              refine (AllReadyH.cons rfl (fun Kq hKq => ?_) (AllReadyH.cons rfl (fun Kq hKq => ?_) (AllReadyH.cons rfl (fun Kq hKq => ?_) AllReadyH.nil)))
                              · go_simp
                                refine (C38.out _).mono ?_
                                rintro e U69 ⟨rfl, LB⟩
                                have hS := hS.below LB
                                clear LB
                                refine hKq.out _ _ (hS.pre 3) (fun _ => ?_)
                                clear hKq Kq
                                exact R3c.out U69 g9 hS
                              · go_simp
                                have hS' := hS.newAt 3 U68.heap.size rfl 70 z4L #[.int .u64 0, .int .u64 0, .int .u64 0, .int .u64 0] rfl
                                refine hKq.out _ _ (hS'.pre 3) (fun _ => ?_)
                                clear hKq Kq
                                generalize U68.alloc (.cells #[.int .u64 0, .int .u64 0, .int .u64 0, .int .u64 0] 70) = U70 at hS' ⊢
                                generalize U68.heap.size = g7 at hS' ⊢
                                exact R2ac.out U70 g7 g9 hS'
                              · go_simp
                                have hS' := hS.newAt 3 U68.heap.size rfl 70 z4L #[.int .u64 0, .int .u64 0, .int .u64 0, .int .u64 0] rfl
                                refine hKq.out _ _ (hS'.pre 3) (fun _ => ?_)
                                clear hKq Kq
                                generalize U68.alloc (.cells #[.int .u64 0, .int .u64 0, .int .u64 0, .int .u64 0] 70) = U71 at hS' ⊢
                                generalize U68.heap.size = g8 at hS' ⊢
                                exact R2bc.out U71 g8 g9 hS'
                          · rintro U72 hS
                            refine wpAnyH_ready (rs := [21, 22, 23]) (by kernel_rfl) (by simp) ?_
                            refine (AllReadyH.cons rfl (fun Kq hKq => ?_) (AllReadyH.cons rfl (fun Kq hKq => ?_) (AllReadyH.cons rfl (fun Kq hKq => ?_) AllReadyH.nil)))
                            · go_simp
                              have hS' := hS.newAt 3 U72.heap.size rfl 70 z4L #[.int .u64 0, .int .u64 0, .int .u64 0, .int .u64 0] rfl
                              refine hKq.out _ _ (hS'.pre 3) (fun _ => ?_)
                              clear hKq Kq
                              generalize U72.alloc (.cells #[.int .u64 0, .int .u64 0, .int .u64 0, .int .u64 0] 70) = U73 at hS' ⊢
                              generalize U72.heap.size = g7 at hS' ⊢
                              exact R3a.out U73 g7 hS'
                            · go_simp
                              have hS' := hS.newAt 3 U72.heap.size rfl 70 z4L #[.int .u64 0, .int .u64 0, .int .u64 0, .int .u64 0] rfl
                              refine hKq.out _ _ (hS'.pre 3) (fun _ => ?_)
                              clear hKq Kq
                              generalize U72.alloc (.cells #[.int .u64 0, .int .u64 0, .int .u64 0, .int .u64 0] 70) = U74 at hS' ⊢
                              generalize U72.heap.size = g8 at hS' ⊢
                              exact R3b.out U74 g8 hS'
                            · go_simp
                              have hS' := hS.newAt 3 U72.heap.size rfl 70 z4L #[.int .u64 0, .int .u64 0, .int .u64 0, .int .u64 0] rfl
                              refine hKq.out _ _ (hS'.pre 3) (fun _ => ?_)
                              clear hKq Kq
                              generalize U72.alloc (.cells #[.int .u64 0, .int .u64 0, .int .u64 0, .int .u64 0] 70) = U75 at hS' ⊢
                              generalize U72.heap.size = g9 at hS' ⊢
                              exact R3c.out U75 g9 hS'
                        · rintro U76 g7 g8 g9 hS
                          refine wpAnyH_ready (rs := [13]) (by kernel_rfl) (by simp) ?_
                          refine (AllReadyH.cons rfl (fun Kq hKq => ?_) AllReadyH.nil)
                          · go_simp
                            refine (C31.out _).mono ?_
                            rintro e U77 ⟨rfl, LB⟩
                            have hS := hS.below LB
                            clear LB
                            refine hKq.out _ _ (hS.pre 3) (fun _ => ?_)
                            clear hKq Kq
                            exact R2abc.out U77 g7 g8 g9 hS
                      · rintro U78 g7 g8 hS
                        refine wpAnyH_ready (rs := [20, 23]) (by kernel_rfl) (by simp) ?_
                        refine (AllReadyH.cons rfl (fun Kq hKq => ?_) (AllReadyH.cons rfl (fun Kq hKq => ?_) AllReadyH.nil))
                        · go_simp
                          refine (C38.out _).mono ?_
                          rintro e U79 ⟨rfl, LB⟩
                          have hS := hS.below LB
                          clear LB
                          refine hKq.out _ _ (hS.pre 3) (fun _ => ?_)
                          clear hKq Kq
                          exact R3ab.out U79 g7 g8 hS
                        · go_simp
                          have hS' := hS.newAt 5 U78.heap.size rfl 70 z4L #[.int .u64 0, .int .u64 0, .int .u64 0, .int .u64 0] rfl
                          refine hKq.out _ _ (hS'.pre 3) (fun _ => ?_)
                          clear hKq Kq
                          generalize U78.alloc (.cells #[.int .u64 0, .int .u64 0, .int .u64 0, .int .u64 0] 70) = U80 at hS' ⊢
                          generalize U78.heap.size = g9 at hS' ⊢
                          exact R2abc.out U80 g7 g8 g9 hS'
                    · rintro U81 g7 g9 hS
                      refine wpAnyH_ready (rs := [20, 22]) (by kernel_rfl) (by simp) ?_
                      refine (AllReadyH.cons rfl (fun Kq hKq => ?_) (AllReadyH.cons rfl (fun Kq hKq => ?_) AllReadyH.nil))
                      · go_simp
                        refine (C38.out _).mono ?_
                        rintro e U82 ⟨rfl, LB⟩
                        have hS := hS.below LB
                        clear LB
                        refine hKq.out _ _ (hS.pre 3) (fun _ => ?_)
                        clear hKq Kq
                        exact R3ac.out U82 g7 g9 hS
                      · go_simp
                        have hS' := hS.newAt 4 U81.heap.size rfl 70 z4L #[.int .u64 0, .int .u64 0, .int .u64 0, .int .u64 0] rfl
                        refine hKq.out _ _ (hS'.pre 3) (fun _ => ?_)
                        clear hKq Kq
                        generalize U81.alloc (.cells #[.int .u64 0, .int .u64 0, .int .u64 0, .int .u64 0] 70) = U83 at hS' ⊢
                        generalize U81.heap.size = g8 at hS' ⊢
                        exact R2abc.out U83 g7 g8 g9 hS'
                  · rintro U84 g8 g9 hS
                    refine wpAnyH_ready (rs := [20, 21]) (by kernel_rfl) (by simp) ?_
                    refine (AllReadyH.cons rfl (fun Kq hKq => ?_) (AllReadyH.cons rfl (fun Kq hKq => ?_) AllReadyH.nil))
                    · go_simp
                      refine (C38.out _).mono ?_
                      rintro e U85 ⟨rfl, LB⟩
                      have hS := hS.below LB
                      clear LB
                      refine hKq.out _ _ (hS.pre 3) (fun _ => ?_)
                      clear hKq Kq
                      exact R3bc.out U85 g8 g9 hS
                    · go_simp
                      have hS' := hS.newAt 3 U84.heap.size rfl 70 z4L #[.int .u64 0, .int .u64 0, .int .u64 0, .int .u64 0] rfl
                      refine hKq.out _ _ (hS'.pre 3) (fun _ => ?_)
                      clear hKq Kq
                      generalize U84.alloc (.cells #[.int .u64 0, .int .u64 0, .int .u64 0, .int .u64 0] 70) = U86 at hS' ⊢
                      generalize U84.heap.size = g7 at hS' ⊢
                      exact R2abc.out U86 g7 g8 g9 hS'
                · rintro U87 g7 hS
                  refine wpAnyH_ready (rs := [22, 23]) (by kernel_rfl) (by simp) ?_
                  refine (AllReadyH.cons rfl (fun Kq hKq => ?_) (AllReadyH.cons rfl (fun Kq hKq => ?_) AllReadyH.nil))
                  · go_simp
                    have hS' := hS.newAt 4 U87.heap.size rfl 70 z4L #[.int .u64 0, .int .u64 0, .int .u64 0, .int .u64 0] rfl
                    refine hKq.out _ _ (hS'.pre 3) (fun _ => ?_)
                    clear hKq Kq
                    generalize U87.alloc (.cells #[.int .u64 0, .int .u64 0, .int .u64 0, .int .u64 0] 70) = U88 at hS' ⊢
                    generalize U87.heap.size = g8 at hS' ⊢
                    exact R3ab.out U88 g7 g8 hS'
                  · go_simp
                    have hS' := hS.newAt 4 U87.heap.size rfl 70 z4L #[.int .u64 0, .int .u64 0, .int .u64 0, .int .u64 0] rfl
                    refine hKq.out _ _ (hS'.pre 3) (fun _ => ?_)
                    clear hKq Kq
                    generalize U87.alloc (.cells #[.int .u64 0, .int .u64 0, .int .u64 0, .int .u64 0] 70) = U89 at hS' ⊢
                    generalize U87.heap.size = g9 at hS' ⊢
                    exact R3ac.out U89 g7 g9 hS'
              · rintro U90 g8 hS
                refine wpAnyH_ready (rs := [21, 23]) (by kernel_rfl) (by simp) ?_
                refine (AllReadyH.cons rfl (fun Kq hKq => ?_) (AllReadyH.cons rfl (fun Kq hKq => ?_) AllReadyH.nil))
                · go_simp
                  have hS' := hS.newAt 3 U90.heap.size rfl 70 z4L #[.int .u64 0, .int .u64 0, .int .u64 0, .int .u64 0] rfl
                  refine hKq.out _ _ (hS'.pre 3) (fun _ => ?_)
                  clear hKq Kq
                  generalize U90.alloc (.cells #[.int .u64 0, .int .u64 0, .int .u64 0, .int .u64 0] 70) = U91 at hS' ⊢
                  generalize U90.heap.size = g7 at hS' ⊢
                  exact R3ab.out U91 g7 g8 hS'
                · go_simp
                  have hS' := hS.newAt 4 U90.heap.size rfl 70 z4L #[.int .u64 0, .int .u64 0, .int .u64 0, .int .u64 0] rfl
                  refine hKq.out _ _ (hS'.pre 3) (fun _ => ?_)
                  clear hKq Kq
                  generalize U90.alloc (.cells #[.int .u64 0, .int .u64 0, .int .u64 0, .int .u64 0] 70) = U92 at hS' ⊢
                  generalize U90.heap.size = g9 at hS' ⊢
                  exact R3bc.out U92 g8 g9 hS'
            · rintro U93 g9 hS
              refine wpAnyH_ready (rs := [21, 22]) (by kernel_rfl) (by simp) ?_
              refine (AllReadyH.cons rfl (fun Kq hKq => ?_) (AllReadyH.cons rfl (fun Kq hKq => ?_) AllReadyH.nil))
              · go_simp
                have hS' := hS.newAt 3 U93.heap.size rfl 70 z4L #[.int .u64 0, .int .u64 0, .int .u64 0, .int .u64 0] rfl
                refine hKq.out _ _ (hS'.pre 3) (fun _ => ?_)
                clear hKq Kq
                generalize U93.alloc (.cells #[.int .u64 0, .int .u64 0, .int .u64 0, .int .u64 0] 70) = U94 at hS' ⊢
                generalize U93.heap.size = g7 at hS' ⊢
                exact R3ac.out U94 g7 g9 hS'
              · go_simp
                have hS' := hS.newAt 3 U93.heap.size rfl 70 z4L #[.int .u64 0, .int .u64 0, .int .u64 0, .int .u64 0] rfl
                refine hKq.out _ _ (hS'.pre 3) (fun _ => ?_)
                clear hKq Kq
                generalize U93.alloc (.cells #[.int .u64 0, .int .u64 0, .int .u64 0, .int .u64 0] 70) = U95 at hS' ⊢
                generalize U93.heap.size = g8 at hS' ⊢
                exact R3bc.out U95 g8 g9 hS'
          · rintro U96 g7 g8 g9 hS
            refine wpAnyH_ready (rs := [20]) (by kernel_rfl) (by simp) ?_
            refine (AllReadyH.cons rfl (fun Kq hKq => ?_) AllReadyH.nil)
            · go_simp
              refine (C38.out _).mono ?_
              rintro e U97 ⟨rfl, LB⟩
              have hS := hS.below LB
              clear LB
              refine hKq.out _ _ (hS.pre 3) (fun _ => ?_)
              clear hKq Kq
              exact R3abc.out U97 g7 g8 g9 hS
        · rintro U98 g7 g8 hS
          refine wpAnyH_ready (rs := [23]) (by kernel_rfl) (by simp) ?_
          refine (AllReadyH.cons rfl (fun Kq hKq => ?_) AllReadyH.nil)
          · go_simp
            have hS' := hS.newAt 5 U98.heap.size rfl 70 z4L #[.int .u64 0, .int .u64 0, .int .u64 0, .int .u64 0] rfl
            refine hKq.out _ _ (hS'.pre 3) (fun _ => ?_)
            clear hKq Kq
            generalize U98.alloc (.cells #[.int .u64 0, .int .u64 0, .int .u64 0, .int .u64 0] 70) = U99 at hS' ⊢
            generalize U98.heap.size = g9 at hS' ⊢
            exact R3abc.out U99 g7 g8 g9 hS'
      · rintro U100 g7 g9 hS
        refine wpAnyH_ready (rs := [22]) (by kernel_rfl) (by simp) ?_
        refine (AllReadyH.cons rfl (fun Kq hKq => ?_) AllReadyH.nil)
        · go_simp
          have hS' := hS.newAt 4 U100.heap.size rfl 70 z4L #[.int .u64 0, .int .u64 0, .int .u64 0, .int .u64 0] rfl
          refine hKq.out _ _ (hS'.pre 3) (fun _ => ?_)
          clear hKq Kq
          generalize U100.alloc (.cells #[.int .u64 0, .int .u64 0, .int .u64 0, .int .u64 0] 70) = U101 at hS' ⊢
          generalize U100.heap.size = g8 at hS' ⊢
          exact R3abc.out U101 g7 g8 g9 hS'
    · rintro U102 g8 g9 hS
      refine wpAnyH_ready (rs := [21]) (by kernel_rfl) (by simp) ?_
      refine (AllReadyH.cons rfl (fun Kq hKq => ?_) AllReadyH.nil)
      · go_simp
        have hS' := hS.newAt 3 U102.heap.size rfl 70 z4L #[.int .u64 0, .int .u64 0, .int .u64 0, .int .u64 0] rfl
        refine hKq.out _ _ (hS'.pre 3) (fun _ => ?_)
        clear hKq Kq
        generalize U102.alloc (.cells #[.int .u64 0, .int .u64 0, .int .u64 0, .int .u64 0] 70) = U103 at hS' ⊢
        generalize U102.heap.size = g7 at hS' ⊢
        exact R3abc.out U103 g7 g8 g9 hS'
  · rintro U104 g7 g8 g9 hS
    have hst := stN (hS.get 3 rfl) rfl v24
    refine wpAnyH_ready (rs := [24]) (by kernel_rfl) (by simp) ?_
    refine AllReadyH.cons rfl (fun Kq hKq => ?_) AllReadyH.nil
    go_simp
    have hS' : Bx w [(w.heap.size, 72, (t3 x1 y1 z1)), (w.heap.size + 1, 72, (t3 x2 y2 z2)), (w.heap.size + 1 + 1, 67, doL), (g7, 70, (nL v24)), (g8, 70, z4L), (g9, 70, z4L), (w.heap.size + 1 + 1 + 1, 72, z12L)] (U104.setCells g7 0 (nL v24)) := hS.setAt 3 (nL v24) rfl rfl
    refine hKq.out _ _ (hS'.pre 3) (fun _ => ?_)
    clear hKq Kq hst hS
    have hS := hS'
    clear hS'
    generalize U104.setCells g7 0 (nL v24) = U105 at hS ⊢
    have hst := stN (hS.get 4 rfl) rfl v31
    refine wpAnyH_ready (rs := [25]) (by kernel_rfl) (by simp) ?_
    refine AllReadyH.cons rfl (fun Kq hKq => ?_) AllReadyH.nil
    go_simp
    have hS' : Bx w [(w.heap.size, 72, (t3 x1 y1 z1)), (w.heap.size + 1, 72, (t3 x2 y2 z2)), (w.heap.size + 1 + 1, 67, doL), (g7, 70, (nL v24)), (g8, 70, (nL v31)), (g9, 70, z4L), (w.heap.size + 1 + 1 + 1, 72, z12L)] (U105.setCells g8 0 (nL v31)) := hS.setAt 4 (nL v31) rfl rfl
    refine hKq.out _ _ (hS'.pre 3) (fun _ => ?_)
    clear hKq Kq hst hS
    have hS := hS'
    clear hS'
    generalize U105.setCells g8 0 (nL v31) = U106 at hS ⊢
    have hst := stN (hS.get 5 rfl) rfl v38
    refine wpAnyH_ready (rs := [26]) (by kernel_rfl) (by simp) ?_
    refine AllReadyH.cons rfl (fun Kq hKq => ?_) AllReadyH.nil
    go_simp
    have hS' : Bx w [(w.heap.size, 72, (t3 x1 y1 z1)), (w.heap.size + 1, 72, (t3 x2 y2 z2)), (w.heap.size + 1 + 1, 67, doL), (g7, 70, (nL v24)), (g8, 70, (nL v31)), (g9, 70, (nL v38)), (w.heap.size + 1 + 1 + 1, 72, z12L)] (U106.setCells g9 0 (nL v38)) := hS.setAt 5 (nL v38) rfl rfl
    refine hKq.out _ _ (hS'.pre 3) (fun _ => ?_)
    clear hKq Kq hst hS
    have hS := hS'
    clear hS'
    generalize U106.setCells g9 0 (nL v38) = U107 at hS ⊢
    refine wpAnyH_done (by kernel_rfl) ?_ _
    have hl0 := ldD (hS.get 2 rfl)
    have hl2 := (ldt3 (hS.get 0 rfl)).1
    have hl4 := (ldt3 (hS.get 1 rfl)).2.1
    have hl6 := (ldt3 (hS.get 0 rfl)).2.1
    have hl8 := (ldt3 (hS.get 1 rfl)).1
    go_wp2_with fail
    refine (C48.out _).mono ?_
    rintro e U108 ⟨rfl, LB⟩
    have hS := hS.below LB
    clear LB
    clear hl0
    clear hl2
    clear hl4
    clear hl6
    clear hl8
    have hst := stNn U108 v48
    have hS' : Bx w [(w.heap.size, 72, (t3 x1 y1 z1)), (w.heap.size + 1, 72, (t3 x2 y2 z2)), (w.heap.size + 1 + 1, 67, doL), (g7, 70, (nL v24)), (g8, 70, (nL v31)), (g9, 70, (nL v38)), (U108.heap.size, 70, (nL v48)), (w.heap.size + 1 + 1 + 1, 72, z12L)] (U108.alloc (.cells (nL v48).toArray 70)) := hS.newAt 6 U108.heap.size rfl 70 (nL v48) _ rfl
    clear hS
    have hS := hS'
    clear hS'
    go_upto_region 3 with fail
    generalize U108.alloc (.cells (nL v48).toArray 70) = U109 at hS ⊢
    generalize U108.heap.size = g10 at hS ⊢
    clear hst
    have hl0 := ldD (hS.get 2 rfl)
    have hl2 := (ldt3 (hS.get 0 rfl)).1
    have hl4 := (ldt3 (hS.get 1 rfl)).2.2
    have hl6 := (ldt3 (hS.get 0 rfl)).2.2
    have hl8 := (ldt3 (hS.get 1 rfl)).1
    go_wp2_with fail
    refine (C58.out _).mono ?_
    rintro e U110 ⟨rfl, LB⟩
    have hS := hS.below LB
    clear LB
    clear hl0
    clear hl2
    clear hl4
    clear hl6
    clear hl8
    have hst := stNn U110 v58
    have hS' : Bx w [(w.heap.size, 72, (t3 x1 y1 z1)), (w.heap.size + 1, 72, (t3 x2 y2 z2)), (w.heap.size + 1 + 1, 67, doL), (g7, 70, (nL v24)), (g8, 70, (nL v31)), (g9, 70, (nL v38)), (g10, 70, (nL v48)), (U110.heap.size, 70, (nL v58)), (w.heap.size + 1 + 1 + 1, 72, z12L)] (U110.alloc (.cells (nL v58).toArray 70)) := hS.newAt 7 U110.heap.size rfl 70 (nL v58) _ rfl
    clear hS
    have hS := hS'
    clear hS'
    go_upto_region 4 with fail
    generalize U110.alloc (.cells (nL v58).toArray 70) = U111 at hS ⊢
    generalize U110.heap.size = g11 at hS ⊢
    clear hst
    have hl0 := ldD (hS.get 2 rfl)
    have hl2 := (ldt3 (hS.get 0 rfl)).2.1
    have hl4 := (ldt3 (hS.get 1 rfl)).2.2
    have hl6 := (ldt3 (hS.get 0 rfl)).2.2
    have hl8 := (ldt3 (hS.get 1 rfl)).2.1
    go_wp2_with fail
    refine (C68.out _).mono ?_
    rintro e U112 ⟨rfl, LB⟩
    have hS := hS.below LB
    clear LB
    clear hl0
    clear hl2
    clear hl4
    clear hl6
    clear hl8
    have hst := stNn U112 v68
    have hS' : Bx w [(w.heap.size, 72, (t3 x1 y1 z1)), (w.heap.size + 1, 72, (t3 x2 y2 z2)), (w.heap.size + 1 + 1, 67, doL), (g7, 70, (nL v24)), (g8, 70, (nL v31)), (g9, 70, (nL v38)), (g10, 70, (nL v48)), (g11, 70, (nL v58)), (U112.heap.size, 70, (nL v68)), (w.heap.size + 1 + 1 + 1, 72, z12L)] (U112.alloc (.cells (nL v68).toArray 70)) := hS.newAt 8 U112.heap.size rfl 70 (nL v68) _ rfl
    clear hS
    have hS := hS'
    clear hS'
    go_upto_region 5 with fail
    generalize U112.alloc (.cells (nL v68).toArray 70) = U113 at hS ⊢
    generalize U112.heap.size = g12 at hS ⊢
    clear hst
    have hS := hS.drew
    refine wp_region_held_drew (S := Bx w [(w.heap.size, 72, (t3 x1 y1 z1)), (w.heap.size + 1, 72, (t3 x2 y2 z2)), (w.heap.size + 1 + 1, 67, doL), (g7, 70, (nL v24)), (g8, 70, (nL v31)), (g9, 70, (nL v38)), (g10, 70, (nL v48)), (g11, 70, (nL v58)), (g12, 70, (nL v68))]) (by kernel_rfl) (hS.pre 9) (fun _ => ?_)
    generalize U113.drew = U114 at hS ⊢
    have hP : Bx w [(w.heap.size, 72, (t3 x1 y1 z1)), (w.heap.size + 1, 72, (t3 x2 y2 z2)), (w.heap.size + 1 + 1, 67, doL), (g7, 70, (nL v24)), (g8, 70, (nL v31)), (g9, 70, (nL v38)), (g10, 70, (nL v48)), (g11, 70, (nL v58)), (g12, 70, (nL v68))] U114 := hS.pre 9
    refine wpAnyH_take (i := 0) (v := ?_) rfl (by kernel_rfl) (by kernel_rfl) (by kernel_rfl) (fun _ _ _ h => h) (Or.inl ⟨by rfl, ?_⟩) (by assumption) ?_
    rotate_left
    · intro wq hSq
      have hl := ldD (hSq.get 2 rfl)
      go_simp
      try with_reducible rfl
    simp only [List.getElem_toArray, List.getElem_cons_zero, Act.put, List.setIfInBounds_toArray, List.set_cons_zero, List.set_cons_succ]
    refine wpAnyH_take (i := 1) (v := ?_) rfl (by kernel_rfl) (by kernel_rfl) (by kernel_rfl) (fun _ _ _ h => h) (Or.inl ⟨by rfl, ?_⟩) (by assumption) ?_
    rotate_left
    · intro wq hSq
      go_simp
      try with_reducible rfl
    simp only [List.getElem_toArray, List.getElem_cons_succ, List.getElem_cons_zero, Act.put, List.setIfInBounds_toArray, List.set_cons_zero, List.set_cons_succ]
    refine wpAnyH_take (i := 2) (v := ?_) rfl (by kernel_rfl) (by kernel_rfl) (by kernel_rfl) (fun _ _ _ h => h) (Or.inl ⟨by rfl, ?_⟩) (by assumption) ?_
    rotate_left
    · intro wq hSq
      have hl := (doC (hSq.get 2 rfl)).2.1
      go_simp
      try with_reducible rfl
    simp only [List.getElem_toArray, List.getElem_cons_succ, List.getElem_cons_zero, Act.put, List.setIfInBounds_toArray, List.set_cons_zero, List.set_cons_succ]
    refine wpAnyH_take (i := 3) (v := ?_) rfl (by kernel_rfl) (by kernel_rfl) (by kernel_rfl) (fun _ _ _ h => h) (Or.inl ⟨by rfl, ?_⟩) (by assumption) ?_
    rotate_left
    · intro wq hSq
      have hl := ldN (hSq.get 7 rfl)
      go_simp
      try with_reducible rfl
    simp only [List.getElem_toArray, List.getElem_cons_succ, List.getElem_cons_zero, Act.put, List.setIfInBounds_toArray, List.set_cons_zero, List.set_cons_succ]
    refine wpAnyH_take (i := 4) (v := ?_) rfl (by kernel_rfl) (by kernel_rfl) (by kernel_rfl) (fun _ _ _ h => h) (Or.inl ⟨by rfl, ?_⟩) (by assumption) ?_
    rotate_left
    · intro wq hSq
      go_simp
      try with_reducible rfl
    simp only [List.getElem_toArray, List.getElem_cons_succ, List.getElem_cons_zero, Act.put, List.setIfInBounds_toArray, List.set_cons_zero, List.set_cons_succ]
    refine wpAnyH_take (i := 5) (v := ?_) rfl (by kernel_rfl) (by kernel_rfl) (by kernel_rfl) (fun _ _ _ h => h) (Or.inl ⟨by rfl, ?_⟩) (by assumption) ?_
    rotate_left
    · intro wq hSq
      have hl := (doC (hSq.get 2 rfl)).2.2.2.2
      go_simp
      try with_reducible rfl
    simp only [List.getElem_toArray, List.getElem_cons_succ, List.getElem_cons_zero, Act.put, List.setIfInBounds_toArray, List.set_cons_zero, List.set_cons_succ]
    refine wpAnyH_take (i := 6) (v := ?_) rfl (by kernel_rfl) (by kernel_rfl) (by kernel_rfl) (fun _ _ _ h => h) (Or.inl ⟨by rfl, ?_⟩) (by assumption) ?_
    rotate_left
    · intro wq hSq
      have hl := ldN (hSq.get 5 rfl)
      go_simp
      try with_reducible rfl
    simp only [List.getElem_toArray, List.getElem_cons_succ, List.getElem_cons_zero, Act.put, List.setIfInBounds_toArray, List.set_cons_zero, List.set_cons_succ]
    clear hP
    refine' mk_restN (K := fun W g13 => Bx w [(w.heap.size, 72, (t3 x1 y1 z1)), (w.heap.size + 1, 72, (t3 x2 y2 z2)), (w.heap.size + 1 + 1, 67, doL), (g7, 70, (nL v24)), (g8, 70, (nL v31)), (g9, 70, (nL v38)), (g10, 70, (nL v48)), (g11, 70, (nL v58)), (g12, 70, (nL v68)), (g13, 70, z4L), (w.heap.size + 1 + 1 + 1, 72, z12L)] W) (fun R3a => ?_) ?_
    rotate_left
    · skip
      refine' mk_restW (K := fun W => Bx w [(w.heap.size, 72, (t3 x1 y1 z1)), (w.heap.size + 1, 72, (t3 x2 y2 z2)), (w.heap.size + 1 + 1, 67, doL), (g7, 70, (nL v24)), (g8, 70, (nL v31)), (g9, 70, (nL v38)), (g10, 70, (nL v48)), (g11, 70, (nL v58)), (g12, 70, (nL v68)), (w.heap.size + 1 + 1 + 1, 72, z12L)] W) (fun R3 => ?_) ?_
      rotate_left
      · skip
        refine' mk_restN (K := fun W g13 => Bx w [(w.heap.size, 72, (t3 x1 y1 z1)), (w.heap.size + 1, 72, (t3 x2 y2 z2)), (w.heap.size + 1 + 1, 67, doL), (g7, 70, (nL v24)), (g8, 70, (nL v31)), (g9, 70, (nL v38)), (g10, 70, (nL v48)), (g11, 70, (nL v58)), (g12, 70, (nL v68)), (g13, 70, z4L), (w.heap.size + 1 + 1 + 1, 72, z12L)] W) (fun R2a => ?_) ?_
        rotate_left
        · skip
          refine' mk_restW (K := fun W => Bx w [(w.heap.size, 72, (t3 x1 y1 z1)), (w.heap.size + 1, 72, (t3 x2 y2 z2)), (w.heap.size + 1 + 1, 67, doL), (g7, 70, (nL v24)), (g8, 70, (nL v31)), (g9, 70, (nL v38)), (g10, 70, (nL v48)), (g11, 70, (nL v58)), (g12, 70, (nL v68)), (w.heap.size + 1 + 1 + 1, 72, z12L)] W) (fun R2 => ?_) ?_
          rotate_left
          · skip
            refine' mk_restN (K := fun W g13 => Bx w [(w.heap.size, 72, (t3 x1 y1 z1)), (w.heap.size + 1, 72, (t3 x2 y2 z2)), (w.heap.size + 1 + 1, 67, doL), (g7, 70, (nL v24)), (g8, 70, (nL v31)), (g9, 70, (nL v38)), (g10, 70, (nL v48)), (g11, 70, (nL v58)), (g12, 70, (nL v68)), (g13, 70, z4L), (w.heap.size + 1 + 1 + 1, 72, z12L)] W) (fun R1a => ?_) ?_
            rotate_left
            · skip
              refine' mk_restW (K := fun W => Bx w [(w.heap.size, 72, (t3 x1 y1 z1)), (w.heap.size + 1, 72, (t3 x2 y2 z2)), (w.heap.size + 1 + 1, 67, doL), (g7, 70, (nL v24)), (g8, 70, (nL v31)), (g9, 70, (nL v38)), (g10, 70, (nL v48)), (g11, 70, (nL v58)), (g12, 70, (nL v68)), (w.heap.size + 1 + 1 + 1, 72, z12L)] W) (fun R1 => ?_) ?_
              rotate_left
              · skip
                refine' mk_restN (K := fun W g13 => Bx w [(w.heap.size, 72, (t3 x1 y1 z1)), (w.heap.size + 1, 72, (t3 x2 y2 z2)), (w.heap.size + 1 + 1, 67, doL), (g7, 70, (nL v24)), (g8, 70, (nL v31)), (g9, 70, (nL v38)), (g10, 70, (nL v48)), (g11, 70, (nL v58)), (g12, 70, (nL v68)), (g13, 70, z4L), (w.heap.size + 1 + 1 + 1, 72, z12L)] W) (fun R0a => ?_) ?_
                rotate_left
                · skip
                  refine wpAnyH_ready (rs := [7, 10]) (by kernel_rfl) (by simp) ?_
                  refine (AllReadyH.cons rfl (fun Kq hKq => ?_) (AllReadyH.cons rfl (fun Kq hKq => ?_) AllReadyH.nil))
                  · go_simp
                    refine (C76.out _).mono ?_
                    rintro e U115 ⟨rfl, LB⟩
                    have hS := hS.below LB
                    clear LB
                    refine hKq.out _ _ (hS.pre 9) (fun _ => ?_)
                    clear hKq Kq
                    exact R1.out U115 hS
                  · go_simp
                    have hS' := hS.newAt 9 U114.heap.size rfl 70 z4L #[.int .u64 0, .int .u64 0, .int .u64 0, .int .u64 0] rfl
                    refine hKq.out _ _ (hS'.pre 9) (fun _ => ?_)
                    clear hKq Kq
                    generalize U114.alloc (.cells #[.int .u64 0, .int .u64 0, .int .u64 0, .int .u64 0] 70) = U116 at hS' ⊢
                    generalize U114.heap.size = g13 at hS' ⊢
                    exact R0a.out U116 g13 hS'
                · rintro U117 g13 hS
                  refine wpAnyH_ready (rs := [7]) (by kernel_rfl) (by simp) ?_
                  refine (AllReadyH.cons rfl (fun Kq hKq => ?_) AllReadyH.nil)
                  · go_simp
                    refine (C76.out _).mono ?_
                    rintro e U118 ⟨rfl, LB⟩
                    have hS := hS.below LB
                    clear LB
                    refine hKq.out _ _ (hS.pre 9) (fun _ => ?_)
                    clear hKq Kq
                    exact R1a.out U118 g13 hS
              · rintro U119 hS
                refine wpAnyH_ready (rs := [8, 10]) (by kernel_rfl) (by simp) ?_
                refine (AllReadyH.cons rfl (fun Kq hKq => ?_) (AllReadyH.cons rfl (fun Kq hKq => ?_) AllReadyH.nil))
                · go_simp
                  refine (C77.out _).mono ?_
                  rintro e U120 ⟨rfl, LB⟩
                  have hS := hS.below LB
                  clear LB
                  refine hKq.out _ _ (hS.pre 9) (fun _ => ?_)
                  clear hKq Kq
                  exact R2.out U120 hS
                · go_simp
                  have hS' := hS.newAt 9 U119.heap.size rfl 70 z4L #[.int .u64 0, .int .u64 0, .int .u64 0, .int .u64 0] rfl
                  refine hKq.out _ _ (hS'.pre 9) (fun _ => ?_)
                  clear hKq Kq
                  generalize U119.alloc (.cells #[.int .u64 0, .int .u64 0, .int .u64 0, .int .u64 0] 70) = U121 at hS' ⊢
                  generalize U119.heap.size = g13 at hS' ⊢
                  exact R1a.out U121 g13 hS'
            · rintro U122 g13 hS
              refine wpAnyH_ready (rs := [8]) (by kernel_rfl) (by simp) ?_
              refine (AllReadyH.cons rfl (fun Kq hKq => ?_) AllReadyH.nil)
              · go_simp
                refine (C77.out _).mono ?_
                rintro e U123 ⟨rfl, LB⟩
                have hS := hS.below LB
                clear LB
                refine hKq.out _ _ (hS.pre 9) (fun _ => ?_)
                clear hKq Kq
                exact R2a.out U123 g13 hS
          · rintro U124 hS
            refine wpAnyH_ready (rs := [9, 10]) (by kernel_rfl) (by simp) ?_
            refine (AllReadyH.cons rfl (fun Kq hKq => ?_) (AllReadyH.cons rfl (fun Kq hKq => ?_) AllReadyH.nil))
            · go_simp
              refine (C78.out _).mono ?_
              rintro e U125 ⟨rfl, LB⟩
              have hS := hS.below LB
              clear LB
              refine hKq.out _ _ (hS.pre 9) (fun _ => ?_)
              clear hKq Kq
              exact R3.out U125 hS
            · go_simp
              have hS' := hS.newAt 9 U124.heap.size rfl 70 z4L #[.int .u64 0, .int .u64 0, .int .u64 0, .int .u64 0] rfl
              refine hKq.out _ _ (hS'.pre 9) (fun _ => ?_)
              clear hKq Kq
              generalize U124.alloc (.cells #[.int .u64 0, .int .u64 0, .int .u64 0, .int .u64 0] 70) = U126 at hS' ⊢
              generalize U124.heap.size = g13 at hS' ⊢
              exact R2a.out U126 g13 hS'
        · rintro U127 g13 hS
          refine wpAnyH_ready (rs := [9]) (by kernel_rfl) (by simp) ?_
          refine (AllReadyH.cons rfl (fun Kq hKq => ?_) AllReadyH.nil)
          · go_simp
            refine (C78.out _).mono ?_
            rintro e U128 ⟨rfl, LB⟩
            have hS := hS.below LB
            clear LB
            refine hKq.out _ _ (hS.pre 9) (fun _ => ?_)
            clear hKq Kq
            exact R3a.out U128 g13 hS
      · rintro U129 hS
        refine wpAnyH_ready (rs := [10]) (by kernel_rfl) (by simp) ?_
        refine (AllReadyH.cons rfl (fun Kq hKq => ?_) AllReadyH.nil)
        · go_simp
          have hS' := hS.newAt 9 U129.heap.size rfl 70 z4L #[.int .u64 0, .int .u64 0, .int .u64 0, .int .u64 0] rfl
          refine hKq.out _ _ (hS'.pre 9) (fun _ => ?_)
          clear hKq Kq
          generalize U129.alloc (.cells #[.int .u64 0, .int .u64 0, .int .u64 0, .int .u64 0] 70) = U130 at hS' ⊢
          generalize U129.heap.size = g13 at hS' ⊢
          exact R3a.out U130 g13 hS'
    · rintro U131 g13 hS
      have hst := stN (hS.get 9 rfl) rfl v78
      refine wpAnyH_ready (rs := [11]) (by kernel_rfl) (by simp) ?_
      refine AllReadyH.cons rfl (fun Kq hKq => ?_) AllReadyH.nil
      go_simp
      have hS' : Bx w [(w.heap.size, 72, (t3 x1 y1 z1)), (w.heap.size + 1, 72, (t3 x2 y2 z2)), (w.heap.size + 1 + 1, 67, doL), (g7, 70, (nL v24)), (g8, 70, (nL v31)), (g9, 70, (nL v38)), (g10, 70, (nL v48)), (g11, 70, (nL v58)), (g12, 70, (nL v68)), (g13, 70, (nL v78)), (w.heap.size + 1 + 1 + 1, 72, z12L)] (U131.setCells g13 0 (nL v78)) := hS.setAt 9 (nL v78) rfl rfl
      refine hKq.out _ _ (hS'.pre 9) (fun _ => ?_)
      clear hKq Kq hst hS
      have hS := hS'
      clear hS'
      generalize U131.setCells g13 0 (nL v78) = U132 at hS ⊢
      refine wpAnyH_done (by kernel_rfl) ?_ _
      go_wp2
      have hS := hS.drew
      refine wp_region_held_drew (S := Bx w [(w.heap.size, 72, (t3 x1 y1 z1)), (w.heap.size + 1, 72, (t3 x2 y2 z2)), (w.heap.size + 1 + 1, 67, doL), (g7, 70, (nL v24)), (g8, 70, (nL v31)), (g9, 70, (nL v38)), (g10, 70, (nL v48)), (g11, 70, (nL v58)), (g12, 70, (nL v68)), (g13, 70, (nL v78))]) (by kernel_rfl) (hS.pre 10) (fun _ => ?_)
      generalize U132.drew = U133 at hS ⊢
      have hP : Bx w [(w.heap.size, 72, (t3 x1 y1 z1)), (w.heap.size + 1, 72, (t3 x2 y2 z2)), (w.heap.size + 1 + 1, 67, doL), (g7, 70, (nL v24)), (g8, 70, (nL v31)), (g9, 70, (nL v38)), (g10, 70, (nL v48)), (g11, 70, (nL v58)), (g12, 70, (nL v68)), (g13, 70, (nL v78))] U133 := hS.pre 10
      refine wpAnyH_take (i := 0) (v := ?_) rfl (by kernel_rfl) (by kernel_rfl) (by kernel_rfl) (fun _ _ _ h => h) (Or.inl ⟨by rfl, ?_⟩) (by assumption) ?_
      rotate_left
      · intro wq hSq
        have hl := ldD (hSq.get 2 rfl)
        go_simp
        try with_reducible rfl
      simp only [List.getElem_toArray, List.getElem_cons_zero, Act.put, List.setIfInBounds_toArray, List.set_cons_zero, List.set_cons_succ]
      refine wpAnyH_take (i := 1) (v := ?_) rfl (by kernel_rfl) (by kernel_rfl) (by kernel_rfl) (fun _ _ _ h => h) (Or.inl ⟨by rfl, ?_⟩) (by assumption) ?_
      rotate_left
      · intro wq hSq
        go_simp
        try with_reducible rfl
      simp only [List.getElem_toArray, List.getElem_cons_succ, List.getElem_cons_zero, Act.put, List.setIfInBounds_toArray, List.set_cons_zero, List.set_cons_succ]
      refine wpAnyH_take (i := 2) (v := ?_) rfl (by kernel_rfl) (by kernel_rfl) (by kernel_rfl) (fun _ _ _ h => h) (Or.inl ⟨by rfl, ?_⟩) (by assumption) ?_
      rotate_left
      · intro wq hSq
        have hl := (doC (hSq.get 2 rfl)).2.1
        go_simp
        try with_reducible rfl
      simp only [List.getElem_toArray, List.getElem_cons_succ, List.getElem_cons_zero, Act.put, List.setIfInBounds_toArray, List.set_cons_zero, List.set_cons_succ]
      refine wpAnyH_take (i := 3) (v := ?_) rfl (by kernel_rfl) (by kernel_rfl) (by kernel_rfl) (fun _ _ _ h => h) (Or.inl ⟨by rfl, ?_⟩) (by assumption) ?_
      rotate_left
      · intro wq hSq
        go_simp
        try with_reducible rfl
      simp only [List.getElem_toArray, List.getElem_cons_succ, List.getElem_cons_zero, Act.put, List.setIfInBounds_toArray, List.set_cons_zero, List.set_cons_succ]
      refine wpAnyH_take (i := 4) (v := ?_) rfl (by kernel_rfl) (by kernel_rfl) (by kernel_rfl) (fun _ _ _ h => h) (Or.inl ⟨by rfl, ?_⟩) (by assumption) ?_
      rotate_left
      · intro wq hSq
        have hl := (doC (hSq.get 2 rfl)).2.1
        go_simp
        try with_reducible rfl
      simp only [List.getElem_toArray, List.getElem_cons_succ, List.getElem_cons_zero, Act.put, List.setIfInBounds_toArray, List.set_cons_zero, List.set_cons_succ]
      refine wpAnyH_take (i := 5) (v := ?_) rfl (by kernel_rfl) (by kernel_rfl) (by kernel_rfl) (fun _ _ _ h => h) (Or.inl ⟨by rfl, ?_⟩) (by assumption) ?_
      rotate_left
      · intro wq hSq
        go_simp
        try with_reducible rfl
      simp only [List.getElem_toArray, List.getElem_cons_succ, List.getElem_cons_zero, Act.put, List.setIfInBounds_toArray, List.set_cons_zero, List.set_cons_succ]
      refine wpAnyH_take (i := 6) (v := ?_) rfl (by kernel_rfl) (by kernel_rfl) (by kernel_rfl) (fun _ _ _ h => h) (Or.inl ⟨by rfl, ?_⟩) (by assumption) ?_
      rotate_left
      · intro wq hSq
        have hl := (doC (hSq.get 2 rfl)).2.2.2.2
        go_simp
        try with_reducible rfl
      simp only [List.getElem_toArray, List.getElem_cons_succ, List.getElem_cons_zero, Act.put, List.setIfInBounds_toArray, List.set_cons_zero, List.set_cons_succ]
      refine wpAnyH_take (i := 7) (v := ?_) rfl (by kernel_rfl) (by kernel_rfl) (by kernel_rfl) (fun _ _ _ h => h) (Or.inl ⟨by rfl, ?_⟩) (by assumption) ?_
      rotate_left
      · intro wq hSq
        have hl := ldN (hSq.get 7 rfl)
        go_simp
        try with_reducible rfl
      simp only [List.getElem_toArray, List.getElem_cons_succ, List.getElem_cons_zero, Act.put, List.setIfInBounds_toArray, List.set_cons_zero, List.set_cons_succ]
      refine wpAnyH_take (i := 9) (v := ?_) rfl (by kernel_rfl) (by kernel_rfl) (by kernel_rfl) (fun _ _ _ h => h) (Or.inl ⟨by rfl, ?_⟩) (by assumption) ?_
      rotate_left
      · intro wq hSq
        have hl := ldN (hSq.get 3 rfl)
        go_simp
        try with_reducible rfl
      simp only [List.getElem_toArray, List.getElem_cons_succ, List.getElem_cons_zero, Act.put, List.setIfInBounds_toArray, List.set_cons_zero, List.set_cons_succ]
      refine wpAnyH_take (i := 11) (v := ?_) rfl (by kernel_rfl) (by kernel_rfl) (by kernel_rfl) (fun _ _ _ h => h) (Or.inl ⟨by rfl, ?_⟩) (by assumption) ?_
      rotate_left
      · intro wq hSq
        have hl := ldD (hSq.get 2 rfl)
        go_simp
        try with_reducible rfl
      simp only [List.getElem_toArray, List.getElem_cons_succ, List.getElem_cons_zero, Act.put, List.setIfInBounds_toArray, List.set_cons_zero, List.set_cons_succ]
      refine wpAnyH_take (i := 12) (v := ?_) rfl (by kernel_rfl) (by kernel_rfl) (by kernel_rfl) (fun _ _ _ h => h) (Or.inl ⟨by rfl, ?_⟩) (by assumption) ?_
      rotate_left
      · intro wq hSq
        have hl := ldN (hSq.get 5 rfl)
        go_simp
        try with_reducible rfl
      simp only [List.getElem_toArray, List.getElem_cons_succ, List.getElem_cons_zero, Act.put, List.setIfInBounds_toArray, List.set_cons_zero, List.set_cons_succ]
      clear hP
      refine' mk_restN (K := fun W g14 => Bx w [(w.heap.size, 72, (t3 x1 y1 z1)), (w.heap.size + 1, 72, (t3 x2 y2 z2)), (w.heap.size + 1 + 1, 67, doL), (g7, 70, (nL v24)), (g8, 70, (nL v31)), (g9, 70, (nL v38)), (g10, 70, (nL v48)), (g11, 70, (nL v58)), (g12, 70, (nL v68)), (g13, 70, (nL v78)), (g14, 70, z4L), (w.heap.size + 1 + 1 + 1, 72, z12L)] W) (fun R5a => ?_) ?_
      rotate_left
      · skip
        refine' mk_restW (K := fun W => Bx w [(w.heap.size, 72, (t3 x1 y1 z1)), (w.heap.size + 1, 72, (t3 x2 y2 z2)), (w.heap.size + 1 + 1, 67, doL), (g7, 70, (nL v24)), (g8, 70, (nL v31)), (g9, 70, (nL v38)), (g10, 70, (nL v48)), (g11, 70, (nL v58)), (g12, 70, (nL v68)), (g13, 70, (nL v78)), (w.heap.size + 1 + 1 + 1, 72, z12L)] W) (fun R5 => ?_) ?_
        rotate_left
        · skip
          refine' mk_restN (K := fun W g14 => Bx w [(w.heap.size, 72, (t3 x1 y1 z1)), (w.heap.size + 1, 72, (t3 x2 y2 z2)), (w.heap.size + 1 + 1, 67, doL), (g7, 70, (nL v24)), (g8, 70, (nL v31)), (g9, 70, (nL v38)), (g10, 70, (nL v48)), (g11, 70, (nL v58)), (g12, 70, (nL v68)), (g13, 70, (nL v78)), (g14, 70, z4L), (w.heap.size + 1 + 1 + 1, 72, z12L)] W) (fun R4a => ?_) ?_
          rotate_left
          · skip
            refine' mk_restW (K := fun W => Bx w [(w.heap.size, 72, (t3 x1 y1 z1)), (w.heap.size + 1, 72, (t3 x2 y2 z2)), (w.heap.size + 1 + 1, 67, doL), (g7, 70, (nL v24)), (g8, 70, (nL v31)), (g9, 70, (nL v38)), (g10, 70, (nL v48)), (g11, 70, (nL v58)), (g12, 70, (nL v68)), (g13, 70, (nL v78)), (w.heap.size + 1 + 1 + 1, 72, z12L)] W) (fun R4 => ?_) ?_
            rotate_left
            · skip
              refine' mk_restN (K := fun W g14 => Bx w [(w.heap.size, 72, (t3 x1 y1 z1)), (w.heap.size + 1, 72, (t3 x2 y2 z2)), (w.heap.size + 1 + 1, 67, doL), (g7, 70, (nL v24)), (g8, 70, (nL v31)), (g9, 70, (nL v38)), (g10, 70, (nL v48)), (g11, 70, (nL v58)), (g12, 70, (nL v68)), (g13, 70, (nL v78)), (g14, 70, z4L), (w.heap.size + 1 + 1 + 1, 72, z12L)] W) (fun R3a => ?_) ?_
              rotate_left
              · skip
                refine' mk_restW (K := fun W => Bx w [(w.heap.size, 72, (t3 x1 y1 z1)), (w.heap.size + 1, 72, (t3 x2 y2 z2)), (w.heap.size + 1 + 1, 67, doL), (g7, 70, (nL v24)), (g8, 70, (nL v31)), (g9, 70, (nL v38)), (g10, 70, (nL v48)), (g11, 70, (nL v58)), (g12, 70, (nL v68)), (g13, 70, (nL v78)), (w.heap.size + 1 + 1 + 1, 72, z12L)] W) (fun R3 => ?_) ?_
                rotate_left
                · skip
                  refine' mk_restN (K := fun W g14 => Bx w [(w.heap.size, 72, (t3 x1 y1 z1)), (w.heap.size + 1, 72, (t3 x2 y2 z2)), (w.heap.size + 1 + 1, 67, doL), (g7, 70, (nL v24)), (g8, 70, (nL v31)), (g9, 70, (nL v38)), (g10, 70, (nL v48)), (g11, 70, (nL v58)), (g12, 70, (nL v68)), (g13, 70, (nL v78)), (g14, 70, z4L), (w.heap.size + 1 + 1 + 1, 72, z12L)] W) (fun R2a => ?_) ?_
                  rotate_left
                  · skip
                    refine' mk_restW (K := fun W => Bx w [(w.heap.size, 72, (t3 x1 y1 z1)), (w.heap.size + 1, 72, (t3 x2 y2 z2)), (w.heap.size + 1 + 1, 67, doL), (g7, 70, (nL v24)), (g8, 70, (nL v31)), (g9, 70, (nL v38)), (g10, 70, (nL v48)), (g11, 70, (nL v58)), (g12, 70, (nL v68)), (g13, 70, (nL v78)), (w.heap.size + 1 + 1 + 1, 72, z12L)] W) (fun R2 => ?_) ?_
                    rotate_left
                    · skip
                      refine' mk_restN (K := fun W g14 => Bx w [(w.heap.size, 72, (t3 x1 y1 z1)), (w.heap.size + 1, 72, (t3 x2 y2 z2)), (w.heap.size + 1 + 1, 67, doL), (g7, 70, (nL v24)), (g8, 70, (nL v31)), (g9, 70, (nL v38)), (g10, 70, (nL v48)), (g11, 70, (nL v58)), (g12, 70, (nL v68)), (g13, 70, (nL v78)), (g14, 70, z4L), (w.heap.size + 1 + 1 + 1, 72, z12L)] W) (fun R1a => ?_) ?_
                      rotate_left
                      · skip
                        refine' mk_restW (K := fun W => Bx w [(w.heap.size, 72, (t3 x1 y1 z1)), (w.heap.size + 1, 72, (t3 x2 y2 z2)), (w.heap.size + 1 + 1, 67, doL), (g7, 70, (nL v24)), (g8, 70, (nL v31)), (g9, 70, (nL v38)), (g10, 70, (nL v48)), (g11, 70, (nL v58)), (g12, 70, (nL v68)), (g13, 70, (nL v78)), (w.heap.size + 1 + 1 + 1, 72, z12L)] W) (fun R1 => ?_) ?_
                        rotate_left
                        · skip
                          refine' mk_restN (K := fun W g14 => Bx w [(w.heap.size, 72, (t3 x1 y1 z1)), (w.heap.size + 1, 72, (t3 x2 y2 z2)), (w.heap.size + 1 + 1, 67, doL), (g7, 70, (nL v24)), (g8, 70, (nL v31)), (g9, 70, (nL v38)), (g10, 70, (nL v48)), (g11, 70, (nL v58)), (g12, 70, (nL v68)), (g13, 70, (nL v78)), (g14, 70, z4L), (w.heap.size + 1 + 1 + 1, 72, z12L)] W) (fun R0a => ?_) ?_
                          rotate_left
                          · skip
                            refine wpAnyH_ready (rs := [8, 16]) (by kernel_rfl) (by simp) ?_
                            refine (AllReadyH.cons rfl (fun Kq hKq => ?_) (AllReadyH.cons rfl (fun Kq hKq => ?_) AllReadyH.nil))
                            · go_simp
                              refine (C87.out _).mono ?_
                              rintro e U134 ⟨rfl, LB⟩
                              have hS := hS.below LB
                              clear LB
                              refine hKq.out _ _ (hS.pre 10) (fun _ => ?_)
                              clear hKq Kq
                              exact R1.out U134 hS
                            · go_simp
                              have hS' := hS.newAt 10 U133.heap.size rfl 70 z4L #[.int .u64 0, .int .u64 0, .int .u64 0, .int .u64 0] rfl
                              refine hKq.out _ _ (hS'.pre 10) (fun _ => ?_)
                              clear hKq Kq
                              generalize U133.alloc (.cells #[.int .u64 0, .int .u64 0, .int .u64 0, .int .u64 0] 70) = U135 at hS' ⊢
                              generalize U133.heap.size = g14 at hS' ⊢
                              exact R0a.out U135 g14 hS'
                          · rintro U136 g14 hS
                            refine wpAnyH_ready (rs := [8]) (by kernel_rfl) (by simp) ?_
                            refine (AllReadyH.cons rfl (fun Kq hKq => ?_) AllReadyH.nil)
                            · go_simp
                              refine (C87.out _).mono ?_
                              rintro e U137 ⟨rfl, LB⟩
                              have hS := hS.below LB
                              clear LB
                              refine hKq.out _ _ (hS.pre 10) (fun _ => ?_)
                              clear hKq Kq
                              exact R1a.out U137 g14 hS
                        · rintro U138 hS
                          refine wpAnyH_ready (rs := [10, 16]) (by kernel_rfl) (by simp) ?_
                          refine (AllReadyH.cons rfl (fun Kq hKq => ?_) (AllReadyH.cons rfl (fun Kq hKq => ?_) AllReadyH.nil))
                          · go_simp
                            refine (C89.out _).mono ?_
                            rintro e U139 ⟨rfl, LB⟩
                            have hS := hS.below LB
                            clear LB
                            refine hKq.out _ _ (hS.pre 10) (fun _ => ?_)
                            clear hKq Kq
                            exact R2.out U139 hS
                          · go_simp
                            have hS' := hS.newAt 10 U138.heap.size rfl 70 z4L #[.int .u64 0, .int .u64 0, .int .u64 0, .int .u64 0] rfl
                            refine hKq.out _ _ (hS'.pre 10) (fun _ => ?_)
                            clear hKq Kq
                            generalize U138.alloc (.cells #[.int .u64 0, .int .u64 0, .int .u64 0, .int .u64 0] 70) = U140 at hS' ⊢
                            generalize U138.heap.size = g14 at hS' ⊢
                            exact R1a.out U140 g14 hS'
                      · rintro U141 g14 hS
                        refine wpAnyH_ready (rs := [10]) (by kernel_rfl) (by simp) ?_
                        refine (AllReadyH.cons rfl (fun Kq hKq => ?_) AllReadyH.nil)
                        · go_simp
                          refine (C89.out _).mono ?_
                          rintro e U142 ⟨rfl, LB⟩
                          have hS := hS.below LB
                          clear LB
                          refine hKq.out _ _ (hS.pre 10) (fun _ => ?_)
                          clear hKq Kq
                          exact R2a.out U142 g14 hS
                    · rintro U143 hS
                      refine wpAnyH_ready (rs := [13, 16]) (by kernel_rfl) (by simp) ?_
                      refine (AllReadyH.cons rfl (fun Kq hKq => ?_) (AllReadyH.cons rfl (fun Kq hKq => ?_) AllReadyH.nil))
                      · go_simp
                        refine (C92.out _).mono ?_
                        rintro e U144 ⟨rfl, LB⟩
                        have hS := hS.below LB
                        clear LB
                        refine hKq.out _ _ (hS.pre 10) (fun _ => ?_)
                        clear hKq Kq
                        exact R3.out U144 hS
                      · go_simp
                        have hS' := hS.newAt 10 U143.heap.size rfl 70 z4L #[.int .u64 0, .int .u64 0, .int .u64 0, .int .u64 0] rfl
                        refine hKq.out _ _ (hS'.pre 10) (fun _ => ?_)
                        clear hKq Kq
                        generalize U143.alloc (.cells #[.int .u64 0, .int .u64 0, .int .u64 0, .int .u64 0] 70) = U145 at hS' ⊢
                        generalize U143.heap.size = g14 at hS' ⊢
                        exact R2a.out U145 g14 hS'
                  · rintro U146 g14 hS
                    refine wpAnyH_ready (rs := [13]) (by kernel_rfl) (by simp) ?_
                    refine (AllReadyH.cons rfl (fun Kq hKq => ?_) AllReadyH.nil)
                    · go_simp
                      refine (C92.out _).mono ?_
                      rintro e U147 ⟨rfl, LB⟩
                      have hS := hS.below LB
                      clear LB
                      refine hKq.out _ _ (hS.pre 10) (fun _ => ?_)
                      clear hKq Kq
                      exact R3a.out U147 g14 hS
                · rintro U148 hS
                  refine wpAnyH_ready (rs := [14, 16]) (by kernel_rfl) (by simp) ?_
                  refine (AllReadyH.cons rfl (fun Kq hKq => ?_) (AllReadyH.cons rfl (fun Kq hKq => ?_) AllReadyH.nil))
                  · go_simp
                    refine (C93.out _).mono ?_
                    rintro e U149 ⟨rfl, LB⟩
                    have hS := hS.below LB
                    clear LB
                    refine hKq.out _ _ (hS.pre 10) (fun _ => ?_)
                    clear hKq Kq
                    exact R4.out U149 hS
                  · go_simp
                    have hS' := hS.newAt 10 U148.heap.size rfl 70 z4L #[.int .u64 0, .int .u64 0, .int .u64 0, .int .u64 0] rfl
                    refine hKq.out _ _ (hS'.pre 10) (fun _ => ?_)
                    clear hKq Kq
                    generalize U148.alloc (.cells #[.int .u64 0, .int .u64 0, .int .u64 0, .int .u64 0] 70) = U150 at hS' ⊢
                    generalize U148.heap.size = g14 at hS' ⊢
                    exact R3a.out U150 g14 hS'
              · rintro U151 g14 hS
                refine wpAnyH_ready (rs := [14]) (by kernel_rfl) (by simp) ?_
                refine (AllReadyH.cons rfl (fun Kq hKq => ?_) AllReadyH.nil)
                · go_simp
                  refine (C93.out _).mono ?_
                  rintro e U152 ⟨rfl, LB⟩
                  have hS := hS.below LB
                  clear LB
                  refine hKq.out _ _ (hS.pre 10) (fun _ => ?_)
                  clear hKq Kq
                  exact R4a.out U152 g14 hS
            · rintro U153 hS
              refine wpAnyH_ready (rs := [15, 16]) (by kernel_rfl) (by simp) ?_
              refine (AllReadyH.cons rfl (fun Kq hKq => ?_) (AllReadyH.cons rfl (fun Kq hKq => ?_) AllReadyH.nil))
              · go_simp
                refine (C94.out _).mono ?_
                rintro e U154 ⟨rfl, LB⟩
                have hS := hS.below LB
                clear LB
                refine hKq.out _ _ (hS.pre 10) (fun _ => ?_)
                clear hKq Kq
                exact R5.out U154 hS
              · go_simp
                have hS' := hS.newAt 10 U153.heap.size rfl 70 z4L #[.int .u64 0, .int .u64 0, .int .u64 0, .int .u64 0] rfl
                refine hKq.out _ _ (hS'.pre 10) (fun _ => ?_)
                clear hKq Kq
                generalize U153.alloc (.cells #[.int .u64 0, .int .u64 0, .int .u64 0, .int .u64 0] 70) = U155 at hS' ⊢
                generalize U153.heap.size = g14 at hS' ⊢
                exact R4a.out U155 g14 hS'
          · rintro U156 g14 hS
            refine wpAnyH_ready (rs := [15]) (by kernel_rfl) (by simp) ?_
            refine (AllReadyH.cons rfl (fun Kq hKq => ?_) AllReadyH.nil)
            · go_simp
              refine (C94.out _).mono ?_
              rintro e U157 ⟨rfl, LB⟩
              have hS := hS.below LB
              clear LB
              refine hKq.out _ _ (hS.pre 10) (fun _ => ?_)
              clear hKq Kq
              exact R5a.out U157 g14 hS
        · rintro U158 hS
          refine wpAnyH_ready (rs := [16]) (by kernel_rfl) (by simp) ?_
          refine (AllReadyH.cons rfl (fun Kq hKq => ?_) AllReadyH.nil)
          · go_simp
            have hS' := hS.newAt 10 U158.heap.size rfl 70 z4L #[.int .u64 0, .int .u64 0, .int .u64 0, .int .u64 0] rfl
            refine hKq.out _ _ (hS'.pre 10) (fun _ => ?_)
            clear hKq Kq
            generalize U158.alloc (.cells #[.int .u64 0, .int .u64 0, .int .u64 0, .int .u64 0] 70) = U159 at hS' ⊢
            generalize U158.heap.size = g14 at hS' ⊢
            exact R5a.out U159 g14 hS'
      · rintro U160 g14 hS
        have hst := stN (hS.get 10 rfl) rfl v94
        refine wpAnyH_ready (rs := [17]) (by kernel_rfl) (by simp) ?_
        refine AllReadyH.cons rfl (fun Kq hKq => ?_) AllReadyH.nil
        go_simp
        have hS' : Bx w [(w.heap.size, 72, (t3 x1 y1 z1)), (w.heap.size + 1, 72, (t3 x2 y2 z2)), (w.heap.size + 1 + 1, 67, doL), (g7, 70, (nL v24)), (g8, 70, (nL v31)), (g9, 70, (nL v38)), (g10, 70, (nL v48)), (g11, 70, (nL v58)), (g12, 70, (nL v68)), (g13, 70, (nL v78)), (g14, 70, (nL v94)), (w.heap.size + 1 + 1 + 1, 72, z12L)] (U160.setCells g14 0 (nL v94)) := hS.setAt 10 (nL v94) rfl rfl
        refine hKq.out _ _ (hS'.pre 10) (fun _ => ?_)
        clear hKq Kq hst hS
        have hS := hS'
        clear hS'
        generalize U160.setCells g14 0 (nL v94) = U161 at hS ⊢
        refine wpAnyH_done (by kernel_rfl) ?_ _
        go_wp2
        have hS := hS.drew
        refine wp_region_held_drew (S := Bx w [(w.heap.size, 72, (t3 x1 y1 z1)), (w.heap.size + 1, 72, (t3 x2 y2 z2)), (w.heap.size + 1 + 1, 67, doL), (g7, 70, (nL v24)), (g8, 70, (nL v31)), (g9, 70, (nL v38)), (g10, 70, (nL v48)), (g11, 70, (nL v58)), (g12, 70, (nL v68)), (g13, 70, (nL v78)), (g14, 70, (nL v94))]) (by kernel_rfl) (hS.pre 11) (fun _ => ?_)
        generalize U161.drew = U162 at hS ⊢
        have hP : Bx w [(w.heap.size, 72, (t3 x1 y1 z1)), (w.heap.size + 1, 72, (t3 x2 y2 z2)), (w.heap.size + 1 + 1, 67, doL), (g7, 70, (nL v24)), (g8, 70, (nL v31)), (g9, 70, (nL v38)), (g10, 70, (nL v48)), (g11, 70, (nL v58)), (g12, 70, (nL v68)), (g13, 70, (nL v78)), (g14, 70, (nL v94))] U162 := hS.pre 11
        refine wpAnyH_take (i := 0) (v := ?_) rfl (by kernel_rfl) (by kernel_rfl) (by kernel_rfl) (fun _ _ _ h => h) (Or.inl ⟨by rfl, ?_⟩) (by assumption) ?_
        rotate_left
        · intro wq hSq
          have hl := ldD (hSq.get 2 rfl)
          go_simp
          try with_reducible rfl
        simp only [List.getElem_toArray, List.getElem_cons_zero, Act.put, List.setIfInBounds_toArray, List.set_cons_zero, List.set_cons_succ]
        refine wpAnyH_take (i := 1) (v := ?_) rfl (by kernel_rfl) (by kernel_rfl) (by kernel_rfl) (fun _ _ _ h => h) (Or.inl ⟨by rfl, ?_⟩) (by assumption) ?_
        rotate_left
        · intro wq hSq
          go_simp
          try with_reducible rfl
        simp only [List.getElem_toArray, List.getElem_cons_succ, List.getElem_cons_zero, Act.put, List.setIfInBounds_toArray, List.set_cons_zero, List.set_cons_succ]
        refine wpAnyH_take (i := 2) (v := ?_) rfl (by kernel_rfl) (by kernel_rfl) (by kernel_rfl) (fun _ _ _ h => h) (Or.inl ⟨by rfl, ?_⟩) (by assumption) ?_
        rotate_left
        · intro wq hSq
          have hl := (doC (hSq.get 2 rfl)).2.1
          go_simp
          try with_reducible rfl
        simp only [List.getElem_toArray, List.getElem_cons_succ, List.getElem_cons_zero, Act.put, List.setIfInBounds_toArray, List.set_cons_zero, List.set_cons_succ]
        refine wpAnyH_take (i := 3) (v := ?_) rfl (by kernel_rfl) (by kernel_rfl) (by kernel_rfl) (fun _ _ _ h => h) (Or.inl ⟨by rfl, ?_⟩) (by assumption) ?_
        rotate_left
        · intro wq hSq
          have hl := ldN (hSq.get 3 rfl)
          go_simp
          try with_reducible rfl
        simp only [List.getElem_toArray, List.getElem_cons_succ, List.getElem_cons_zero, Act.put, List.setIfInBounds_toArray, List.set_cons_zero, List.set_cons_succ]
        refine wpAnyH_take (i := 4) (v := ?_) rfl (by kernel_rfl) (by kernel_rfl) (by kernel_rfl) (fun _ _ _ h => h) (Or.inl ⟨by rfl, ?_⟩) (by assumption) ?_
        rotate_left
        · intro wq hSq
          have hl := ldN (hSq.get 5 rfl)
          go_simp
          try with_reducible rfl
        simp only [List.getElem_toArray, List.getElem_cons_succ, List.getElem_cons_zero, Act.put, List.setIfInBounds_toArray, List.set_cons_zero, List.set_cons_succ]
        clear hP
        refine' mk_restN (K := fun W g15 => Bx w [(w.heap.size, 72, (t3 x1 y1 z1)), (w.heap.size + 1, 72, (t3 x2 y2 z2)), (w.heap.size + 1 + 1, 67, doL), (g7, 70, (nL v24)), (g8, 70, (nL v31)), (g9, 70, (nL v38)), (g10, 70, (nL v48)), (g11, 70, (nL v58)), (g12, 70, (nL v68)), (g13, 70, (nL v78)), (g14, 70, (nL v94)), (g15, 70, z4L), (w.heap.size + 1 + 1 + 1, 72, z12L)] W) (fun R2a => ?_) ?_
        rotate_left
        · skip
          refine' mk_restW (K := fun W => Bx w [(w.heap.size, 72, (t3 x1 y1 z1)), (w.heap.size + 1, 72, (t3 x2 y2 z2)), (w.heap.size + 1 + 1, 67, doL), (g7, 70, (nL v24)), (g8, 70, (nL v31)), (g9, 70, (nL v38)), (g10, 70, (nL v48)), (g11, 70, (nL v58)), (g12, 70, (nL v68)), (g13, 70, (nL v78)), (g14, 70, (nL v94)), (w.heap.size + 1 + 1 + 1, 72, z12L)] W) (fun R2 => ?_) ?_
          rotate_left
          · skip
            refine' mk_restN (K := fun W g15 => Bx w [(w.heap.size, 72, (t3 x1 y1 z1)), (w.heap.size + 1, 72, (t3 x2 y2 z2)), (w.heap.size + 1 + 1, 67, doL), (g7, 70, (nL v24)), (g8, 70, (nL v31)), (g9, 70, (nL v38)), (g10, 70, (nL v48)), (g11, 70, (nL v58)), (g12, 70, (nL v68)), (g13, 70, (nL v78)), (g14, 70, (nL v94)), (g15, 70, z4L), (w.heap.size + 1 + 1 + 1, 72, z12L)] W) (fun R1a => ?_) ?_
            rotate_left
            · skip
              refine' mk_restW (K := fun W => Bx w [(w.heap.size, 72, (t3 x1 y1 z1)), (w.heap.size + 1, 72, (t3 x2 y2 z2)), (w.heap.size + 1 + 1, 67, doL), (g7, 70, (nL v24)), (g8, 70, (nL v31)), (g9, 70, (nL v38)), (g10, 70, (nL v48)), (g11, 70, (nL v58)), (g12, 70, (nL v68)), (g13, 70, (nL v78)), (g14, 70, (nL v94)), (w.heap.size + 1 + 1 + 1, 72, z12L)] W) (fun R1 => ?_) ?_
              rotate_left
              · skip
                refine' mk_restN (K := fun W g15 => Bx w [(w.heap.size, 72, (t3 x1 y1 z1)), (w.heap.size + 1, 72, (t3 x2 y2 z2)), (w.heap.size + 1 + 1, 67, doL), (g7, 70, (nL v24)), (g8, 70, (nL v31)), (g9, 70, (nL v38)), (g10, 70, (nL v48)), (g11, 70, (nL v58)), (g12, 70, (nL v68)), (g13, 70, (nL v78)), (g14, 70, (nL v94)), (g15, 70, z4L), (w.heap.size + 1 + 1 + 1, 72, z12L)] W) (fun R0a => ?_) ?_
                rotate_left
                · skip
                  refine wpAnyH_ready (rs := [5, 7]) (by kernel_rfl) (by simp) ?_
                  refine (AllReadyH.cons rfl (fun Kq hKq => ?_) (AllReadyH.cons rfl (fun Kq hKq => ?_) AllReadyH.nil))
                  · go_simp
                    refine (C100.out _).mono ?_
                    rintro e U163 ⟨rfl, LB⟩
                    have hS := hS.below LB
                    clear LB
                    refine hKq.out _ _ (hS.pre 11) (fun _ => ?_)
                    clear hKq Kq
                    exact R1.out U163 hS
                  · go_simp
                    have hS' := hS.newAt 11 U162.heap.size rfl 70 z4L #[.int .u64 0, .int .u64 0, .int .u64 0, .int .u64 0] rfl
                    refine hKq.out _ _ (hS'.pre 11) (fun _ => ?_)
                    clear hKq Kq
                    generalize U162.alloc (.cells #[.int .u64 0, .int .u64 0, .int .u64 0, .int .u64 0] 70) = U164 at hS' ⊢
                    generalize U162.heap.size = g15 at hS' ⊢
                    exact R0a.out U164 g15 hS'
                · rintro U165 g15 hS
                  refine wpAnyH_ready (rs := [5]) (by kernel_rfl) (by simp) ?_
                  refine (AllReadyH.cons rfl (fun Kq hKq => ?_) AllReadyH.nil)
                  · go_simp
                    refine (C100.out _).mono ?_
                    rintro e U166 ⟨rfl, LB⟩
                    have hS := hS.below LB
                    clear LB
                    refine hKq.out _ _ (hS.pre 11) (fun _ => ?_)
                    clear hKq Kq
                    exact R1a.out U166 g15 hS
              · rintro U167 hS
                refine wpAnyH_ready (rs := [6, 7]) (by kernel_rfl) (by simp) ?_
                refine (AllReadyH.cons rfl (fun Kq hKq => ?_) (AllReadyH.cons rfl (fun Kq hKq => ?_) AllReadyH.nil))
                · go_simp
                  refine (C101.out _).mono ?_
                  rintro e U168 ⟨rfl, LB⟩
                  have hS := hS.below LB
                  clear LB
                  refine hKq.out _ _ (hS.pre 11) (fun _ => ?_)
                  clear hKq Kq
                  exact R2.out U168 hS
                · go_simp
                  have hS' := hS.newAt 11 U167.heap.size rfl 70 z4L #[.int .u64 0, .int .u64 0, .int .u64 0, .int .u64 0] rfl
                  refine hKq.out _ _ (hS'.pre 11) (fun _ => ?_)
                  clear hKq Kq
                  generalize U167.alloc (.cells #[.int .u64 0, .int .u64 0, .int .u64 0, .int .u64 0] 70) = U169 at hS' ⊢
                  generalize U167.heap.size = g15 at hS' ⊢
                  exact R1a.out U169 g15 hS'
            · rintro U170 g15 hS
              refine wpAnyH_ready (rs := [6]) (by kernel_rfl) (by simp) ?_
              refine (AllReadyH.cons rfl (fun Kq hKq => ?_) AllReadyH.nil)
              · go_simp
                refine (C101.out _).mono ?_
                rintro e U171 ⟨rfl, LB⟩
                have hS := hS.below LB
                clear LB
                refine hKq.out _ _ (hS.pre 11) (fun _ => ?_)
                clear hKq Kq
                exact R2a.out U171 g15 hS
          · rintro U172 hS
            refine wpAnyH_ready (rs := [7]) (by kernel_rfl) (by simp) ?_
            refine (AllReadyH.cons rfl (fun Kq hKq => ?_) AllReadyH.nil)
            · go_simp
              have hS' := hS.newAt 11 U172.heap.size rfl 70 z4L #[.int .u64 0, .int .u64 0, .int .u64 0, .int .u64 0] rfl
              refine hKq.out _ _ (hS'.pre 11) (fun _ => ?_)
              clear hKq Kq
              generalize U172.alloc (.cells #[.int .u64 0, .int .u64 0, .int .u64 0, .int .u64 0] 70) = U173 at hS' ⊢
              generalize U172.heap.size = g15 at hS' ⊢
              exact R2a.out U173 g15 hS'
        · rintro U174 g15 hS
          have hst := stN (hS.get 11 rfl) rfl v101
          refine wpAnyH_ready (rs := [8]) (by kernel_rfl) (by simp) ?_
          refine AllReadyH.cons rfl (fun Kq hKq => ?_) AllReadyH.nil
          go_simp
          have hS' : Bx w [(w.heap.size, 72, (t3 x1 y1 z1)), (w.heap.size + 1, 72, (t3 x2 y2 z2)), (w.heap.size + 1 + 1, 67, doL), (g7, 70, (nL v24)), (g8, 70, (nL v31)), (g9, 70, (nL v38)), (g10, 70, (nL v48)), (g11, 70, (nL v58)), (g12, 70, (nL v68)), (g13, 70, (nL v78)), (g14, 70, (nL v94)), (g15, 70, (nL v101)), (w.heap.size + 1 + 1 + 1, 72, z12L)] (U174.setCells g15 0 (nL v101)) := hS.setAt 11 (nL v101) rfl rfl
          refine hKq.out _ _ (hS'.pre 11) (fun _ => ?_)
          clear hKq Kq hst hS
          have hS := hS'
          clear hS'
          generalize U174.setCells g15 0 (nL v101) = U175 at hS ⊢
          refine wpAnyH_done (by kernel_rfl) ?_ _
          go_wp2
          have hS := hS.drew
          refine wp_region_held_drew (S := Bx w [(w.heap.size, 72, (t3 x1 y1 z1)), (w.heap.size + 1, 72, (t3 x2 y2 z2)), (w.heap.size + 1 + 1, 67, doL), (g7, 70, (nL v24)), (g8, 70, (nL v31)), (g9, 70, (nL v38)), (g10, 70, (nL v48)), (g11, 70, (nL v58)), (g12, 70, (nL v68)), (g13, 70, (nL v78)), (g14, 70, (nL v94)), (g15, 70, (nL v101))]) (by kernel_rfl) (hS.pre 12) (fun _ => ?_)
          generalize U175.drew = U176 at hS ⊢
          have hP : Bx w [(w.heap.size, 72, (t3 x1 y1 z1)), (w.heap.size + 1, 72, (t3 x2 y2 z2)), (w.heap.size + 1 + 1, 67, doL), (g7, 70, (nL v24)), (g8, 70, (nL v31)), (g9, 70, (nL v38)), (g10, 70, (nL v48)), (g11, 70, (nL v58)), (g12, 70, (nL v68)), (g13, 70, (nL v78)), (g14, 70, (nL v94)), (g15, 70, (nL v101))] U176 := hS.pre 12
          refine wpAnyH_take (i := 0) (v := ?_) rfl (by kernel_rfl) (by kernel_rfl) (by kernel_rfl) (fun _ _ _ h => h) (Or.inl ⟨by rfl, ?_⟩) (by assumption) ?_
          rotate_left
          · intro wq hSq
            go_simp
            try with_reducible rfl
          simp only [List.getElem_toArray, List.getElem_cons_zero, Act.put, List.setIfInBounds_toArray, List.set_cons_zero, List.set_cons_succ]
          refine wpAnyH_take (i := 1) (v := ?_) rfl (by kernel_rfl) (by kernel_rfl) (by kernel_rfl) (fun _ _ _ h => h) (Or.inl ⟨by rfl, ?_⟩) (by assumption) ?_
          rotate_left
          · intro wq hSq
            have hl := (doC (hSq.get 2 rfl)).1
            go_simp
            try with_reducible rfl
          simp only [List.getElem_toArray, List.getElem_cons_succ, List.getElem_cons_zero, Act.put, List.setIfInBounds_toArray, List.set_cons_zero, List.set_cons_succ]
          refine wpAnyH_take (i := 2) (v := ?_) rfl (by kernel_rfl) (by kernel_rfl) (by kernel_rfl) (fun _ _ _ h => h) (Or.inl ⟨by rfl, ?_⟩) (by assumption) ?_
          rotate_left
          · intro wq hSq
            have hl := ldN (hSq.get 4 rfl)
            go_simp
            try with_reducible rfl
          simp only [List.getElem_toArray, List.getElem_cons_succ, List.getElem_cons_zero, Act.put, List.setIfInBounds_toArray, List.set_cons_zero, List.set_cons_succ]
          refine wpAnyH_take (i := 3) (v := ?_) rfl (by kernel_rfl) (by kernel_rfl) (by kernel_rfl) (fun _ _ _ h => h) (Or.inl ⟨by rfl, ?_⟩) (by assumption) ?_
          rotate_left
          · intro wq hSq
            have hl := ldN (hSq.get 9 rfl)
            go_simp
            try with_reducible rfl
          simp only [List.getElem_toArray, List.getElem_cons_succ, List.getElem_cons_zero, Act.put, List.setIfInBounds_toArray, List.set_cons_zero, List.set_cons_succ]
          refine wpAnyH_take (i := 5) (v := ?_) rfl (by kernel_rfl) (by kernel_rfl) (by kernel_rfl) (fun _ _ _ h => h) (Or.inl ⟨by rfl, ?_⟩) (by assumption) ?_
          rotate_left
          · intro wq hSq
            go_simp
            try with_reducible rfl
          simp only [List.getElem_toArray, List.getElem_cons_succ, List.getElem_cons_zero, Act.put, List.setIfInBounds_toArray, List.set_cons_zero, List.set_cons_succ]
          refine wpAnyH_take (i := 6) (v := ?_) rfl (by kernel_rfl) (by kernel_rfl) (by kernel_rfl) (fun _ _ _ h => h) (Or.inl ⟨by rfl, ?_⟩) (by assumption) ?_
          rotate_left
          · intro wq hSq
            have hl := (doC (hSq.get 2 rfl)).2.1
            go_simp
            try with_reducible rfl
          simp only [List.getElem_toArray, List.getElem_cons_succ, List.getElem_cons_zero, Act.put, List.setIfInBounds_toArray, List.set_cons_zero, List.set_cons_succ]
          refine wpAnyH_take (i := 7) (v := ?_) rfl (by kernel_rfl) (by kernel_rfl) (by kernel_rfl) (fun _ _ _ h => h) (Or.inl ⟨by rfl, ?_⟩) (by assumption) ?_
          rotate_left
          · intro wq hSq
            have hl := ldN (hSq.get 4 rfl)
            go_simp
            try with_reducible rfl
          simp only [List.getElem_toArray, List.getElem_cons_succ, List.getElem_cons_zero, Act.put, List.setIfInBounds_toArray, List.set_cons_zero, List.set_cons_succ]
          refine wpAnyH_take (i := 8) (v := ?_) rfl (by kernel_rfl) (by kernel_rfl) (by kernel_rfl) (fun _ _ _ h => h) (Or.inl ⟨by rfl, ?_⟩) (by assumption) ?_
          rotate_left
          · intro wq hSq
            have hl := ldN (hSq.get 9 rfl)
            go_simp
            try with_reducible rfl
          simp only [List.getElem_toArray, List.getElem_cons_succ, List.getElem_cons_zero, Act.put, List.setIfInBounds_toArray, List.set_cons_zero, List.set_cons_succ]
          clear hP
          refine' mk_rest2 (K := fun W g16 g17 => Bx w [(w.heap.size, 72, (t3 x1 y1 z1)), (w.heap.size + 1, 72, (t3 x2 y2 z2)), (w.heap.size + 1 + 1, 67, doL), (g7, 70, (nL v24)), (g8, 70, (nL v31)), (g9, 70, (nL v38)), (g10, 70, (nL v48)), (g11, 70, (nL v58)), (g12, 70, (nL v68)), (g13, 70, (nL v78)), (g14, 70, (nL v94)), (g15, 70, (nL v101)), (g16, 70, z4L), (g17, 70, z4L), (w.heap.size + 1 + 1 + 1, 72, z12L)] W) (fun R2ab => ?_) ?_
          rotate_left
          · skip
            refine' mk_restN (K := fun W g17 => Bx w [(w.heap.size, 72, (t3 x1 y1 z1)), (w.heap.size + 1, 72, (t3 x2 y2 z2)), (w.heap.size + 1 + 1, 67, doL), (g7, 70, (nL v24)), (g8, 70, (nL v31)), (g9, 70, (nL v38)), (g10, 70, (nL v48)), (g11, 70, (nL v58)), (g12, 70, (nL v68)), (g13, 70, (nL v78)), (g14, 70, (nL v94)), (g15, 70, (nL v101)), (g17, 70, z4L), (w.heap.size + 1 + 1 + 1, 72, z12L)] W) (fun R2b => ?_) ?_
            rotate_left
            · skip
              refine' mk_restN (K := fun W g16 => Bx w [(w.heap.size, 72, (t3 x1 y1 z1)), (w.heap.size + 1, 72, (t3 x2 y2 z2)), (w.heap.size + 1 + 1, 67, doL), (g7, 70, (nL v24)), (g8, 70, (nL v31)), (g9, 70, (nL v38)), (g10, 70, (nL v48)), (g11, 70, (nL v58)), (g12, 70, (nL v68)), (g13, 70, (nL v78)), (g14, 70, (nL v94)), (g15, 70, (nL v101)), (g16, 70, z4L), (w.heap.size + 1 + 1 + 1, 72, z12L)] W) (fun R2a => ?_) ?_
              rotate_left
              · skip
                refine' mk_rest2 (K := fun W g16 g17 => Bx w [(w.heap.size, 72, (t3 x1 y1 z1)), (w.heap.size + 1, 72, (t3 x2 y2 z2)), (w.heap.size + 1 + 1, 67, doL), (g7, 70, (nL v24)), (g8, 70, (nL v31)), (g9, 70, (nL v38)), (g10, 70, (nL v48)), (g11, 70, (nL v58)), (g12, 70, (nL v68)), (g13, 70, (nL v78)), (g14, 70, (nL v94)), (g15, 70, (nL v101)), (g16, 70, z4L), (g17, 70, z4L), (w.heap.size + 1 + 1 + 1, 72, z12L)] W) (fun R1ab => ?_) ?_
                rotate_left
                · skip
                  refine' mk_restW (K := fun W => Bx w [(w.heap.size, 72, (t3 x1 y1 z1)), (w.heap.size + 1, 72, (t3 x2 y2 z2)), (w.heap.size + 1 + 1, 67, doL), (g7, 70, (nL v24)), (g8, 70, (nL v31)), (g9, 70, (nL v38)), (g10, 70, (nL v48)), (g11, 70, (nL v58)), (g12, 70, (nL v68)), (g13, 70, (nL v78)), (g14, 70, (nL v94)), (g15, 70, (nL v101)), (w.heap.size + 1 + 1 + 1, 72, z12L)] W) (fun R2 => ?_) ?_
                  rotate_left
                  · skip
                    refine' mk_restN (K := fun W g17 => Bx w [(w.heap.size, 72, (t3 x1 y1 z1)), (w.heap.size + 1, 72, (t3 x2 y2 z2)), (w.heap.size + 1 + 1, 67, doL), (g7, 70, (nL v24)), (g8, 70, (nL v31)), (g9, 70, (nL v38)), (g10, 70, (nL v48)), (g11, 70, (nL v58)), (g12, 70, (nL v68)), (g13, 70, (nL v78)), (g14, 70, (nL v94)), (g15, 70, (nL v101)), (g17, 70, z4L), (w.heap.size + 1 + 1 + 1, 72, z12L)] W) (fun R1b => ?_) ?_
                    rotate_left
                    · skip
                      refine' mk_restN (K := fun W g16 => Bx w [(w.heap.size, 72, (t3 x1 y1 z1)), (w.heap.size + 1, 72, (t3 x2 y2 z2)), (w.heap.size + 1 + 1, 67, doL), (g7, 70, (nL v24)), (g8, 70, (nL v31)), (g9, 70, (nL v38)), (g10, 70, (nL v48)), (g11, 70, (nL v58)), (g12, 70, (nL v68)), (g13, 70, (nL v78)), (g14, 70, (nL v94)), (g15, 70, (nL v101)), (g16, 70, z4L), (w.heap.size + 1 + 1 + 1, 72, z12L)] W) (fun R1a => ?_) ?_
                      rotate_left
                      · skip
                        refine' mk_rest2 (K := fun W g16 g17 => Bx w [(w.heap.size, 72, (t3 x1 y1 z1)), (w.heap.size + 1, 72, (t3 x2 y2 z2)), (w.heap.size + 1 + 1, 67, doL), (g7, 70, (nL v24)), (g8, 70, (nL v31)), (g9, 70, (nL v38)), (g10, 70, (nL v48)), (g11, 70, (nL v58)), (g12, 70, (nL v68)), (g13, 70, (nL v78)), (g14, 70, (nL v94)), (g15, 70, (nL v101)), (g16, 70, z4L), (g17, 70, z4L), (w.heap.size + 1 + 1 + 1, 72, z12L)] W) (fun R0ab => ?_) ?_
                        rotate_left
                        · skip
                          refine' mk_restW (K := fun W => Bx w [(w.heap.size, 72, (t3 x1 y1 z1)), (w.heap.size + 1, 72, (t3 x2 y2 z2)), (w.heap.size + 1 + 1, 67, doL), (g7, 70, (nL v24)), (g8, 70, (nL v31)), (g9, 70, (nL v38)), (g10, 70, (nL v48)), (g11, 70, (nL v58)), (g12, 70, (nL v68)), (g13, 70, (nL v78)), (g14, 70, (nL v94)), (g15, 70, (nL v101)), (w.heap.size + 1 + 1 + 1, 72, z12L)] W) (fun R1 => ?_) ?_
                          rotate_left
                          · skip
                            refine' mk_restN (K := fun W g17 => Bx w [(w.heap.size, 72, (t3 x1 y1 z1)), (w.heap.size + 1, 72, (t3 x2 y2 z2)), (w.heap.size + 1 + 1, 67, doL), (g7, 70, (nL v24)), (g8, 70, (nL v31)), (g9, 70, (nL v38)), (g10, 70, (nL v48)), (g11, 70, (nL v58)), (g12, 70, (nL v68)), (g13, 70, (nL v78)), (g14, 70, (nL v94)), (g15, 70, (nL v101)), (g17, 70, z4L), (w.heap.size + 1 + 1 + 1, 72, z12L)] W) (fun R0b => ?_) ?_
                            rotate_left
                            · skip
                              refine' mk_restN (K := fun W g16 => Bx w [(w.heap.size, 72, (t3 x1 y1 z1)), (w.heap.size + 1, 72, (t3 x2 y2 z2)), (w.heap.size + 1 + 1, 67, doL), (g7, 70, (nL v24)), (g8, 70, (nL v31)), (g9, 70, (nL v38)), (g10, 70, (nL v48)), (g11, 70, (nL v58)), (g12, 70, (nL v68)), (g13, 70, (nL v78)), (g14, 70, (nL v94)), (g15, 70, (nL v101)), (g16, 70, z4L), (w.heap.size + 1 + 1 + 1, 72, z12L)] W) (fun R0a => ?_) ?_
                              rotate_left
                              · skip
                                refine wpAnyH_ready (rs := [4, 10, 11]) (by kernel_rfl) (by simp) ?_
                                refine (AllReadyH.cons rfl (fun Kq hKq => ?_) (AllReadyH.cons rfl (fun Kq hKq => ?_) (AllReadyH.cons rfl (fun Kq hKq => ?_) AllReadyH.nil)))
                                · go_simp
                                  refine (C106.out _).mono ?_
                                  rintro e U177 ⟨rfl, LB⟩
                                  have hS := hS.below LB
                                  clear LB
                                  refine hKq.out _ _ (hS.pre 12) (fun _ => ?_)
                                  clear hKq Kq
                                  exact R1.out U177 hS
                                · go_simp
                                  have hS' := hS.newAt 12 U176.heap.size rfl 70 z4L #[.int .u64 0, .int .u64 0, .int .u64 0, .int .u64 0] rfl
                                  refine hKq.out _ _ (hS'.pre 12) (fun _ => ?_)
                                  clear hKq Kq
                                  generalize U176.alloc (.cells #[.int .u64 0, .int .u64 0, .int .u64 0, .int .u64 0] 70) = U178 at hS' ⊢
                                  generalize U176.heap.size = g16 at hS' ⊢
                                  exact R0a.out U178 g16 hS'
                                · go_simp
                                  have hS' := hS.newAt 12 U176.heap.size rfl 70 z4L #[.int .u64 0, .int .u64 0, .int .u64 0, .int .u64 0] rfl
                                  refine hKq.out _ _ (hS'.pre 12) (fun _ => ?_)
                                  clear hKq Kq
                                  generalize U176.alloc (.cells #[.int .u64 0, .int .u64 0, .int .u64 0, .int .u64 0] 70) = U179 at hS' ⊢
                                  generalize U176.heap.size = g17 at hS' ⊢
                                  exact R0b.out U179 g17 hS'
                              · rintro U180 g16 hS
                                refine wpAnyH_ready (rs := [4, 11]) (by kernel_rfl) (by simp) ?_
                                refine (AllReadyH.cons rfl (fun Kq hKq => ?_) (AllReadyH.cons rfl (fun Kq hKq => ?_) AllReadyH.nil))
                                · go_simp
                                  refine (C106.out _).mono ?_
                                  rintro e U181 ⟨rfl, LB⟩
                                  have hS := hS.below LB
                                  clear LB
                                  refine hKq.out _ _ (hS.pre 12) (fun _ => ?_)
                                  clear hKq Kq
                                  exact R1a.out U181 g16 hS
                                · go_simp
                                  have hS' := hS.newAt 13 U180.heap.size rfl 70 z4L #[.int .u64 0, .int .u64 0, .int .u64 0, .int .u64 0] rfl
                                  refine hKq.out _ _ (hS'.pre 12) (fun _ => ?_)
                                  clear hKq Kq
                                  generalize U180.alloc (.cells #[.int .u64 0, .int .u64 0, .int .u64 0, .int .u64 0] 70) = U182 at hS' ⊢
                                  generalize U180.heap.size = g17 at hS' ⊢
                                  exact R0ab.out U182 g16 g17 hS'
                            · rintro U183 g17 hS
                              refine wpAnyH_ready (rs := [4, 10]) (by kernel_rfl) (by simp) ?_
                              refine (AllReadyH.cons rfl (fun Kq hKq => ?_) (AllReadyH.cons rfl (fun Kq hKq => ?_) AllReadyH.nil))
                              · go_simp
                                refine (C106.out _).mono ?_
                                rintro e U184 ⟨rfl, LB⟩
                                have hS := hS.below LB
                                clear LB
                                refine hKq.out _ _ (hS.pre 12) (fun _ => ?_)
                                clear hKq Kq
                                exact R1b.out U184 g17 hS
                              · go_simp
                                have hS' := hS.newAt 12 U183.heap.size rfl 70 z4L #[.int .u64 0, .int .u64 0, .int .u64 0, .int .u64 0] rfl
                                refine hKq.out _ _ (hS'.pre 12) (fun _ => ?_)
                                clear hKq Kq
                                generalize U183.alloc (.cells #[.int .u64 0, .int .u64 0, .int .u64 0, .int .u64 0] 70) = U185 at hS' ⊢
                                generalize U183.heap.size = g16 at hS' ⊢
                                exact R0ab.out U185 g16 g17 hS'
                          · rintro U186 hS
                            refine wpAnyH_ready (rs := [9, 10, 11]) (by kernel_rfl) (by simp) ?_
                            refine (AllReadyH.cons rfl (fun Kq hKq => ?_) (AllReadyH.cons rfl (fun Kq hKq => ?_) (AllReadyH.cons rfl (fun Kq hKq => ?_) AllReadyH.nil)))
                            · go_simp
                              refine (C111.out _).mono ?_
                              rintro e U187 ⟨rfl, LB⟩
                              have hS := hS.below LB
                              clear LB
                              refine hKq.out _ _ (hS.pre 12) (fun _ => ?_)
                              clear hKq Kq
                              exact R2.out U187 hS
                            · go_simp
                              have hS' := hS.newAt 12 U186.heap.size rfl 70 z4L #[.int .u64 0, .int .u64 0, .int .u64 0, .int .u64 0] rfl
                              refine hKq.out _ _ (hS'.pre 12) (fun _ => ?_)
                              clear hKq Kq
                              generalize U186.alloc (.cells #[.int .u64 0, .int .u64 0, .int .u64 0, .int .u64 0] 70) = U188 at hS' ⊢
                              generalize U186.heap.size = g16 at hS' ⊢
                              exact R1a.out U188 g16 hS'
                            · go_simp
                              have hS' := hS.newAt 12 U186.heap.size rfl 70 z4L #[.int .u64 0, .int .u64 0, .int .u64 0, .int .u64 0] rfl
                              refine hKq.out _ _ (hS'.pre 12) (fun _ => ?_)
                              clear hKq Kq
                              generalize U186.alloc (.cells #[.int .u64 0, .int .u64 0, .int .u64 0, .int .u64 0] 70) = U189 at hS' ⊢
                              generalize U186.heap.size = g17 at hS' ⊢
                              exact R1b.out U189 g17 hS'
                        · rintro U190 g16 g17 hS
                          refine wpAnyH_ready (rs := [4]) (by kernel_rfl) (by simp) ?_
                          refine (AllReadyH.cons rfl (fun Kq hKq => ?_) AllReadyH.nil)
                          · go_simp
                            refine (C106.out _).mono ?_
                            rintro e U191 ⟨rfl, LB⟩
                            have hS := hS.below LB
                            clear LB
                            refine hKq.out _ _ (hS.pre 12) (fun _ => ?_)
                            clear hKq Kq
                            exact R1ab.out U191 g16 g17 hS
                      · rintro U192 g16 hS
                        refine wpAnyH_ready (rs := [9, 11]) (by kernel_rfl) (by simp) ?_
                        refine (AllReadyH.cons rfl (fun Kq hKq => ?_) (AllReadyH.cons rfl (fun Kq hKq => ?_) AllReadyH.nil))
                        · go_simp
                          refine (C111.out _).mono ?_
                          rintro e U193 ⟨rfl, LB⟩
                          have hS := hS.below LB
                          clear LB
                          refine hKq.out _ _ (hS.pre 12) (fun _ => ?_)
                          clear hKq Kq
                          exact R2a.out U193 g16 hS
                        · go_simp
                          have hS' := hS.newAt 13 U192.heap.size rfl 70 z4L #[.int .u64 0, .int .u64 0, .int .u64 0, .int .u64 0] rfl
                          refine hKq.out _ _ (hS'.pre 12) (fun _ => ?_)
                          clear hKq Kq
                          generalize U192.alloc (.cells #[.int .u64 0, .int .u64 0, .int .u64 0, .int .u64 0] 70) = U194 at hS' ⊢
                          generalize U192.heap.size = g17 at hS' ⊢
                          exact R1ab.out U194 g16 g17 hS'
                    · rintro U195 g17 hS
                      refine wpAnyH_ready (rs := [9, 10]) (by kernel_rfl) (by simp) ?_
                      refine (AllReadyH.cons rfl (fun Kq hKq => ?_) (AllReadyH.cons rfl (fun Kq hKq => ?_) AllReadyH.nil))
                      · go_simp
                        refine (C111.out _).mono ?_
                        rintro e U196 ⟨rfl, LB⟩
                        have hS := hS.below LB
                        clear LB
                        refine hKq.out _ _ (hS.pre 12) (fun _ => ?_)
                        clear hKq Kq
                        exact R2b.out U196 g17 hS
                      · go_simp
                        have hS' := hS.newAt 12 U195.heap.size rfl 70 z4L #[.int .u64 0, .int .u64 0, .int .u64 0, .int .u64 0] rfl
                        refine hKq.out _ _ (hS'.pre 12) (fun _ => ?_)
                        clear hKq Kq
                        generalize U195.alloc (.cells #[.int .u64 0, .int .u64 0, .int .u64 0, .int .u64 0] 70) = U197 at hS' ⊢
                        generalize U195.heap.size = g16 at hS' ⊢
                        exact R1ab.out U197 g16 g17 hS'
                  · rintro U198 hS
                    refine wpAnyH_ready (rs := [10, 11]) (by kernel_rfl) (by simp) ?_
                    refine (AllReadyH.cons rfl (fun Kq hKq => ?_) (AllReadyH.cons rfl (fun Kq hKq => ?_) AllReadyH.nil))
                    · go_simp
                      have hS' := hS.newAt 12 U198.heap.size rfl 70 z4L #[.int .u64 0, .int .u64 0, .int .u64 0, .int .u64 0] rfl
                      refine hKq.out _ _ (hS'.pre 12) (fun _ => ?_)
                      clear hKq Kq
                      generalize U198.alloc (.cells #[.int .u64 0, .int .u64 0, .int .u64 0, .int .u64 0] 70) = U199 at hS' ⊢
                      generalize U198.heap.size = g16 at hS' ⊢
                      exact R2a.out U199 g16 hS'
                    · go_simp
                      have hS' := hS.newAt 12 U198.heap.size rfl 70 z4L #[.int .u64 0, .int .u64 0, .int .u64 0, .int .u64 0] rfl
                      refine hKq.out _ _ (hS'.pre 12) (fun _ => ?_)
                      clear hKq Kq
                      generalize U198.alloc (.cells #[.int .u64 0, .int .u64 0, .int .u64 0, .int .u64 0] 70) = U200 at hS' ⊢
                      generalize U198.heap.size = g17 at hS' ⊢
                      exact R2b.out U200 g17 hS'
                · rintro U201 g16 g17 hS
                  refine wpAnyH_ready (rs := [9]) (by kernel_rfl) (by simp) ?_
                  refine (AllReadyH.cons rfl (fun Kq hKq => ?_) AllReadyH.nil)
                  · go_simp
                    refine (C111.out _).mono ?_
                    rintro e U202 ⟨rfl, LB⟩
                    have hS := hS.below LB
                    clear LB
                    refine hKq.out _ _ (hS.pre 12) (fun _ => ?_)
                    clear hKq Kq
                    exact R2ab.out U202 g16 g17 hS
              · rintro U203 g16 hS
                refine wpAnyH_ready (rs := [11]) (by kernel_rfl) (by simp) ?_
                refine (AllReadyH.cons rfl (fun Kq hKq => ?_) AllReadyH.nil)
                · go_simp
                  have hS' := hS.newAt 13 U203.heap.size rfl 70 z4L #[.int .u64 0, .int .u64 0, .int .u64 0, .int .u64 0] rfl
                  refine hKq.out _ _ (hS'.pre 12) (fun _ => ?_)
                  clear hKq Kq
                  generalize U203.alloc (.cells #[.int .u64 0, .int .u64 0, .int .u64 0, .int .u64 0] 70) = U204 at hS' ⊢
                  generalize U203.heap.size = g17 at hS' ⊢
                  exact R2ab.out U204 g16 g17 hS'
            · rintro U205 g17 hS
              refine wpAnyH_ready (rs := [10]) (by kernel_rfl) (by simp) ?_
              refine (AllReadyH.cons rfl (fun Kq hKq => ?_) AllReadyH.nil)
              · go_simp
                have hS' := hS.newAt 12 U205.heap.size rfl 70 z4L #[.int .u64 0, .int .u64 0, .int .u64 0, .int .u64 0] rfl
                refine hKq.out _ _ (hS'.pre 12) (fun _ => ?_)
                clear hKq Kq
                generalize U205.alloc (.cells #[.int .u64 0, .int .u64 0, .int .u64 0, .int .u64 0] 70) = U206 at hS' ⊢
                generalize U205.heap.size = g16 at hS' ⊢
                exact R2ab.out U206 g16 g17 hS'
          · rintro U207 g16 g17 hS
            have hst := stN (hS.get 12 rfl) rfl v106
            refine wpAnyH_ready (rs := [12]) (by kernel_rfl) (by simp) ?_
            refine AllReadyH.cons rfl (fun Kq hKq => ?_) AllReadyH.nil
            go_simp
            have hS' : Bx w [(w.heap.size, 72, (t3 x1 y1 z1)), (w.heap.size + 1, 72, (t3 x2 y2 z2)), (w.heap.size + 1 + 1, 67, doL), (g7, 70, (nL v24)), (g8, 70, (nL v31)), (g9, 70, (nL v38)), (g10, 70, (nL v48)), (g11, 70, (nL v58)), (g12, 70, (nL v68)), (g13, 70, (nL v78)), (g14, 70, (nL v94)), (g15, 70, (nL v101)), (g16, 70, (nL v106)), (g17, 70, z4L), (w.heap.size + 1 + 1 + 1, 72, z12L)] (U207.setCells g16 0 (nL v106)) := hS.setAt 12 (nL v106) rfl rfl
            refine hKq.out _ _ (hS'.pre 12) (fun _ => ?_)
            clear hKq Kq hst hS
            have hS := hS'
            clear hS'
            generalize U207.setCells g16 0 (nL v106) = U208 at hS ⊢
            have hst := stN (hS.get 13 rfl) rfl v111
            refine wpAnyH_ready (rs := [13]) (by kernel_rfl) (by simp) ?_
            refine AllReadyH.cons rfl (fun Kq hKq => ?_) AllReadyH.nil
            go_simp
            have hS' : Bx w [(w.heap.size, 72, (t3 x1 y1 z1)), (w.heap.size + 1, 72, (t3 x2 y2 z2)), (w.heap.size + 1 + 1, 67, doL), (g7, 70, (nL v24)), (g8, 70, (nL v31)), (g9, 70, (nL v38)), (g10, 70, (nL v48)), (g11, 70, (nL v58)), (g12, 70, (nL v68)), (g13, 70, (nL v78)), (g14, 70, (nL v94)), (g15, 70, (nL v101)), (g16, 70, (nL v106)), (g17, 70, (nL v111)), (w.heap.size + 1 + 1 + 1, 72, z12L)] (U208.setCells g17 0 (nL v111)) := hS.setAt 13 (nL v111) rfl rfl
            refine hKq.out _ _ (hS'.pre 12) (fun _ => ?_)
            clear hKq Kq hst hS
            have hS := hS'
            clear hS'
            generalize U208.setCells g17 0 (nL v111) = U209 at hS ⊢
            refine wpAnyH_done (by kernel_rfl) ?_ _
            go_wp2
            have hS := hS.drew
            refine wp_region_held_drew (S := Bx w [(w.heap.size, 72, (t3 x1 y1 z1)), (w.heap.size + 1, 72, (t3 x2 y2 z2)), (w.heap.size + 1 + 1, 67, doL), (g7, 70, (nL v24)), (g8, 70, (nL v31)), (g9, 70, (nL v38)), (g10, 70, (nL v48)), (g11, 70, (nL v58)), (g12, 70, (nL v68)), (g13, 70, (nL v78)), (g14, 70, (nL v94)), (g15, 70, (nL v101)), (g16, 70, (nL v106)), (g17, 70, (nL v111))]) (by kernel_rfl) (hS.pre 14) (fun _ => ?_)
            generalize U209.drew = U210 at hS ⊢
            have hP : Bx w [(w.heap.size, 72, (t3 x1 y1 z1)), (w.heap.size + 1, 72, (t3 x2 y2 z2)), (w.heap.size + 1 + 1, 67, doL), (g7, 70, (nL v24)), (g8, 70, (nL v31)), (g9, 70, (nL v38)), (g10, 70, (nL v48)), (g11, 70, (nL v58)), (g12, 70, (nL v68)), (g13, 70, (nL v78)), (g14, 70, (nL v94)), (g15, 70, (nL v101)), (g16, 70, (nL v106)), (g17, 70, (nL v111))] U210 := hS.pre 14
            refine wpAnyH_take (i := 0) (v := ?_) rfl (by kernel_rfl) (by kernel_rfl) (by kernel_rfl) (fun _ _ _ h => h) (Or.inl ⟨by rfl, ?_⟩) (by assumption) ?_
            rotate_left
            · intro wq hSq
              go_simp
              try with_reducible rfl
            simp only [List.getElem_toArray, List.getElem_cons_zero, Act.put, List.setIfInBounds_toArray, List.set_cons_zero, List.set_cons_succ]
            refine wpAnyH_take (i := 1) (v := ?_) rfl (by kernel_rfl) (by kernel_rfl) (by kernel_rfl) (fun _ _ _ h => h) (Or.inl ⟨by rfl, ?_⟩) (by assumption) ?_
            rotate_left
            · intro wq hSq
              have hl := (doC (hSq.get 2 rfl)).2.1
              go_simp
              try with_reducible rfl
            simp only [List.getElem_toArray, List.getElem_cons_succ, List.getElem_cons_zero, Act.put, List.setIfInBounds_toArray, List.set_cons_zero, List.set_cons_succ]
            refine wpAnyH_take (i := 2) (v := ?_) rfl (by kernel_rfl) (by kernel_rfl) (by kernel_rfl) (fun _ _ _ h => h) (Or.inl ⟨by rfl, ?_⟩) (by assumption) ?_
            rotate_left
            · intro wq hSq
              go_simp
              try with_reducible rfl
            simp only [List.getElem_toArray, List.getElem_cons_succ, List.getElem_cons_zero, Act.put, List.setIfInBounds_toArray, List.set_cons_zero, List.set_cons_succ]
            refine wpAnyH_take (i := 3) (v := ?_) rfl (by kernel_rfl) (by kernel_rfl) (by kernel_rfl) (fun _ _ _ h => h) (Or.inl ⟨by rfl, ?_⟩) (by assumption) ?_
            rotate_left
            · intro wq hSq
              have hl := (doC (hSq.get 2 rfl)).2.2.1
              go_simp
              try with_reducible rfl
            simp only [List.getElem_toArray, List.getElem_cons_succ, List.getElem_cons_zero, Act.put, List.setIfInBounds_toArray, List.set_cons_zero, List.set_cons_succ]
            refine wpAnyH_take (i := 4) (v := ?_) rfl (by kernel_rfl) (by kernel_rfl) (by kernel_rfl) (fun _ _ _ h => h) (Or.inl ⟨by rfl, ?_⟩) (by assumption) ?_
            rotate_left
            · intro wq hSq
              have hl := ldN (hSq.get 6 rfl)
              go_simp
              try with_reducible rfl
            simp only [List.getElem_toArray, List.getElem_cons_succ, List.getElem_cons_zero, Act.put, List.setIfInBounds_toArray, List.set_cons_zero, List.set_cons_succ]
            refine wpAnyH_take (i := 5) (v := ?_) rfl (by kernel_rfl) (by kernel_rfl) (by kernel_rfl) (fun _ _ _ h => h) (Or.inl ⟨by rfl, ?_⟩) (by assumption) ?_
            rotate_left
            · intro wq hSq
              have hl := ldN (hSq.get 12 rfl)
              go_simp
              try with_reducible rfl
            simp only [List.getElem_toArray, List.getElem_cons_succ, List.getElem_cons_zero, Act.put, List.setIfInBounds_toArray, List.set_cons_zero, List.set_cons_succ]
            refine wpAnyH_take (i := 7) (v := ?_) rfl (by kernel_rfl) (by kernel_rfl) (by kernel_rfl) (fun _ _ _ h => h) (Or.inl ⟨by rfl, ?_⟩) (by assumption) ?_
            rotate_left
            · intro wq hSq
              go_simp
              try with_reducible rfl
            simp only [List.getElem_toArray, List.getElem_cons_succ, List.getElem_cons_zero, Act.put, List.setIfInBounds_toArray, List.set_cons_zero, List.set_cons_succ]
            refine wpAnyH_take (i := 8) (v := ?_) rfl (by kernel_rfl) (by kernel_rfl) (by kernel_rfl) (fun _ _ _ h => h) (Or.inl ⟨by rfl, ?_⟩) (by assumption) ?_
            rotate_left
            · intro wq hSq
              have hl := (doC (hSq.get 2 rfl)).2.2.1
              go_simp
              try with_reducible rfl
            simp only [List.getElem_toArray, List.getElem_cons_succ, List.getElem_cons_zero, Act.put, List.setIfInBounds_toArray, List.set_cons_zero, List.set_cons_succ]
            refine wpAnyH_take (i := 9) (v := ?_) rfl (by kernel_rfl) (by kernel_rfl) (by kernel_rfl) (fun _ _ _ h => h) (Or.inl ⟨by rfl, ?_⟩) (by assumption) ?_
            rotate_left
            · intro wq hSq
              have hl := ldN (hSq.get 8 rfl)
              go_simp
              try with_reducible rfl
            simp only [List.getElem_toArray, List.getElem_cons_succ, List.getElem_cons_zero, Act.put, List.setIfInBounds_toArray, List.set_cons_zero, List.set_cons_succ]
            refine wpAnyH_take (i := 10) (v := ?_) rfl (by kernel_rfl) (by kernel_rfl) (by kernel_rfl) (fun _ _ _ h => h) (Or.inl ⟨by rfl, ?_⟩) (by assumption) ?_
            rotate_left
            · intro wq hSq
              have hl := ldN (hSq.get 10 rfl)
              go_simp
              try with_reducible rfl
            simp only [List.getElem_toArray, List.getElem_cons_succ, List.getElem_cons_zero, Act.put, List.setIfInBounds_toArray, List.set_cons_zero, List.set_cons_succ]
            refine wpAnyH_take (i := 13) (v := ?_) rfl (by kernel_rfl) (by kernel_rfl) (by kernel_rfl) (fun _ _ _ h => h) (Or.inl ⟨by rfl, ?_⟩) (by assumption) ?_
            rotate_left
            · intro wq hSq
              have hl := ldD (hSq.get 2 rfl)
              go_simp
              try with_reducible rfl
            simp only [List.getElem_toArray, List.getElem_cons_succ, List.getElem_cons_zero, Act.put, List.setIfInBounds_toArray, List.set_cons_zero, List.set_cons_succ]
            refine wpAnyH_take (i := 14) (v := ?_) rfl (by kernel_rfl) (by kernel_rfl) (by kernel_rfl) (fun _ _ _ h => h) (Or.inl ⟨by rfl, ?_⟩) (by assumption) ?_
            rotate_left
            · intro wq hSq
              have hl := ldN (hSq.get 12 rfl)
              go_simp
              try with_reducible rfl
            simp only [List.getElem_toArray, List.getElem_cons_succ, List.getElem_cons_zero, Act.put, List.setIfInBounds_toArray, List.set_cons_zero, List.set_cons_succ]
            refine wpAnyH_take (i := 15) (v := ?_) rfl (by kernel_rfl) (by kernel_rfl) (by kernel_rfl) (fun _ _ _ h => h) (Or.inl ⟨by rfl, ?_⟩) (by assumption) ?_
            rotate_left
            · intro wq hSq
              have hl := ldN (hSq.get 13 rfl)
              go_simp
              try with_reducible rfl
            simp only [List.getElem_toArray, List.getElem_cons_succ, List.getElem_cons_zero, Act.put, List.setIfInBounds_toArray, List.set_cons_zero, List.set_cons_succ]
            refine wpAnyH_take (i := 16) (v := ?_) rfl (by kernel_rfl) (by kernel_rfl) (by kernel_rfl) (fun _ _ _ h => h) (Or.inl ⟨by rfl, ?_⟩) (by assumption) ?_
            rotate_left
            · intro wq hSq
              have hl := ldN (hSq.get 11 rfl)
              go_simp
              try with_reducible rfl
            simp only [List.getElem_toArray, List.getElem_cons_succ, List.getElem_cons_zero, Act.put, List.setIfInBounds_toArray, List.set_cons_zero, List.set_cons_succ]
            refine wpAnyH_take (i := 17) (v := ?_) rfl (by kernel_rfl) (by kernel_rfl) (by kernel_rfl) (fun _ _ _ h => h) (Or.inl ⟨by rfl, ?_⟩) (by assumption) ?_
            rotate_left
            · intro wq hSq
              have hl := ldN (hSq.get 10 rfl)
              go_simp
              try with_reducible rfl
            simp only [List.getElem_toArray, List.getElem_cons_succ, List.getElem_cons_zero, Act.put, List.setIfInBounds_toArray, List.set_cons_zero, List.set_cons_succ]
            refine wpAnyH_take (i := 19) (v := ?_) rfl (by kernel_rfl) (by kernel_rfl) (by kernel_rfl) (fun _ _ _ h => h) (Or.inl ⟨by rfl, ?_⟩) (by assumption) ?_
            rotate_left
            · intro wq hSq
              have hl := ldD (hSq.get 2 rfl)
              go_simp
              try with_reducible rfl
            simp only [List.getElem_toArray, List.getElem_cons_succ, List.getElem_cons_zero, Act.put, List.setIfInBounds_toArray, List.set_cons_zero, List.set_cons_succ]
            refine wpAnyH_take (i := 20) (v := ?_) rfl (by kernel_rfl) (by kernel_rfl) (by kernel_rfl) (fun _ _ _ h => h) (Or.inl ⟨by rfl, ?_⟩) (by assumption) ?_
            rotate_left
            · intro wq hSq
              have hl := ldN (hSq.get 8 rfl)
              go_simp
              try with_reducible rfl
            simp only [List.getElem_toArray, List.getElem_cons_succ, List.getElem_cons_zero, Act.put, List.setIfInBounds_toArray, List.set_cons_zero, List.set_cons_succ]
            refine wpAnyH_take (i := 21) (v := ?_) rfl (by kernel_rfl) (by kernel_rfl) (by kernel_rfl) (fun _ _ _ h => h) (Or.inl ⟨by rfl, ?_⟩) (by assumption) ?_
            rotate_left
            · intro wq hSq
              have hl := ldN (hSq.get 13 rfl)
              go_simp
              try with_reducible rfl
            simp only [List.getElem_toArray, List.getElem_cons_succ, List.getElem_cons_zero, Act.put, List.setIfInBounds_toArray, List.set_cons_zero, List.set_cons_succ]
            refine wpAnyH_take (i := 22) (v := ?_) rfl (by kernel_rfl) (by kernel_rfl) (by kernel_rfl) (fun _ _ _ h => h) (Or.inl ⟨by rfl, ?_⟩) (by assumption) ?_
            rotate_left
            · intro wq hSq
              have hl := ldN (hSq.get 6 rfl)
              go_simp
              try with_reducible rfl
            simp only [List.getElem_toArray, List.getElem_cons_succ, List.getElem_cons_zero, Act.put, List.setIfInBounds_toArray, List.set_cons_zero, List.set_cons_succ]
            refine wpAnyH_take (i := 23) (v := ?_) rfl (by kernel_rfl) (by kernel_rfl) (by kernel_rfl) (fun _ _ _ h => h) (Or.inl ⟨by rfl, ?_⟩) (by assumption) ?_
            rotate_left
            · intro wq hSq
              have hl := ldN (hSq.get 11 rfl)
              go_simp
              try with_reducible rfl
            simp only [List.getElem_toArray, List.getElem_cons_succ, List.getElem_cons_zero, Act.put, List.setIfInBounds_toArray, List.set_cons_zero, List.set_cons_succ]
            clear hP
            refine wpAnyH_ready (rs := [6]) (by kernel_rfl) (by simp) ?_
            refine AllReadyH.cons rfl (fun Kq hKq => ?_) AllReadyH.nil
            go_simp
            refine (C118.out _).mono ?_
            rintro e U211 ⟨rfl, LB⟩
            have hS := hS.below LB
            clear LB
            refine hKq.out _ _ (hS.pre 14) (fun _ => ?_)
            clear hKq Kq
            refine wpAnyH_ready (rs := [11]) (by kernel_rfl) (by simp) ?_
            refine AllReadyH.cons rfl (fun Kq hKq => ?_) AllReadyH.nil
            go_simp
            refine (C123.out _).mono ?_
            rintro e U212 ⟨rfl, LB⟩
            have hS := hS.below LB
            clear LB
            refine hKq.out _ _ (hS.pre 14) (fun _ => ?_)
            clear hKq Kq
            refine wpAnyH_ready (rs := [12]) (by kernel_rfl) (by simp) ?_
            refine AllReadyH.cons rfl (fun Kq hKq => ?_) AllReadyH.nil
            go_simp
            refine (C124.out _).mono ?_
            rintro e U213 ⟨rfl, LB⟩
            have hS := hS.below LB
            clear LB
            refine hKq.out _ _ (hS.pre 14) (fun _ => ?_)
            clear hKq Kq
            refine wpAnyH_ready (rs := [18]) (by kernel_rfl) (by simp) ?_
            refine AllReadyH.cons rfl (fun Kq hKq => ?_) AllReadyH.nil
            go_simp
            refine (C130.out _).mono ?_
            rintro e U214 ⟨rfl, LB⟩
            have hS := hS.below LB
            clear LB
            refine hKq.out _ _ (hS.pre 14) (fun _ => ?_)
            clear hKq Kq
            refine wpAnyH_ready (rs := [24]) (by kernel_rfl) (by simp) ?_
            refine AllReadyH.cons rfl (fun Kq hKq => ?_) AllReadyH.nil
            go_simp
            refine (C136.out _).mono ?_
            rintro e U215 ⟨rfl, LB⟩
            have hS := hS.below LB
            clear LB
            refine hKq.out _ _ (hS.pre 14) (fun _ => ?_)
            clear hKq Kq
            have hP : Bx w [(w.heap.size, 72, (t3 x1 y1 z1)), (w.heap.size + 1, 72, (t3 x2 y2 z2)), (w.heap.size + 1 + 1, 67, doL), (g7, 70, (nL v24)), (g8, 70, (nL v31)), (g9, 70, (nL v38)), (g10, 70, (nL v48)), (g11, 70, (nL v58)), (g12, 70, (nL v68)), (g13, 70, (nL v78)), (g14, 70, (nL v94)), (g15, 70, (nL v101)), (g16, 70, (nL v106)), (g17, 70, (nL v111))] U215 := hS.pre 14
            refine wpAnyH_take (i := 25) (v := ?_) rfl (by kernel_rfl) (by kernel_rfl) (by kernel_rfl) (fun _ _ _ h => h) (Or.inl ⟨by rfl, ?_⟩) (by assumption) ?_
            rotate_left
            · intro wq hSq
              have hl := bd3n v124 v130 v136 wq
              go_simp
              try with_reducible rfl
            simp only [List.getElem_toArray, List.getElem_cons_succ, List.getElem_cons_zero, Act.put, List.setIfInBounds_toArray, List.set_cons_zero, List.set_cons_succ]
            clear hP
            have hst := stt (hS.get 14 rfl) rfl v124 v130 v136
            refine wpAnyH_ready (rs := [26]) (by kernel_rfl) (by simp) ?_
            refine AllReadyH.cons rfl (fun Kq hKq => ?_) AllReadyH.nil
            go_simp
            have hS' : Bx w [(w.heap.size, 72, (t3 x1 y1 z1)), (w.heap.size + 1, 72, (t3 x2 y2 z2)), (w.heap.size + 1 + 1, 67, doL), (g7, 70, (nL v24)), (g8, 70, (nL v31)), (g9, 70, (nL v38)), (g10, 70, (nL v48)), (g11, 70, (nL v58)), (g12, 70, (nL v68)), (g13, 70, (nL v78)), (g14, 70, (nL v94)), (g15, 70, (nL v101)), (g16, 70, (nL v106)), (g17, 70, (nL v111)), (w.heap.size + 1 + 1 + 1, 72, (t3 v124 v130 v136))] (U215.setCells (w.heap.size + 1 + 1 + 1) 0 (t3 v124 v130 v136)) := hS.setAt 14 (t3 v124 v130 v136) rfl rfl
            refine hKq.out _ _ (hS'.pre 14) (fun _ => ?_)
            clear hKq Kq hst hS
            have hS := hS'
            clear hS'
            generalize U215.setCells (w.heap.size + 1 + 1 + 1) 0 (t3 v124 v130 v136) = U216 at hS ⊢
            refine wpAnyH_done (by kernel_rfl) ?_ _
            go_wp2
            refine bodyPost_ret (v := .agg (t3 v124 v130 v136).toArray) ?_ rfl ⟨rfl, hS.bl⟩
            exact res_one (T := 72) (p := 6) (ty := 72) (X := t3 v124 v130 v136) (by kernel_rfl) _ _ rfl Tryd.underlying72 rfl (by kernel_rfl) (hS.get 14 rfl)

end Go.Proofs.YtcijjmncilciiaaDoor
