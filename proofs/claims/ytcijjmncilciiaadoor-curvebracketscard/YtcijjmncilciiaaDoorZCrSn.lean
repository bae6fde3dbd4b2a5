/-
  The document's sum.
-/
import Derived.Test.YtcijjmncilciiaaDoorZCrSa
import Derived.Deep.DeepCutAuto
namespace Go.Proofs.YtcijjmncilciiaaDoor
open Go.RowKit Go.IntWalk
attribute [local go_sem ↓] ld_F st_F eq_F ld_J st_J bd_J bd_F

set_option maxRecDepth 100000 in
set_option maxHeartbeats 8000000 in
theorem rsum_n (gf : Nat) (x1 y1 z1 x2 y2 z2 v33 v39 v44 v49 v57 v58 v66 v67 v71 v75 v96 v100 v104 v110 v112 v116 v117 v124 v125 v129 v130 v140 v141 : Int) (b_x1 : Nb x1) (b_y1 : Nb y1) (b_z1 : Nb z1) (b_x2 : Nb x2) (b_y2 : Nb y2) (b_z2 : Nb z2) (hz : z1 ≠ 0) (hy : z2 ≠ 0) (h33 : mm z1 z1 = v33) (h39 : mm z2 z2 = v39) (h44 : mm x1 v39 = v44) (h49 : mm x2 v33 = v49) (h57 : mm v39 z2 = v57) (h58 : mm y1 v57 = v58) (h66 : mm v33 z1 = v66) (h67 : mm y2 v66 = v67) (h71 : ps v49 v44 = v71) (h75 : ps v67 v58 = v75) (h96 : mm v71 v71 = v96) (h100 : mm v96 v71 = v100) (h104 : mm v44 v96 = v104) (h110 : mm v75 v75 = v110) (h112 : ps v110 v100 = v112) (h116 : pa v104 v104 = v116) (h117 : ps v112 v116 = v117) (h124 : ps v104 v117 = v124) (h125 : mm v75 v124 = v125) (h129 : mm v58 v100 = v129) (h130 : ps v125 v129 = v130) (h140 : mm z1 z2 = v140) (h141 : mm v71 v140 = v141) (tx ty tz : Int) (R : List Value) (w : World) (hF : FF w gf) (hT : ∀ W, Below w.heap.size w W → Calls Tryd.prog 49 #[.pointer (some ⟨gf, 0, none⟩), .agg (j3 x1 y1 z1).toArray] W (Ans (.agg (j3 tx ty tz).toArray) W)) (hR : R = if v71 = 0 then (if v75 = 0 then j3 tx ty tz else j3 ONE ONE 0) else j3 v117 v130 v141) :
    Calls Tryd.prog 45 #[.pointer (some ⟨gf, 0, none⟩), .agg (j3 x1 y1 z1).toArray, .agg (j3 x2 y2 z2).toArray] w (Ans (.agg (R).toArray) w) := by
  have HF := hide hF
  have b_v33 : Nb v33 := by rw [← h33]; exact mm_bd _ _
  have b_v39 : Nb v39 := by rw [← h39]; exact mm_bd _ _
  have b_v44 : Nb v44 := by rw [← h44]; exact mm_bd _ _
  have b_v49 : Nb v49 := by rw [← h49]; exact mm_bd _ _
  have b_v57 : Nb v57 := by rw [← h57]; exact mm_bd _ _
  have b_v58 : Nb v58 := by rw [← h58]; exact mm_bd _ _
  have b_v66 : Nb v66 := by rw [← h66]; exact mm_bd _ _
  have b_v67 : Nb v67 := by rw [← h67]; exact mm_bd _ _
  have b_v71 : Nb v71 := by rw [← h71]; exact ps_bd _ _
  have b_v75 : Nb v75 := by rw [← h75]; exact ps_bd _ _
  have b_v96 : Nb v96 := by rw [← h96]; exact mm_bd _ _
  have b_v100 : Nb v100 := by rw [← h100]; exact mm_bd _ _
  have b_v104 : Nb v104 := by rw [← h104]; exact mm_bd _ _
  have b_v110 : Nb v110 := by rw [← h110]; exact mm_bd _ _
  have b_v112 : Nb v112 := by rw [← h112]; exact ps_bd _ _
  have b_v116 : Nb v116 := by rw [← h116]; exact pa_bd _ _
  have b_v117 : Nb v117 := by rw [← h117]; exact ps_bd _ _
  have b_v124 : Nb v124 := by rw [← h124]; exact ps_bd _ _
  have b_v125 : Nb v125 := by rw [← h125]; exact mm_bd _ _
  have b_v129 : Nb v129 := by rw [← h129]; exact mm_bd _ _
  have b_v130 : Nb v130 := by rw [← h130]; exact ps_bd _ _
  have b_v140 : Nb v140 := by rw [← h140]; exact mm_bd _ _
  have b_v141 : Nb v141 := by rw [← h141]; exact mm_bd _ _
  have C22 : Hid (∀ W, Calls Tryd.prog 70 #[.agg (fL z1).toArray] W (Ans (.bool (decide (z1 = 0))) W)) := fun W => rzeroN b_z1 W
  have C26 : Hid (∀ W, Calls Tryd.prog 70 #[.agg (fL z2).toArray] W (Ans (.bool (decide (z2 = 0))) W)) := fun W => rzeroN b_z2 W
  have C33 : Hid (∀ W, Below w.heap.size w W → Calls Tryd.prog 40 #[.pointer (some ⟨gf, 0, none⟩), .agg (fL z1).toArray, .agg (fL z1).toArray] W (Ans (.agg (fL v33).toArray) W)) := fun W hW => by rw [← h33]; exact rmulN b_z1 b_z1 W (hF.at hW)
  have C39 : Hid (∀ W, Below w.heap.size w W → Calls Tryd.prog 40 #[.pointer (some ⟨gf, 0, none⟩), .agg (fL z2).toArray, .agg (fL z2).toArray] W (Ans (.agg (fL v39).toArray) W)) := fun W hW => by rw [← h39]; exact rmulN b_z2 b_z2 W (hF.at hW)
  have C44 : Hid (∀ W, Below w.heap.size w W → Calls Tryd.prog 40 #[.pointer (some ⟨gf, 0, none⟩), .agg (fL x1).toArray, .agg (fL v39).toArray] W (Ans (.agg (fL v44).toArray) W)) := fun W hW => by rw [← h44]; exact rmulN b_x1 b_v39 W (hF.at hW)
  have C49 : Hid (∀ W, Below w.heap.size w W → Calls Tryd.prog 40 #[.pointer (some ⟨gf, 0, none⟩), .agg (fL x2).toArray, .agg (fL v33).toArray] W (Ans (.agg (fL v49).toArray) W)) := fun W hW => by rw [← h49]; exact rmulN b_x2 b_v33 W (hF.at hW)
  have C57 : Hid (∀ W, Below w.heap.size w W → Calls Tryd.prog 40 #[.pointer (some ⟨gf, 0, none⟩), .agg (fL v39).toArray, .agg (fL z2).toArray] W (Ans (.agg (fL v57).toArray) W)) := fun W hW => by rw [← h57]; exact rmulN b_v39 b_z2 W (hF.at hW)
  have C58 : Hid (∀ W, Below w.heap.size w W → Calls Tryd.prog 40 #[.pointer (some ⟨gf, 0, none⟩), .agg (fL y1).toArray, .agg (fL v57).toArray] W (Ans (.agg (fL v58).toArray) W)) := fun W hW => by rw [← h58]; exact rmulN b_y1 b_v57 W (hF.at hW)
  have C66 : Hid (∀ W, Below w.heap.size w W → Calls Tryd.prog 40 #[.pointer (some ⟨gf, 0, none⟩), .agg (fL v33).toArray, .agg (fL z1).toArray] W (Ans (.agg (fL v66).toArray) W)) := fun W hW => by rw [← h66]; exact rmulN b_v33 b_z1 W (hF.at hW)
  have C67 : Hid (∀ W, Below w.heap.size w W → Calls Tryd.prog 40 #[.pointer (some ⟨gf, 0, none⟩), .agg (fL y2).toArray, .agg (fL v66).toArray] W (Ans (.agg (fL v67).toArray) W)) := fun W hW => by rw [← h67]; exact rmulN b_y2 b_v66 W (hF.at hW)
  have C71 : Hid (∀ W, Below w.heap.size w W → Calls Tryd.prog 41 #[.pointer (some ⟨gf, 0, none⟩), .agg (fL v49).toArray, .agg (fL v44).toArray] W (Ans (.agg (fL v71).toArray) W)) := fun W hW => by rw [← h71]; exact rsubN b_v49 b_v44 W (hF.at hW)
  have C75 : Hid (∀ W, Below w.heap.size w W → Calls Tryd.prog 41 #[.pointer (some ⟨gf, 0, none⟩), .agg (fL v67).toArray, .agg (fL v58).toArray] W (Ans (.agg (fL v75).toArray) W)) := fun W hW => by rw [← h75]; exact rsubN b_v67 b_v58 W (hF.at hW)
  have C77 : Hid (∀ W, Calls Tryd.prog 70 #[.agg (fL v71).toArray] W (Ans (.bool (decide (v71 = 0))) W)) := fun W => rzeroN b_v71 W
  have C79 : Hid (∀ W, Calls Tryd.prog 70 #[.agg (fL v75).toArray] W (Ans (.bool (decide (v75 = 0))) W)) := fun W => rzeroN b_v75 W
  have C96 : Hid (∀ W, Below w.heap.size w W → Calls Tryd.prog 40 #[.pointer (some ⟨gf, 0, none⟩), .agg (fL v71).toArray, .agg (fL v71).toArray] W (Ans (.agg (fL v96).toArray) W)) := fun W hW => by rw [← h96]; exact rmulN b_v71 b_v71 W (hF.at hW)
  have C100 : Hid (∀ W, Below w.heap.size w W → Calls Tryd.prog 40 #[.pointer (some ⟨gf, 0, none⟩), .agg (fL v96).toArray, .agg (fL v71).toArray] W (Ans (.agg (fL v100).toArray) W)) := fun W hW => by rw [← h100]; exact rmulN b_v96 b_v71 W (hF.at hW)
  have C104 : Hid (∀ W, Below w.heap.size w W → Calls Tryd.prog 40 #[.pointer (some ⟨gf, 0, none⟩), .agg (fL v44).toArray, .agg (fL v96).toArray] W (Ans (.agg (fL v104).toArray) W)) := fun W hW => by rw [← h104]; exact rmulN b_v44 b_v96 W (hF.at hW)
  have C110 : Hid (∀ W, Below w.heap.size w W → Calls Tryd.prog 40 #[.pointer (some ⟨gf, 0, none⟩), .agg (fL v75).toArray, .agg (fL v75).toArray] W (Ans (.agg (fL v110).toArray) W)) := fun W hW => by rw [← h110]; exact rmulN b_v75 b_v75 W (hF.at hW)
  have C112 : Hid (∀ W, Below w.heap.size w W → Calls Tryd.prog 41 #[.pointer (some ⟨gf, 0, none⟩), .agg (fL v110).toArray, .agg (fL v100).toArray] W (Ans (.agg (fL v112).toArray) W)) := fun W hW => by rw [← h112]; exact rsubN b_v110 b_v100 W (hF.at hW)
  have C116 : Hid (∀ W, Below w.heap.size w W → Calls Tryd.prog 42 #[.pointer (some ⟨gf, 0, none⟩), .agg (fL v104).toArray, .agg (fL v104).toArray] W (Ans (.agg (fL v116).toArray) W)) := fun W hW => by rw [← h116]; exact raddN b_v104 b_v104 W (hF.at hW)
  have C117 : Hid (∀ W, Below w.heap.size w W → Calls Tryd.prog 41 #[.pointer (some ⟨gf, 0, none⟩), .agg (fL v112).toArray, .agg (fL v116).toArray] W (Ans (.agg (fL v117).toArray) W)) := fun W hW => by rw [← h117]; exact rsubN b_v112 b_v116 W (hF.at hW)
  have C124 : Hid (∀ W, Below w.heap.size w W → Calls Tryd.prog 41 #[.pointer (some ⟨gf, 0, none⟩), .agg (fL v104).toArray, .agg (fL v117).toArray] W (Ans (.agg (fL v124).toArray) W)) := fun W hW => by rw [← h124]; exact rsubN b_v104 b_v117 W (hF.at hW)
  have C125 : Hid (∀ W, Below w.heap.size w W → Calls Tryd.prog 40 #[.pointer (some ⟨gf, 0, none⟩), .agg (fL v75).toArray, .agg (fL v124).toArray] W (Ans (.agg (fL v125).toArray) W)) := fun W hW => by rw [← h125]; exact rmulN b_v75 b_v124 W (hF.at hW)
  have C129 : Hid (∀ W, Below w.heap.size w W → Calls Tryd.prog 40 #[.pointer (some ⟨gf, 0, none⟩), .agg (fL v58).toArray, .agg (fL v100).toArray] W (Ans (.agg (fL v129).toArray) W)) := fun W hW => by rw [← h129]; exact rmulN b_v58 b_v100 W (hF.at hW)
  have C130 : Hid (∀ W, Below w.heap.size w W → Calls Tryd.prog 41 #[.pointer (some ⟨gf, 0, none⟩), .agg (fL v125).toArray, .agg (fL v129).toArray] W (Ans (.agg (fL v130).toArray) W)) := fun W hW => by rw [← h130]; exact rsubN b_v125 b_v129 W (hF.at hW)
  have C140 : Hid (∀ W, Below w.heap.size w W → Calls Tryd.prog 40 #[.pointer (some ⟨gf, 0, none⟩), .agg (fL z1).toArray, .agg (fL z2).toArray] W (Ans (.agg (fL v140).toArray) W)) := fun W hW => by rw [← h140]; exact rmulN b_z1 b_z2 W (hF.at hW)
  have C141 : Hid (∀ W, Below w.heap.size w W → Calls Tryd.prog 40 #[.pointer (some ⟨gf, 0, none⟩), .agg (fL v71).toArray, .agg (fL v140).toArray] W (Ans (.agg (fL v141).toArray) W)) := fun W hW => by rw [← h141]; exact rmulN b_v71 b_v140 W (hF.at hW)
  have hS : Bx w [(w.heap.size, 92, (j3 x1 y1 z1)), (w.heap.size + 1, 92, (j3 x2 y2 z2)), (w.heap.size + 1 + 1, 92, z24)] (((w.alloc (.cells (j3 x1 y1 z1).toArray 92)).alloc (.cells (j3 x2 y2 z2).toArray 92)).alloc (.cells #[.int .u64 0, .int .u64 0, .int .u64 0, .int .u64 0, .int .u64 0, .int .u64 0, .int .u64 0, .int .u64 0, .int .u64 0, .int .u64 0, .int .u64 0, .int .u64 0, .int .u64 0, .int .u64 0, .int .u64 0, .int .u64 0, .int .u64 0, .int .u64 0, .int .u64 0, .int .u64 0, .int .u64 0, .int .u64 0, .int .u64 0, .int .u64 0] 92)) := ((((Bx.nil w).newAt 0 (w.heap.size) (by simp) 92 (j3 x1 y1 z1) _ rfl).newAt 1 (w.heap.size + 1) (by simp) 92 (j3 x2 y2 z2) _ rfl).newAt 2 (w.heap.size + 1 + 1) (by simp) 92 z24 _ rfl)
  have o1 := j3_one x1 y1 z1
  have o2 := j3_one x2 y2 z2
  have HZ : Hid (decide (z1 = 0) = false) := decide_eq_false hz
  have HY : Hid (decide (z2 = 0) = false) := decide_eq_false hy
  have CT := hide hT
  have HR := hide hR
  clear hz hy hT hR
  clear hF b_x1 b_y1 b_z1 b_x2 b_y2 b_z2 b_v33 b_v39 b_v44 b_v49 b_v57 b_v58 b_v66 b_v67 b_v71 b_v75 b_v96 b_v100 b_v104 b_v110 b_v112 b_v116 b_v117 b_v124 b_v125 b_v129 b_v130 b_v140 b_v141 h33 h39 h44 h49 h57 h58 h66 h67 h71 h75 h96 h100 h104 h110 h112 h116 h117 h124 h125 h129 h130 h140 h141
  go_enter Tryd.func45, Tryd.ntmps45
  have hl := (ldj3 (hS.get 0 rfl)).2.2
  go_wp2_with fail
  refine (C22.out _).mono ?_
  rintro e U901 ⟨rfl, LB⟩
  clear hl o1 o2
  have hS := hS.below LB
  clear LB
  rw [HZ.out]
  have hl := (ldj3 (hS.get 1 rfl)).2.2
  go_wp2_with fail
  refine (C26.out _).mono ?_
  rintro e U902 ⟨rfl, LB⟩
  clear hl
  have hS := hS.below LB
  clear LB
  rw [HY.out]
  go_wp2
  have hS := hS.drew
  refine wp_region_held_drew (S := Bx w [(w.heap.size, 92, (j3 x1 y1 z1)), (w.heap.size + 1, 92, (j3 x2 y2 z2))]) (by kernel_rfl) (hS.pre 2) (fun _ => ?_)
  generalize U902.drew = U1 at hS ⊢
  have hP : Bx w [(w.heap.size, 92, (j3 x1 y1 z1)), (w.heap.size + 1, 92, (j3 x2 y2 z2))] U1 := hS.pre 2
  refine wpAnyH_take (i := 0) (v := ?_) rfl (by kernel_rfl) (by kernel_rfl) (by kernel_rfl) (fun _ _ _ h => h) (Or.inl ⟨by rfl, ?_⟩) (by assumption) ?_
  rotate_left
  · intro wq hSq
    go_simp
    try with_reducible rfl
  simp only [List.getElem_toArray, List.getElem_cons_zero, Act.put, List.setIfInBounds_toArray, List.set_cons_zero, List.set_cons_succ]
  refine wpAnyH_take (i := 1) (v := ?_) rfl (by kernel_rfl) (by kernel_rfl) (by kernel_rfl) (fun _ _ _ h => h) (Or.inl ⟨by rfl, ?_⟩) (by assumption) ?_
  rotate_left
  · intro wq hSq
    go_simp
    try with_reducible rfl
  simp only [List.getElem_toArray, List.getElem_cons_succ, List.getElem_cons_zero, Act.put, List.setIfInBounds_toArray, List.set_cons_zero, List.set_cons_succ]
  refine wpAnyH_take (i := 2) (v := ?_) rfl (by kernel_rfl) (by kernel_rfl) (by kernel_rfl) (fun _ _ _ h => h) (Or.inl ⟨by rfl, ?_⟩) (by assumption) ?_
  rotate_left
  · intro wq hSq
    have hl := (ldj3 (hSq.get 0 rfl)).2.2
    go_simp
    try with_reducible rfl
  simp only [List.getElem_toArray, List.getElem_cons_succ, List.getElem_cons_zero, Act.put, List.setIfInBounds_toArray, List.set_cons_zero, List.set_cons_succ]
  refine wpAnyH_take (i := 3) (v := ?_) rfl (by kernel_rfl) (by kernel_rfl) (by kernel_rfl) (fun _ _ _ h => h) (Or.inl ⟨by rfl, ?_⟩) (by assumption) ?_
  rotate_left
  · intro wq hSq
    go_simp
    try with_reducible rfl
  simp only [List.getElem_toArray, List.getElem_cons_succ, List.getElem_cons_zero, Act.put, List.setIfInBounds_toArray, List.set_cons_zero, List.set_cons_succ]
  refine wpAnyH_take (i := 4) (v := ?_) rfl (by kernel_rfl) (by kernel_rfl) (by kernel_rfl) (fun _ _ _ h => h) (Or.inl ⟨by rfl, ?_⟩) (by assumption) ?_
  rotate_left
  · intro wq hSq
    have hl := (ldj3 (hSq.get 0 rfl)).2.2
    go_simp
    try with_reducible rfl
  simp only [List.getElem_toArray, List.getElem_cons_succ, List.getElem_cons_zero, Act.put, List.setIfInBounds_toArray, List.set_cons_zero, List.set_cons_succ]
  refine wpAnyH_take (i := 6) (v := ?_) rfl (by kernel_rfl) (by kernel_rfl) (by kernel_rfl) (fun _ _ _ h => h) (Or.inl ⟨by rfl, ?_⟩) (by assumption) ?_
  rotate_left
  · intro wq hSq
    go_simp
    try with_reducible rfl
  simp only [List.getElem_toArray, List.getElem_cons_succ, List.getElem_cons_zero, Act.put, List.setIfInBounds_toArray, List.set_cons_zero, List.set_cons_succ]
  refine wpAnyH_take (i := 7) (v := ?_) rfl (by kernel_rfl) (by kernel_rfl) (by kernel_rfl) (fun _ _ _ h => h) (Or.inl ⟨by rfl, ?_⟩) (by assumption) ?_
  rotate_left
  · intro wq hSq
    go_simp
    try with_reducible rfl
  simp only [List.getElem_toArray, List.getElem_cons_succ, List.getElem_cons_zero, Act.put, List.setIfInBounds_toArray, List.set_cons_zero, List.set_cons_succ]
  refine wpAnyH_take (i := 8) (v := ?_) rfl (by kernel_rfl) (by kernel_rfl) (by kernel_rfl) (fun _ _ _ h => h) (Or.inl ⟨by rfl, ?_⟩) (by assumption) ?_
  rotate_left
  · intro wq hSq
    have hl := (ldj3 (hSq.get 1 rfl)).2.2
    go_simp
    try with_reducible rfl
  simp only [List.getElem_toArray, List.getElem_cons_succ, List.getElem_cons_zero, Act.put, List.setIfInBounds_toArray, List.set_cons_zero, List.set_cons_succ]
  refine wpAnyH_take (i := 9) (v := ?_) rfl (by kernel_rfl) (by kernel_rfl) (by kernel_rfl) (fun _ _ _ h => h) (Or.inl ⟨by rfl, ?_⟩) (by assumption) ?_
  rotate_left
  · intro wq hSq
    go_simp
    try with_reducible rfl
  simp only [List.getElem_toArray, List.getElem_cons_succ, List.getElem_cons_zero, Act.put, List.setIfInBounds_toArray, List.set_cons_zero, List.set_cons_succ]
  refine wpAnyH_take (i := 10) (v := ?_) rfl (by kernel_rfl) (by kernel_rfl) (by kernel_rfl) (fun _ _ _ h => h) (Or.inl ⟨by rfl, ?_⟩) (by assumption) ?_
  rotate_left
  · intro wq hSq
    have hl := (ldj3 (hSq.get 1 rfl)).2.2
    go_simp
    try with_reducible rfl
  simp only [List.getElem_toArray, List.getElem_cons_succ, List.getElem_cons_zero, Act.put, List.setIfInBounds_toArray, List.set_cons_zero, List.set_cons_succ]
  clear hP
  refine' mk_rest2 (K := fun W g7 g8 => Bx w [(w.heap.size, 92, (j3 x1 y1 z1)), (w.heap.size + 1, 92, (j3 x2 y2 z2)), (g7, 80, zF), (g8, 80, zF), (w.heap.size + 1 + 1, 92, z24)] W) (fun R2ab => ?_) ?_
  rotate_left
  · skip
    refine' mk_restN (K := fun W g8 => Bx w [(w.heap.size, 92, (j3 x1 y1 z1)), (w.heap.size + 1, 92, (j3 x2 y2 z2)), (g8, 80, zF), (w.heap.size + 1 + 1, 92, z24)] W) (fun R2b => ?_) ?_
    rotate_left
    · skip
      refine' mk_restN (K := fun W g7 => Bx w [(w.heap.size, 92, (j3 x1 y1 z1)), (w.heap.size + 1, 92, (j3 x2 y2 z2)), (g7, 80, zF), (w.heap.size + 1 + 1, 92, z24)] W) (fun R2a => ?_) ?_
      rotate_left
      · skip
        refine' mk_rest2 (K := fun W g7 g8 => Bx w [(w.heap.size, 92, (j3 x1 y1 z1)), (w.heap.size + 1, 92, (j3 x2 y2 z2)), (g7, 80, zF), (g8, 80, zF), (w.heap.size + 1 + 1, 92, z24)] W) (fun R1ab => ?_) ?_
        rotate_left
        · skip
          refine' mk_restW (K := fun W => Bx w [(w.heap.size, 92, (j3 x1 y1 z1)), (w.heap.size + 1, 92, (j3 x2 y2 z2)), (w.heap.size + 1 + 1, 92, z24)] W) (fun R2 => ?_) ?_
          rotate_left
          · skip
            refine' mk_restN (K := fun W g8 => Bx w [(w.heap.size, 92, (j3 x1 y1 z1)), (w.heap.size + 1, 92, (j3 x2 y2 z2)), (g8, 80, zF), (w.heap.size + 1 + 1, 92, z24)] W) (fun R1b => ?_) ?_
            rotate_left
            · skip
              refine' mk_restN (K := fun W g7 => Bx w [(w.heap.size, 92, (j3 x1 y1 z1)), (w.heap.size + 1, 92, (j3 x2 y2 z2)), (g7, 80, zF), (w.heap.size + 1 + 1, 92, z24)] W) (fun R1a => ?_) ?_
              rotate_left
              · skip
                refine' mk_rest2 (K := fun W g7 g8 => Bx w [(w.heap.size, 92, (j3 x1 y1 z1)), (w.heap.size + 1, 92, (j3 x2 y2 z2)), (g7, 80, zF), (g8, 80, zF), (w.heap.size + 1 + 1, 92, z24)] W) (fun R0ab => ?_) ?_
                rotate_left
                · skip
                  refine' mk_restW (K := fun W => Bx w [(w.heap.size, 92, (j3 x1 y1 z1)), (w.heap.size + 1, 92, (j3 x2 y2 z2)), (w.heap.size + 1 + 1, 92, z24)] W) (fun R1 => ?_) ?_
                  rotate_left
                  · skip
                    refine' mk_restN (K := fun W g8 => Bx w [(w.heap.size, 92, (j3 x1 y1 z1)), (w.heap.size + 1, 92, (j3 x2 y2 z2)), (g8, 80, zF), (w.heap.size + 1 + 1, 92, z24)] W) (fun R0b => ?_) ?_
                    rotate_left
                    · skip
                      refine' mk_restN (K := fun W g7 => Bx w [(w.heap.size, 92, (j3 x1 y1 z1)), (w.heap.size + 1, 92, (j3 x2 y2 z2)), (g7, 80, zF), (w.heap.size + 1 + 1, 92, z24)] W) (fun R0a => ?_) ?_
                      rotate_left
                      · skip
                        refine wpAnyH_ready (rs := [5, 12, 13]) (by kernel_rfl) (by simp) ?_
                        refine (AllReadyH.cons rfl (fun Kq hKq => ?_) (AllReadyH.cons rfl (fun Kq hKq => ?_) (AllReadyH.cons rfl (fun Kq hKq => ?_) AllReadyH.nil)))
                        · go_simp
                          refine (C33.out _ hS.bl).mono ?_
                          rintro e U2 ⟨rfl, LB⟩
                          have hS := hS.below LB
                          clear LB
                          refine hKq.out _ _ (hS.pre 2) (fun _ => ?_)
                          clear hKq Kq
                          exact R1.out U2 hS
                        · go_simp
                          have hS' := hS.newAt 2 U1.heap.size rfl 80 zF #[.int .u64 0, .int .u64 0, .int .u64 0, .int .u64 0, .int .u64 0, .int .u64 0, .int .u64 0, .int .u64 0] rfl
                          refine hKq.out _ _ (hS'.pre 2) (fun _ => ?_)
                          clear hKq Kq
                          generalize U1.alloc (.cells #[.int .u64 0, .int .u64 0, .int .u64 0, .int .u64 0, .int .u64 0, .int .u64 0, .int .u64 0, .int .u64 0] 80) = U3 at hS' ⊢
                          generalize U1.heap.size = g7 at hS' ⊢
                          exact R0a.out U3 g7 hS'
                        · go_simp
                          have hS' := hS.newAt 2 U1.heap.size rfl 80 zF #[.int .u64 0, .int .u64 0, .int .u64 0, .int .u64 0, .int .u64 0, .int .u64 0, .int .u64 0, .int .u64 0] rfl
                          refine hKq.out _ _ (hS'.pre 2) (fun _ => ?_)
                          clear hKq Kq
                          generalize U1.alloc (.cells #[.int .u64 0, .int .u64 0, .int .u64 0, .int .u64 0, .int .u64 0, .int .u64 0, .int .u64 0, .int .u64 0] 80) = U4 at hS' ⊢
                          generalize U1.heap.size = g8 at hS' ⊢
                          exact R0b.out U4 g8 hS'
                      · rintro U5 g7 hS
                        refine wpAnyH_ready (rs := [5, 13]) (by kernel_rfl) (by simp) ?_
                        refine (AllReadyH.cons rfl (fun Kq hKq => ?_) (AllReadyH.cons rfl (fun Kq hKq => ?_) AllReadyH.nil))
                        · go_simp
                          refine (C33.out _ hS.bl).mono ?_
                          rintro e U6 ⟨rfl, LB⟩
                          have hS := hS.below LB
                          clear LB
                          refine hKq.out _ _ (hS.pre 2) (fun _ => ?_)
                          clear hKq Kq
                          exact R1a.out U6 g7 hS
                        · go_simp
                          have hS' := hS.newAt 3 U5.heap.size rfl 80 zF #[.int .u64 0, .int .u64 0, .int .u64 0, .int .u64 0, .int .u64 0, .int .u64 0, .int .u64 0, .int .u64 0] rfl
                          refine hKq.out _ _ (hS'.pre 2) (fun _ => ?_)
                          clear hKq Kq
                          generalize U5.alloc (.cells #[.int .u64 0, .int .u64 0, .int .u64 0, .int .u64 0, .int .u64 0, .int .u64 0, .int .u64 0, .int .u64 0] 80) = U7 at hS' ⊢
                          generalize U5.heap.size = g8 at hS' ⊢
                          exact R0ab.out U7 g7 g8 hS'
                    · rintro U8 g8 hS
                      refine wpAnyH_ready (rs := [5, 12]) (by kernel_rfl) (by simp) ?_
                      refine (AllReadyH.cons rfl (fun Kq hKq => ?_) (AllReadyH.cons rfl (fun Kq hKq => ?_) AllReadyH.nil))
                      · go_simp
                        refine (C33.out _ hS.bl).mono ?_
                        rintro e U9 ⟨rfl, LB⟩
                        have hS := hS.below LB
                        clear LB
                        refine hKq.out _ _ (hS.pre 2) (fun _ => ?_)
                        clear hKq Kq
                        exact R1b.out U9 g8 hS
                      · go_simp
                        have hS' := hS.newAt 2 U8.heap.size rfl 80 zF #[.int .u64 0, .int .u64 0, .int .u64 0, .int .u64 0, .int .u64 0, .int .u64 0, .int .u64 0, .int .u64 0] rfl
                        refine hKq.out _ _ (hS'.pre 2) (fun _ => ?_)
                        clear hKq Kq
                        generalize U8.alloc (.cells #[.int .u64 0, .int .u64 0, .int .u64 0, .int .u64 0, .int .u64 0, .int .u64 0, .int .u64 0, .int .u64 0] 80) = U10 at hS' ⊢
                        generalize U8.heap.size = g7 at hS' ⊢
                        exact R0ab.out U10 g7 g8 hS'
                  · rintro U11 hS
                    refine wpAnyH_ready (rs := [11, 12, 13]) (by kernel_rfl) (by simp) ?_
                    refine (AllReadyH.cons rfl (fun Kq hKq => ?_) (AllReadyH.cons rfl (fun Kq hKq => ?_) (AllReadyH.cons rfl (fun Kq hKq => ?_) AllReadyH.nil)))
                    · go_simp
                      refine (C39.out _ hS.bl).mono ?_
                      rintro e U12 ⟨rfl, LB⟩
                      have hS := hS.below LB
                      clear LB
                      refine hKq.out _ _ (hS.pre 2) (fun _ => ?_)
                      clear hKq Kq
                      exact R2.out U12 hS
                    · go_simp
                      have hS' := hS.newAt 2 U11.heap.size rfl 80 zF #[.int .u64 0, .int .u64 0, .int .u64 0, .int .u64 0, .int .u64 0, .int .u64 0, .int .u64 0, .int .u64 0] rfl
                      refine hKq.out _ _ (hS'.pre 2) (fun _ => ?_)
                      clear hKq Kq
                      generalize U11.alloc (.cells #[.int .u64 0, .int .u64 0, .int .u64 0, .int .u64 0, .int .u64 0, .int .u64 0, .int .u64 0, .int .u64 0] 80) = U13 at hS' ⊢
                      generalize U11.heap.size = g7 at hS' ⊢
                      exact R1a.out U13 g7 hS'
                    · go_simp
                      have hS' := hS.newAt 2 U11.heap.size rfl 80 zF #[.int .u64 0, .int .u64 0, .int .u64 0, .int .u64 0, .int .u64 0, .int .u64 0, .int .u64 0, .int .u64 0] rfl
                      refine hKq.out _ _ (hS'.pre 2) (fun _ => ?_)
                      clear hKq Kq
                      generalize U11.alloc (.cells #[.int .u64 0, .int .u64 0, .int .u64 0, .int .u64 0, .int .u64 0, .int .u64 0, .int .u64 0, .int .u64 0] 80) = U14 at hS' ⊢
                      generalize U11.heap.size = g8 at hS' ⊢
                      exact R1b.out U14 g8 hS'
                · rintro U15 g7 g8 hS
                  refine wpAnyH_ready (rs := [5]) (by kernel_rfl) (by simp) ?_
                  refine (AllReadyH.cons rfl (fun Kq hKq => ?_) AllReadyH.nil)
                  · go_simp
                    refine (C33.out _ hS.bl).mono ?_
                    rintro e U16 ⟨rfl, LB⟩
                    have hS := hS.below LB
                    clear LB
                    refine hKq.out _ _ (hS.pre 2) (fun _ => ?_)
                    clear hKq Kq
                    exact R1ab.out U16 g7 g8 hS
              · rintro U17 g7 hS
                refine wpAnyH_ready (rs := [11, 13]) (by kernel_rfl) (by simp) ?_
                refine (AllReadyH.cons rfl (fun Kq hKq => ?_) (AllReadyH.cons rfl (fun Kq hKq => ?_) AllReadyH.nil))
                · go_simp
                  refine (C39.out _ hS.bl).mono ?_
                  rintro e U18 ⟨rfl, LB⟩
                  have hS := hS.below LB
                  clear LB
                  refine hKq.out _ _ (hS.pre 2) (fun _ => ?_)
                  clear hKq Kq
                  exact R2a.out U18 g7 hS
                · go_simp
                  have hS' := hS.newAt 3 U17.heap.size rfl 80 zF #[.int .u64 0, .int .u64 0, .int .u64 0, .int .u64 0, .int .u64 0, .int .u64 0, .int .u64 0, .int .u64 0] rfl
                  refine hKq.out _ _ (hS'.pre 2) (fun _ => ?_)
                  clear hKq Kq
                  generalize U17.alloc (.cells #[.int .u64 0, .int .u64 0, .int .u64 0, .int .u64 0, .int .u64 0, .int .u64 0, .int .u64 0, .int .u64 0] 80) = U19 at hS' ⊢
                  generalize U17.heap.size = g8 at hS' ⊢
                  exact R1ab.out U19 g7 g8 hS'
            · rintro U20 g8 hS
              refine wpAnyH_ready (rs := [11, 12]) (by kernel_rfl) (by simp) ?_
              refine (AllReadyH.cons rfl (fun Kq hKq => ?_) (AllReadyH.cons rfl (fun Kq hKq => ?_) AllReadyH.nil))
              · go_simp
                refine (C39.out _ hS.bl).mono ?_
                rintro e U21 ⟨rfl, LB⟩
                have hS := hS.below LB
                clear LB
                refine hKq.out _ _ (hS.pre 2) (fun _ => ?_)
                clear hKq Kq
                exact R2b.out U21 g8 hS
              · go_simp
                have hS' := hS.newAt 2 U20.heap.size rfl 80 zF #[.int .u64 0, .int .u64 0, .int .u64 0, .int .u64 0, .int .u64 0, .int .u64 0, .int .u64 0, .int .u64 0] rfl
                refine hKq.out _ _ (hS'.pre 2) (fun _ => ?_)
                clear hKq Kq
                generalize U20.alloc (.cells #[.int .u64 0, .int .u64 0, .int .u64 0, .int .u64 0, .int .u64 0, .int .u64 0, .int .u64 0, .int .u64 0] 80) = U22 at hS' ⊢
                generalize U20.heap.size = g7 at hS' ⊢
                exact R1ab.out U22 g7 g8 hS'
          · rintro U23 hS
            refine wpAnyH_ready (rs := [12, 13]) (by kernel_rfl) (by simp) ?_
            refine (AllReadyH.cons rfl (fun Kq hKq => ?_) (AllReadyH.cons rfl (fun Kq hKq => ?_) AllReadyH.nil))
            · go_simp
              have hS' := hS.newAt 2 U23.heap.size rfl 80 zF #[.int .u64 0, .int .u64 0, .int .u64 0, .int .u64 0, .int .u64 0, .int .u64 0, .int .u64 0, .int .u64 0] rfl
              refine hKq.out _ _ (hS'.pre 2) (fun _ => ?_)
              clear hKq Kq
              generalize U23.alloc (.cells #[.int .u64 0, .int .u64 0, .int .u64 0, .int .u64 0, .int .u64 0, .int .u64 0, .int .u64 0, .int .u64 0] 80) = U24 at hS' ⊢
              generalize U23.heap.size = g7 at hS' ⊢
              exact R2a.out U24 g7 hS'
            · go_simp
              have hS' := hS.newAt 2 U23.heap.size rfl 80 zF #[.int .u64 0, .int .u64 0, .int .u64 0, .int .u64 0, .int .u64 0, .int .u64 0, .int .u64 0, .int .u64 0] rfl
              refine hKq.out _ _ (hS'.pre 2) (fun _ => ?_)
              clear hKq Kq
              generalize U23.alloc (.cells #[.int .u64 0, .int .u64 0, .int .u64 0, .int .u64 0, .int .u64 0, .int .u64 0, .int .u64 0, .int .u64 0] 80) = U25 at hS' ⊢
              generalize U23.heap.size = g8 at hS' ⊢
              exact R2b.out U25 g8 hS'
        · rintro U26 g7 g8 hS
          refine wpAnyH_ready (rs := [11]) (by kernel_rfl) (by simp) ?_
          refine (AllReadyH.cons rfl (fun Kq hKq => ?_) AllReadyH.nil)
          · go_simp
            refine (C39.out _ hS.bl).mono ?_
            rintro e U27 ⟨rfl, LB⟩
            have hS := hS.below LB
            clear LB
            refine hKq.out _ _ (hS.pre 2) (fun _ => ?_)
            clear hKq Kq
            exact R2ab.out U27 g7 g8 hS
      · rintro U28 g7 hS
        refine wpAnyH_ready (rs := [13]) (by kernel_rfl) (by simp) ?_
        refine (AllReadyH.cons rfl (fun Kq hKq => ?_) AllReadyH.nil)
        · go_simp
          have hS' := hS.newAt 3 U28.heap.size rfl 80 zF #[.int .u64 0, .int .u64 0, .int .u64 0, .int .u64 0, .int .u64 0, .int .u64 0, .int .u64 0, .int .u64 0] rfl
          refine hKq.out _ _ (hS'.pre 2) (fun _ => ?_)
          clear hKq Kq
          generalize U28.alloc (.cells #[.int .u64 0, .int .u64 0, .int .u64 0, .int .u64 0, .int .u64 0, .int .u64 0, .int .u64 0, .int .u64 0] 80) = U29 at hS' ⊢
          generalize U28.heap.size = g8 at hS' ⊢
          exact R2ab.out U29 g7 g8 hS'
    · rintro U30 g8 hS
      refine wpAnyH_ready (rs := [12]) (by kernel_rfl) (by simp) ?_
      refine (AllReadyH.cons rfl (fun Kq hKq => ?_) AllReadyH.nil)
      · go_simp
        have hS' := hS.newAt 2 U30.heap.size rfl 80 zF #[.int .u64 0, .int .u64 0, .int .u64 0, .int .u64 0, .int .u64 0, .int .u64 0, .int .u64 0, .int .u64 0] rfl
        refine hKq.out _ _ (hS'.pre 2) (fun _ => ?_)
        clear hKq Kq
        generalize U30.alloc (.cells #[.int .u64 0, .int .u64 0, .int .u64 0, .int .u64 0, .int .u64 0, .int .u64 0, .int .u64 0, .int .u64 0] 80) = U31 at hS' ⊢
        generalize U30.heap.size = g7 at hS' ⊢
        exact R2ab.out U31 g7 g8 hS'
  · rintro U32 g7 g8 hS
    have hst := stf (hS.get 2 rfl) rfl v33
    refine wpAnyH_ready (rs := [14]) (by kernel_rfl) (by simp) ?_
    refine AllReadyH.cons rfl (fun Kq hKq => ?_) AllReadyH.nil
    go_simp
    have hS' : Bx w [(w.heap.size, 92, (j3 x1 y1 z1)), (w.heap.size + 1, 92, (j3 x2 y2 z2)), (g7, 80, (fL v33)), (g8, 80, zF), (w.heap.size + 1 + 1, 92, z24)] (U32.setCells g7 0 (fL v33)) := hS.setAt 2 (fL v33) rfl rfl
    refine hKq.out _ _ (hS'.pre 2) (fun _ => ?_)
    clear hKq Kq hst hS
    have hS := hS'
    clear hS'
    generalize U32.setCells g7 0 (fL v33) = U33 at hS ⊢
    have hst := stf (hS.get 3 rfl) rfl v39
    refine wpAnyH_ready (rs := [15]) (by kernel_rfl) (by simp) ?_
    refine AllReadyH.cons rfl (fun Kq hKq => ?_) AllReadyH.nil
    go_simp
    have hS' : Bx w [(w.heap.size, 92, (j3 x1 y1 z1)), (w.heap.size + 1, 92, (j3 x2 y2 z2)), (g7, 80, (fL v33)), (g8, 80, (fL v39)), (w.heap.size + 1 + 1, 92, z24)] (U33.setCells g8 0 (fL v39)) := hS.setAt 3 (fL v39) rfl rfl
    refine hKq.out _ _ (hS'.pre 2) (fun _ => ?_)
    clear hKq Kq hst hS
    have hS := hS'
    clear hS'
    generalize U33.setCells g8 0 (fL v39) = U34 at hS ⊢
    refine wpAnyH_done (by kernel_rfl) ?_ _
    go_wp2
    have hS := hS.drew
    refine wp_region_held_drew (S := Bx w [(w.heap.size, 92, (j3 x1 y1 z1)), (w.heap.size + 1, 92, (j3 x2 y2 z2)), (g7, 80, (fL v33)), (g8, 80, (fL v39))]) (by kernel_rfl) (hS.pre 4) (fun _ => ?_)
    generalize U34.drew = U35 at hS ⊢
    have hP : Bx w [(w.heap.size, 92, (j3 x1 y1 z1)), (w.heap.size + 1, 92, (j3 x2 y2 z2)), (g7, 80, (fL v33)), (g8, 80, (fL v39))] U35 := hS.pre 4
    refine wpAnyH_take (i := 0) (v := ?_) rfl (by kernel_rfl) (by kernel_rfl) (by kernel_rfl) (fun _ _ _ h => h) (Or.inl ⟨by rfl, ?_⟩) (by assumption) ?_
    rotate_left
    · intro wq hSq
      go_simp
      try with_reducible rfl
    simp only [List.getElem_toArray, List.getElem_cons_zero, Act.put, List.setIfInBounds_toArray, List.set_cons_zero, List.set_cons_succ]
    refine wpAnyH_take (i := 1) (v := ?_) rfl (by kernel_rfl) (by kernel_rfl) (by kernel_rfl) (fun _ _ _ h => h) (Or.inl ⟨by rfl, ?_⟩) (by assumption) ?_
    rotate_left
    · intro wq hSq
      go_simp
      try with_reducible rfl
    simp only [List.getElem_toArray, List.getElem_cons_succ, List.getElem_cons_zero, Act.put, List.setIfInBounds_toArray, List.set_cons_zero, List.set_cons_succ]
    refine wpAnyH_take (i := 2) (v := ?_) rfl (by kernel_rfl) (by kernel_rfl) (by kernel_rfl) (fun _ _ _ h => h) (Or.inl ⟨by rfl, ?_⟩) (by assumption) ?_
    rotate_left
    · intro wq hSq
      have hl := (ldj3 (hSq.get 0 rfl)).1
      go_simp
      try with_reducible rfl
    simp only [List.getElem_toArray, List.getElem_cons_succ, List.getElem_cons_zero, Act.put, List.setIfInBounds_toArray, List.set_cons_zero, List.set_cons_succ]
    refine wpAnyH_take (i := 3) (v := ?_) rfl (by kernel_rfl) (by kernel_rfl) (by kernel_rfl) (fun _ _ _ h => h) (Or.inl ⟨by rfl, ?_⟩) (by assumption) ?_
    rotate_left
    · intro wq hSq
      have hl := ldf (hSq.get 3 rfl)
      go_simp
      try with_reducible rfl
    simp only [List.getElem_toArray, List.getElem_cons_succ, List.getElem_cons_zero, Act.put, List.setIfInBounds_toArray, List.set_cons_zero, List.set_cons_succ]
    refine wpAnyH_take (i := 5) (v := ?_) rfl (by kernel_rfl) (by kernel_rfl) (by kernel_rfl) (fun _ _ _ h => h) (Or.inl ⟨by rfl, ?_⟩) (by assumption) ?_
    rotate_left
    · intro wq hSq
      go_simp
      try with_reducible rfl
    simp only [List.getElem_toArray, List.getElem_cons_succ, List.getElem_cons_zero, Act.put, List.setIfInBounds_toArray, List.set_cons_zero, List.set_cons_succ]
    refine wpAnyH_take (i := 6) (v := ?_) rfl (by kernel_rfl) (by kernel_rfl) (by kernel_rfl) (fun _ _ _ h => h) (Or.inl ⟨by rfl, ?_⟩) (by assumption) ?_
    rotate_left
    · intro wq hSq
      go_simp
      try with_reducible rfl
    simp only [List.getElem_toArray, List.getElem_cons_succ, List.getElem_cons_zero, Act.put, List.setIfInBounds_toArray, List.set_cons_zero, List.set_cons_succ]
    refine wpAnyH_take (i := 7) (v := ?_) rfl (by kernel_rfl) (by kernel_rfl) (by kernel_rfl) (fun _ _ _ h => h) (Or.inl ⟨by rfl, ?_⟩) (by assumption) ?_
    rotate_left
    · intro wq hSq
      have hl := (ldj3 (hSq.get 1 rfl)).1
      go_simp
      try with_reducible rfl
    simp only [List.getElem_toArray, List.getElem_cons_succ, List.getElem_cons_zero, Act.put, List.setIfInBounds_toArray, List.set_cons_zero, List.set_cons_succ]
    refine wpAnyH_take (i := 8) (v := ?_) rfl (by kernel_rfl) (by kernel_rfl) (by kernel_rfl) (fun _ _ _ h => h) (Or.inl ⟨by rfl, ?_⟩) (by assumption) ?_
    rotate_left
    · intro wq hSq
      have hl := ldf (hSq.get 2 rfl)
      go_simp
      try with_reducible rfl
    simp only [List.getElem_toArray, List.getElem_cons_succ, List.getElem_cons_zero, Act.put, List.setIfInBounds_toArray, List.set_cons_zero, List.set_cons_succ]
    clear hP
    refine' mk_rest2 (K := fun W g9 g10 => Bx w [(w.heap.size, 92, (j3 x1 y1 z1)), (w.heap.size + 1, 92, (j3 x2 y2 z2)), (g7, 80, (fL v33)), (g8, 80, (fL v39)), (g9, 80, zF), (g10, 80, zF), (w.heap.size + 1 + 1, 92, z24)] W) (fun R2ab => ?_) ?_
    rotate_left
    · skip
      refine' mk_restN (K := fun W g10 => Bx w [(w.heap.size, 92, (j3 x1 y1 z1)), (w.heap.size + 1, 92, (j3 x2 y2 z2)), (g7, 80, (fL v33)), (g8, 80, (fL v39)), (g10, 80, zF), (w.heap.size + 1 + 1, 92, z24)] W) (fun R2b => ?_) ?_
      rotate_left
      · skip
        refine' mk_restN (K := fun W g9 => Bx w [(w.heap.size, 92, (j3 x1 y1 z1)), (w.heap.size + 1, 92, (j3 x2 y2 z2)), (g7, 80, (fL v33)), (g8, 80, (fL v39)), (g9, 80, zF), (w.heap.size + 1 + 1, 92, z24)] W) (fun R2a => ?_) ?_
        rotate_left
        · skip
          refine' mk_rest2 (K := fun W g9 g10 => Bx w [(w.heap.size, 92, (j3 x1 y1 z1)), (w.heap.size + 1, 92, (j3 x2 y2 z2)), (g7, 80, (fL v33)), (g8, 80, (fL v39)), (g9, 80, zF), (g10, 80, zF), (w.heap.size + 1 + 1, 92, z24)] W) (fun R1ab => ?_) ?_
          rotate_left
          · skip
            refine' mk_restW (K := fun W => Bx w [(w.heap.size, 92, (j3 x1 y1 z1)), (w.heap.size + 1, 92, (j3 x2 y2 z2)), (g7, 80, (fL v33)), (g8, 80, (fL v39)), (w.heap.size + 1 + 1, 92, z24)] W) (fun R2 => ?_) ?_
            rotate_left
            · skip
              refine' mk_restN (K := fun W g10 => Bx w [(w.heap.size, 92, (j3 x1 y1 z1)), (w.heap.size + 1, 92, (j3 x2 y2 z2)), (g7, 80, (fL v33)), (g8, 80, (fL v39)), (g10, 80, zF), (w.heap.size + 1 + 1, 92, z24)] W) (fun R1b => ?_) ?_
              rotate_left
              · skip
                refine' mk_restN (K := fun W g9 => Bx w [(w.heap.size, 92, (j3 x1 y1 z1)), (w.heap.size + 1, 92, (j3 x2 y2 z2)), (g7, 80, (fL v33)), (g8, 80, (fL v39)), (g9, 80, zF), (w.heap.size + 1 + 1, 92, z24)] W) (fun R1a => ?_) ?_
                rotate_left
                · skip
                  refine' mk_rest2 (K := fun W g9 g10 => Bx w [(w.heap.size, 92, (j3 x1 y1 z1)), (w.heap.size + 1, 92, (j3 x2 y2 z2)), (g7, 80, (fL v33)), (g8, 80, (fL v39)), (g9, 80, zF), (g10, 80, zF), (w.heap.size + 1 + 1, 92, z24)] W) (fun R0ab => ?_) ?_
                  rotate_left
                  · skip
                    refine' mk_restW (K := fun W => Bx w [(w.heap.size, 92, (j3 x1 y1 z1)), (w.heap.size + 1, 92, (j3 x2 y2 z2)), (g7, 80, (fL v33)), (g8, 80, (fL v39)), (w.heap.size + 1 + 1, 92, z24)] W) (fun R1 => ?_) ?_
                    rotate_left
                    · skip
                      refine' mk_restN (K := fun W g10 => Bx w [(w.heap.size, 92, (j3 x1 y1 z1)), (w.heap.size + 1, 92, (j3 x2 y2 z2)), (g7, 80, (fL v33)), (g8, 80, (fL v39)), (g10, 80, zF), (w.heap.size + 1 + 1, 92, z24)] W) (fun R0b => ?_) ?_
                      rotate_left
                      · skip
                        refine' mk_restN (K := fun W g9 => Bx w [(w.heap.size, 92, (j3 x1 y1 z1)), (w.heap.size + 1, 92, (j3 x2 y2 z2)), (g7, 80, (fL v33)), (g8, 80, (fL v39)), (g9, 80, zF), (w.heap.size + 1 + 1, 92, z24)] W) (fun R0a => ?_) ?_
                        rotate_left
                        · skip
                          refine wpAnyH_ready (rs := [4, 10, 11]) (by kernel_rfl) (by simp) ?_
                          refine (AllReadyH.cons rfl (fun Kq hKq => ?_) (AllReadyH.cons rfl (fun Kq hKq => ?_) (AllReadyH.cons rfl (fun Kq hKq => ?_) AllReadyH.nil)))
                          · go_simp
                            refine (C44.out _ hS.bl).mono ?_
                            rintro e U36 ⟨rfl, LB⟩
                            have hS := hS.below LB
                            clear LB
                            refine hKq.out _ _ (hS.pre 4) (fun _ => ?_)
                            clear hKq Kq
                            exact R1.out U36 hS
                          · go_simp
                            have hS' := hS.newAt 4 U35.heap.size rfl 80 zF #[.int .u64 0, .int .u64 0, .int .u64 0, .int .u64 0, .int .u64 0, .int .u64 0, .int .u64 0, .int .u64 0] rfl
                            refine hKq.out _ _ (hS'.pre 4) (fun _ => ?_)
                            clear hKq Kq
                            generalize U35.alloc (.cells #[.int .u64 0, .int .u64 0, .int .u64 0, .int .u64 0, .int .u64 0, .int .u64 0, .int .u64 0, .int .u64 0] 80) = U37 at hS' ⊢
                            generalize U35.heap.size = g9 at hS' ⊢
                            exact R0a.out U37 g9 hS'
                          · go_simp
                            have hS' := hS.newAt 4 U35.heap.size rfl 80 zF #[.int .u64 0, .int .u64 0, .int .u64 0, .int .u64 0, .int .u64 0, .int .u64 0, .int .u64 0, .int .u64 0] rfl
                            refine hKq.out _ _ (hS'.pre 4) (fun _ => ?_)
                            clear hKq Kq
                            generalize U35.alloc (.cells #[.int .u64 0, .int .u64 0, .int .u64 0, .int .u64 0, .int .u64 0, .int .u64 0, .int .u64 0, .int .u64 0] 80) = U38 at hS' ⊢
                            generalize U35.heap.size = g10 at hS' ⊢
                            exact R0b.out U38 g10 hS'
                        · rintro U39 g9 hS
                          refine wpAnyH_ready (rs := [4, 11]) (by kernel_rfl) (by simp) ?_
                          refine (AllReadyH.cons rfl (fun Kq hKq => ?_) (AllReadyH.cons rfl (fun Kq hKq => ?_) AllReadyH.nil))
                          · go_simp
                            refine (C44.out _ hS.bl).mono ?_
                            rintro e U40 ⟨rfl, LB⟩
                            have hS := hS.below LB
                            clear LB
                            refine hKq.out _ _ (hS.pre 4) (fun _ => ?_)
                            clear hKq Kq
                            exact R1a.out U40 g9 hS
                          · go_simp
                            have hS' := hS.newAt 5 U39.heap.size rfl 80 zF #[.int .u64 0, .int .u64 0, .int .u64 0, .int .u64 0, .int .u64 0, .int .u64 0, .int .u64 0, .int .u64 0] rfl
                            refine hKq.out _ _ (hS'.pre 4) (fun _ => ?_)
                            clear hKq Kq
                            generalize U39.alloc (.cells #[.int .u64 0, .int .u64 0, .int .u64 0, .int .u64 0, .int .u64 0, .int .u64 0, .int .u64 0, .int .u64 0] 80) = U41 at hS' ⊢
                            generalize U39.heap.size = g10 at hS' ⊢
                            exact R0ab.out U41 g9 g10 hS'
                      · rintro U42 g10 hS
                        refine wpAnyH_ready (rs := [4, 10]) (by kernel_rfl) (by simp) ?_
                        refine (AllReadyH.cons rfl (fun Kq hKq => ?_) (AllReadyH.cons rfl (fun Kq hKq => ?_) AllReadyH.nil))
                        · go_simp
                          refine (C44.out _ hS.bl).mono ?_
                          rintro e U43 ⟨rfl, LB⟩
                          have hS := hS.below LB
                          clear LB
                          refine hKq.out _ _ (hS.pre 4) (fun _ => ?_)
                          clear hKq Kq
                          exact R1b.out U43 g10 hS
                        · go_simp
                          have hS' := hS.newAt 4 U42.heap.size rfl 80 zF #[.int .u64 0, .int .u64 0, .int .u64 0, .int .u64 0, .int .u64 0, .int .u64 0, .int .u64 0, .int .u64 0] rfl
                          refine hKq.out _ _ (hS'.pre 4) (fun _ => ?_)
                          clear hKq Kq
                          generalize U42.alloc (.cells #[.int .u64 0, .int .u64 0, .int .u64 0, .int .u64 0, .int .u64 0, .int .u64 0, .int .u64 0, .int .u64 0] 80) = U44 at hS' ⊢
                          generalize U42.heap.size = g9 at hS' ⊢
                          exact R0ab.out U44 g9 g10 hS'
                    · rintro U45 hS
                      refine wpAnyH_ready (rs := [9, 10, 11]) (by kernel_rfl) (by simp) ?_
                      refine (AllReadyH.cons rfl (fun Kq hKq => ?_) (AllReadyH.cons rfl (fun Kq hKq => ?_) (AllReadyH.cons rfl (fun Kq hKq => ?_) AllReadyH.nil)))
                      · go_simp
                        refine (C49.out _ hS.bl).mono ?_
                        rintro e U46 ⟨rfl, LB⟩
                        have hS := hS.below LB
                        clear LB
                        refine hKq.out _ _ (hS.pre 4) (fun _ => ?_)
                        clear hKq Kq
                        exact R2.out U46 hS
                      · go_simp
                        have hS' := hS.newAt 4 U45.heap.size rfl 80 zF #[.int .u64 0, .int .u64 0, .int .u64 0, .int .u64 0, .int .u64 0, .int .u64 0, .int .u64 0, .int .u64 0] rfl
                        refine hKq.out _ _ (hS'.pre 4) (fun _ => ?_)
                        clear hKq Kq
                        generalize U45.alloc (.cells #[.int .u64 0, .int .u64 0, .int .u64 0, .int .u64 0, .int .u64 0, .int .u64 0, .int .u64 0, .int .u64 0] 80) = U47 at hS' ⊢
                        generalize U45.heap.size = g9 at hS' ⊢
                        exact R1a.out U47 g9 hS'
                      · go_simp
                        have hS' := hS.newAt 4 U45.heap.size rfl 80 zF #[.int .u64 0, .int .u64 0, .int .u64 0, .int .u64 0, .int .u64 0, .int .u64 0, .int .u64 0, .int .u64 0] rfl
                        refine hKq.out _ _ (hS'.pre 4) (fun _ => ?_)
                        clear hKq Kq
                        generalize U45.alloc (.cells #[.int .u64 0, .int .u64 0, .int .u64 0, .int .u64 0, .int .u64 0, .int .u64 0, .int .u64 0, .int .u64 0] 80) = U48 at hS' ⊢
                        generalize U45.heap.size = g10 at hS' ⊢
                        exact R1b.out U48 g10 hS'
                  · rintro U49 g9 g10 hS
                    refine wpAnyH_ready (rs := [4]) (by kernel_rfl) (by simp) ?_
                    refine (AllReadyH.cons rfl (fun Kq hKq => ?_) AllReadyH.nil)
                    · go_simp
                      refine (C44.out _ hS.bl).mono ?_
                      rintro e U50 ⟨rfl, LB⟩
                      have hS := hS.below LB
                      clear LB
                      refine hKq.out _ _ (hS.pre 4) (fun _ => ?_)
                      clear hKq Kq
                      exact R1ab.out U50 g9 g10 hS
                · rintro U51 g9 hS
                  refine wpAnyH_ready (rs := [9, 11]) (by kernel_rfl) (by simp) ?_
                  refine (AllReadyH.cons rfl (fun Kq hKq => ?_) (AllReadyH.cons rfl (fun Kq hKq => ?_) AllReadyH.nil))
                  · go_simp
                    refine (C49.out _ hS.bl).mono ?_
                    rintro e U52 ⟨rfl, LB⟩
                    have hS := hS.below LB
                    clear LB
                    refine hKq.out _ _ (hS.pre 4) (fun _ => ?_)
                    clear hKq Kq
                    exact R2a.out U52 g9 hS
                  · go_simp
                    have hS' := hS.newAt 5 U51.heap.size rfl 80 zF #[.int .u64 0, .int .u64 0, .int .u64 0, .int .u64 0, .int .u64 0, .int .u64 0, .int .u64 0, .int .u64 0] rfl
                    refine hKq.out _ _ (hS'.pre 4) (fun _ => ?_)
                    clear hKq Kq
                    generalize U51.alloc (.cells #[.int .u64 0, .int .u64 0, .int .u64 0, .int .u64 0, .int .u64 0, .int .u64 0, .int .u64 0, .int .u64 0] 80) = U53 at hS' ⊢
                    generalize U51.heap.size = g10 at hS' ⊢
                    exact R1ab.out U53 g9 g10 hS'
              · rintro U54 g10 hS
                refine wpAnyH_ready (rs := [9, 10]) (by kernel_rfl) (by simp) ?_
                refine (AllReadyH.cons rfl (fun Kq hKq => ?_) (AllReadyH.cons rfl (fun Kq hKq => ?_) AllReadyH.nil))
                · go_simp
                  refine (C49.out _ hS.bl).mono ?_
                  rintro e U55 ⟨rfl, LB⟩
                  have hS := hS.below LB
                  clear LB
                  refine hKq.out _ _ (hS.pre 4) (fun _ => ?_)
                  clear hKq Kq
                  exact R2b.out U55 g10 hS
                · go_simp
                  have hS' := hS.newAt 4 U54.heap.size rfl 80 zF #[.int .u64 0, .int .u64 0, .int .u64 0, .int .u64 0, .int .u64 0, .int .u64 0, .int .u64 0, .int .u64 0] rfl
                  refine hKq.out _ _ (hS'.pre 4) (fun _ => ?_)
                  clear hKq Kq
                  generalize U54.alloc (.cells #[.int .u64 0, .int .u64 0, .int .u64 0, .int .u64 0, .int .u64 0, .int .u64 0, .int .u64 0, .int .u64 0] 80) = U56 at hS' ⊢
                  generalize U54.heap.size = g9 at hS' ⊢
                  exact R1ab.out U56 g9 g10 hS'
            · rintro U57 hS
              refine wpAnyH_ready (rs := [10, 11]) (by kernel_rfl) (by simp) ?_
              refine (AllReadyH.cons rfl (fun Kq hKq => ?_) (AllReadyH.cons rfl (fun Kq hKq => ?_) AllReadyH.nil))
              · go_simp
                have hS' := hS.newAt 4 U57.heap.size rfl 80 zF #[.int .u64 0, .int .u64 0, .int .u64 0, .int .u64 0, .int .u64 0, .int .u64 0, .int .u64 0, .int .u64 0] rfl
                refine hKq.out _ _ (hS'.pre 4) (fun _ => ?_)
                clear hKq Kq
                generalize U57.alloc (.cells #[.int .u64 0, .int .u64 0, .int .u64 0, .int .u64 0, .int .u64 0, .int .u64 0, .int .u64 0, .int .u64 0] 80) = U58 at hS' ⊢
                generalize U57.heap.size = g9 at hS' ⊢
                exact R2a.out U58 g9 hS'
              · go_simp
                have hS' := hS.newAt 4 U57.heap.size rfl 80 zF #[.int .u64 0, .int .u64 0, .int .u64 0, .int .u64 0, .int .u64 0, .int .u64 0, .int .u64 0, .int .u64 0] rfl
                refine hKq.out _ _ (hS'.pre 4) (fun _ => ?_)
                clear hKq Kq
                generalize U57.alloc (.cells #[.int .u64 0, .int .u64 0, .int .u64 0, .int .u64 0, .int .u64 0, .int .u64 0, .int .u64 0, .int .u64 0] 80) = U59 at hS' ⊢
                generalize U57.heap.size = g10 at hS' ⊢
                exact R2b.out U59 g10 hS'
          · rintro U60 g9 g10 hS
            refine wpAnyH_ready (rs := [9]) (by kernel_rfl) (by simp) ?_
            refine (AllReadyH.cons rfl (fun Kq hKq => ?_) AllReadyH.nil)
            · go_simp
              refine (C49.out _ hS.bl).mono ?_
              rintro e U61 ⟨rfl, LB⟩
              have hS := hS.below LB
              clear LB
              refine hKq.out _ _ (hS.pre 4) (fun _ => ?_)
              clear hKq Kq
              exact R2ab.out U61 g9 g10 hS
        · rintro U62 g9 hS
          refine wpAnyH_ready (rs := [11]) (by kernel_rfl) (by simp) ?_
          refine (AllReadyH.cons rfl (fun Kq hKq => ?_) AllReadyH.nil)
          · go_simp
            have hS' := hS.newAt 5 U62.heap.size rfl 80 zF #[.int .u64 0, .int .u64 0, .int .u64 0, .int .u64 0, .int .u64 0, .int .u64 0, .int .u64 0, .int .u64 0] rfl
            refine hKq.out _ _ (hS'.pre 4) (fun _ => ?_)
            clear hKq Kq
            generalize U62.alloc (.cells #[.int .u64 0, .int .u64 0, .int .u64 0, .int .u64 0, .int .u64 0, .int .u64 0, .int .u64 0, .int .u64 0] 80) = U63 at hS' ⊢
            generalize U62.heap.size = g10 at hS' ⊢
            exact R2ab.out U63 g9 g10 hS'
      · rintro U64 g10 hS
        refine wpAnyH_ready (rs := [10]) (by kernel_rfl) (by simp) ?_
        refine (AllReadyH.cons rfl (fun Kq hKq => ?_) AllReadyH.nil)
        · go_simp
          have hS' := hS.newAt 4 U64.heap.size rfl 80 zF #[.int .u64 0, .int .u64 0, .int .u64 0, .int .u64 0, .int .u64 0, .int .u64 0, .int .u64 0, .int .u64 0] rfl
          refine hKq.out _ _ (hS'.pre 4) (fun _ => ?_)
          clear hKq Kq
          generalize U64.alloc (.cells #[.int .u64 0, .int .u64 0, .int .u64 0, .int .u64 0, .int .u64 0, .int .u64 0, .int .u64 0, .int .u64 0] 80) = U65 at hS' ⊢
          generalize U64.heap.size = g9 at hS' ⊢
          exact R2ab.out U65 g9 g10 hS'
    · rintro U66 g9 g10 hS
      have hst := stf (hS.get 4 rfl) rfl v44
      refine wpAnyH_ready (rs := [12]) (by kernel_rfl) (by simp) ?_
      refine AllReadyH.cons rfl (fun Kq hKq => ?_) AllReadyH.nil
      go_simp
      have hS' : Bx w [(w.heap.size, 92, (j3 x1 y1 z1)), (w.heap.size + 1, 92, (j3 x2 y2 z2)), (g7, 80, (fL v33)), (g8, 80, (fL v39)), (g9, 80, (fL v44)), (g10, 80, zF), (w.heap.size + 1 + 1, 92, z24)] (U66.setCells g9 0 (fL v44)) := hS.setAt 4 (fL v44) rfl rfl
      refine hKq.out _ _ (hS'.pre 4) (fun _ => ?_)
      clear hKq Kq hst hS
      have hS := hS'
      clear hS'
      generalize U66.setCells g9 0 (fL v44) = U67 at hS ⊢
      have hst := stf (hS.get 5 rfl) rfl v49
      refine wpAnyH_ready (rs := [13]) (by kernel_rfl) (by simp) ?_
      refine AllReadyH.cons rfl (fun Kq hKq => ?_) AllReadyH.nil
      go_simp
      have hS' : Bx w [(w.heap.size, 92, (j3 x1 y1 z1)), (w.heap.size + 1, 92, (j3 x2 y2 z2)), (g7, 80, (fL v33)), (g8, 80, (fL v39)), (g9, 80, (fL v44)), (g10, 80, (fL v49)), (w.heap.size + 1 + 1, 92, z24)] (U67.setCells g10 0 (fL v49)) := hS.setAt 5 (fL v49) rfl rfl
      refine hKq.out _ _ (hS'.pre 4) (fun _ => ?_)
      clear hKq Kq hst hS
      have hS := hS'
      clear hS'
      generalize U67.setCells g10 0 (fL v49) = U68 at hS ⊢
      refine wpAnyH_done (by kernel_rfl) ?_ _
      go_wp2
      have hS := hS.drew
      refine wp_region_held_drew (S := Bx w [(w.heap.size, 92, (j3 x1 y1 z1)), (w.heap.size + 1, 92, (j3 x2 y2 z2)), (g7, 80, (fL v33)), (g8, 80, (fL v39)), (g9, 80, (fL v44)), (g10, 80, (fL v49))]) (by kernel_rfl) (hS.pre 6) (fun _ => ?_)
      generalize U68.drew = U69 at hS ⊢
      have hP : Bx w [(w.heap.size, 92, (j3 x1 y1 z1)), (w.heap.size + 1, 92, (j3 x2 y2 z2)), (g7, 80, (fL v33)), (g8, 80, (fL v39)), (g9, 80, (fL v44)), (g10, 80, (fL v49))] U69 := hS.pre 6
      refine wpAnyH_take (i := 0) (v := ?_) rfl (by kernel_rfl) (by kernel_rfl) (by kernel_rfl) (fun _ _ _ h => h) (Or.inl ⟨by rfl, ?_⟩) (by assumption) ?_
      rotate_left
      · intro wq hSq
        go_simp
        try with_reducible rfl
      simp only [List.getElem_toArray, List.getElem_cons_zero, Act.put, List.setIfInBounds_toArray, List.set_cons_zero, List.set_cons_succ]
      refine wpAnyH_take (i := 1) (v := ?_) rfl (by kernel_rfl) (by kernel_rfl) (by kernel_rfl) (fun _ _ _ h => h) (Or.inl ⟨by rfl, ?_⟩) (by assumption) ?_
      rotate_left
      · intro wq hSq
        go_simp
        try with_reducible rfl
      simp only [List.getElem_toArray, List.getElem_cons_succ, List.getElem_cons_zero, Act.put, List.setIfInBounds_toArray, List.set_cons_zero, List.set_cons_succ]
      refine wpAnyH_take (i := 2) (v := ?_) rfl (by kernel_rfl) (by kernel_rfl) (by kernel_rfl) (fun _ _ _ h => h) (Or.inl ⟨by rfl, ?_⟩) (by assumption) ?_
      rotate_left
      · intro wq hSq
        have hl := (ldj3 (hSq.get 0 rfl)).2.1
        go_simp
        try with_reducible rfl
      simp only [List.getElem_toArray, List.getElem_cons_succ, List.getElem_cons_zero, Act.put, List.setIfInBounds_toArray, List.set_cons_zero, List.set_cons_succ]
      refine wpAnyH_take (i := 3) (v := ?_) rfl (by kernel_rfl) (by kernel_rfl) (by kernel_rfl) (fun _ _ _ h => h) (Or.inl ⟨by rfl, ?_⟩) (by assumption) ?_
      rotate_left
      · intro wq hSq
        go_simp
        try with_reducible rfl
      simp only [List.getElem_toArray, List.getElem_cons_succ, List.getElem_cons_zero, Act.put, List.setIfInBounds_toArray, List.set_cons_zero, List.set_cons_succ]
      refine wpAnyH_take (i := 4) (v := ?_) rfl (by kernel_rfl) (by kernel_rfl) (by kernel_rfl) (fun _ _ _ h => h) (Or.inl ⟨by rfl, ?_⟩) (by assumption) ?_
      rotate_left
      · intro wq hSq
        have hl := ldf (hSq.get 3 rfl)
        go_simp
        try with_reducible rfl
      simp only [List.getElem_toArray, List.getElem_cons_succ, List.getElem_cons_zero, Act.put, List.setIfInBounds_toArray, List.set_cons_zero, List.set_cons_succ]
      refine wpAnyH_take (i := 5) (v := ?_) rfl (by kernel_rfl) (by kernel_rfl) (by kernel_rfl) (fun _ _ _ h => h) (Or.inl ⟨by rfl, ?_⟩) (by assumption) ?_
      rotate_left
      · intro wq hSq
        go_simp
        try with_reducible rfl
      simp only [List.getElem_toArray, List.getElem_cons_succ, List.getElem_cons_zero, Act.put, List.setIfInBounds_toArray, List.set_cons_zero, List.set_cons_succ]
      refine wpAnyH_take (i := 6) (v := ?_) rfl (by kernel_rfl) (by kernel_rfl) (by kernel_rfl) (fun _ _ _ h => h) (Or.inl ⟨by rfl, ?_⟩) (by assumption) ?_
      rotate_left
      · intro wq hSq
        have hl := (ldj3 (hSq.get 1 rfl)).2.2
        go_simp
        try with_reducible rfl
      simp only [List.getElem_toArray, List.getElem_cons_succ, List.getElem_cons_zero, Act.put, List.setIfInBounds_toArray, List.set_cons_zero, List.set_cons_succ]
      refine wpAnyH_take (i := 9) (v := ?_) rfl (by kernel_rfl) (by kernel_rfl) (by kernel_rfl) (fun _ _ _ h => h) (Or.inl ⟨by rfl, ?_⟩) (by assumption) ?_
      rotate_left
      · intro wq hSq
        go_simp
        try with_reducible rfl
      simp only [List.getElem_toArray, List.getElem_cons_succ, List.getElem_cons_zero, Act.put, List.setIfInBounds_toArray, List.set_cons_zero, List.set_cons_succ]
      refine wpAnyH_take (i := 10) (v := ?_) rfl (by kernel_rfl) (by kernel_rfl) (by kernel_rfl) (fun _ _ _ h => h) (Or.inl ⟨by rfl, ?_⟩) (by assumption) ?_
      rotate_left
      · intro wq hSq
        go_simp
        try with_reducible rfl
      simp only [List.getElem_toArray, List.getElem_cons_succ, List.getElem_cons_zero, Act.put, List.setIfInBounds_toArray, List.set_cons_zero, List.set_cons_succ]
      refine wpAnyH_take (i := 11) (v := ?_) rfl (by kernel_rfl) (by kernel_rfl) (by kernel_rfl) (fun _ _ _ h => h) (Or.inl ⟨by rfl, ?_⟩) (by assumption) ?_
      rotate_left
      · intro wq hSq
        have hl := (ldj3 (hSq.get 1 rfl)).2.1
        go_simp
        try with_reducible rfl
      simp only [List.getElem_toArray, List.getElem_cons_succ, List.getElem_cons_zero, Act.put, List.setIfInBounds_toArray, List.set_cons_zero, List.set_cons_succ]
      refine wpAnyH_take (i := 12) (v := ?_) rfl (by kernel_rfl) (by kernel_rfl) (by kernel_rfl) (fun _ _ _ h => h) (Or.inl ⟨by rfl, ?_⟩) (by assumption) ?_
      rotate_left
      · intro wq hSq
        go_simp
        try with_reducible rfl
      simp only [List.getElem_toArray, List.getElem_cons_succ, List.getElem_cons_zero, Act.put, List.setIfInBounds_toArray, List.set_cons_zero, List.set_cons_succ]
      refine wpAnyH_take (i := 13) (v := ?_) rfl (by kernel_rfl) (by kernel_rfl) (by kernel_rfl) (fun _ _ _ h => h) (Or.inl ⟨by rfl, ?_⟩) (by assumption) ?_
      rotate_left
      · intro wq hSq
        have hl := ldf (hSq.get 2 rfl)
        go_simp
        try with_reducible rfl
      simp only [List.getElem_toArray, List.getElem_cons_succ, List.getElem_cons_zero, Act.put, List.setIfInBounds_toArray, List.set_cons_zero, List.set_cons_succ]
      refine wpAnyH_take (i := 14) (v := ?_) rfl (by kernel_rfl) (by kernel_rfl) (by kernel_rfl) (fun _ _ _ h => h) (Or.inl ⟨by rfl, ?_⟩) (by assumption) ?_
      rotate_left
      · intro wq hSq
        go_simp
        try with_reducible rfl
      simp only [List.getElem_toArray, List.getElem_cons_succ, List.getElem_cons_zero, Act.put, List.setIfInBounds_toArray, List.set_cons_zero, List.set_cons_succ]
      refine wpAnyH_take (i := 15) (v := ?_) rfl (by kernel_rfl) (by kernel_rfl) (by kernel_rfl) (fun _ _ _ h => h) (Or.inl ⟨by rfl, ?_⟩) (by assumption) ?_
      rotate_left
      · intro wq hSq
        have hl := (ldj3 (hSq.get 0 rfl)).2.2
        go_simp
        try with_reducible rfl
      simp only [List.getElem_toArray, List.getElem_cons_succ, List.getElem_cons_zero, Act.put, List.setIfInBounds_toArray, List.set_cons_zero, List.set_cons_succ]
      clear hP
      refine' mk_rest2 (K := fun W g11 g12 => Bx w [(w.heap.size, 92, (j3 x1 y1 z1)), (w.heap.size + 1, 92, (j3 x2 y2 z2)), (g7, 80, (fL v33)), (g8, 80, (fL v39)), (g9, 80, (fL v44)), (g10, 80, (fL v49)), (g11, 80, zF), (g12, 80, zF), (w.heap.size + 1 + 1, 92, z24)] W) (fun R4ab => ?_) ?_
      rotate_left
      · skip
        refine' mk_restN (K := fun W g12 => Bx w [(w.heap.size, 92, (j3 x1 y1 z1)), (w.heap.size + 1, 92, (j3 x2 y2 z2)), (g7, 80, (fL v33)), (g8, 80, (fL v39)), (g9, 80, (fL v44)), (g10, 80, (fL v49)), (g12, 80, zF), (w.heap.size + 1 + 1, 92, z24)] W) (fun R4b => ?_) ?_
        rotate_left
        · skip
          refine' mk_restN (K := fun W g11 => Bx w [(w.heap.size, 92, (j3 x1 y1 z1)), (w.heap.size + 1, 92, (j3 x2 y2 z2)), (g7, 80, (fL v33)), (g8, 80, (fL v39)), (g9, 80, (fL v44)), (g10, 80, (fL v49)), (g11, 80, zF), (w.heap.size + 1 + 1, 92, z24)] W) (fun R4a => ?_) ?_
          rotate_left
          · skip
            refine' mk_rest2 (K := fun W g11 g12 => Bx w [(w.heap.size, 92, (j3 x1 y1 z1)), (w.heap.size + 1, 92, (j3 x2 y2 z2)), (g7, 80, (fL v33)), (g8, 80, (fL v39)), (g9, 80, (fL v44)), (g10, 80, (fL v49)), (g11, 80, zF), (g12, 80, zF), (w.heap.size + 1 + 1, 92, z24)] W) (fun R3ab => ?_) ?_
            rotate_left
            · skip
              refine' mk_restW (K := fun W => Bx w [(w.heap.size, 92, (j3 x1 y1 z1)), (w.heap.size + 1, 92, (j3 x2 y2 z2)), (g7, 80, (fL v33)), (g8, 80, (fL v39)), (g9, 80, (fL v44)), (g10, 80, (fL v49)), (w.heap.size + 1 + 1, 92, z24)] W) (fun R4 => ?_) ?_
              rotate_left
              · skip
                refine' mk_restN (K := fun W g12 => Bx w [(w.heap.size, 92, (j3 x1 y1 z1)), (w.heap.size + 1, 92, (j3 x2 y2 z2)), (g7, 80, (fL v33)), (g8, 80, (fL v39)), (g9, 80, (fL v44)), (g10, 80, (fL v49)), (g12, 80, zF), (w.heap.size + 1 + 1, 92, z24)] W) (fun R3b => ?_) ?_
                rotate_left
                · skip
                  refine' mk_restN (K := fun W g11 => Bx w [(w.heap.size, 92, (j3 x1 y1 z1)), (w.heap.size + 1, 92, (j3 x2 y2 z2)), (g7, 80, (fL v33)), (g8, 80, (fL v39)), (g9, 80, (fL v44)), (g10, 80, (fL v49)), (g11, 80, zF), (w.heap.size + 1 + 1, 92, z24)] W) (fun R3a => ?_) ?_
                  rotate_left
                  · skip
                    refine' mk_rest2 (K := fun W g11 g12 => Bx w [(w.heap.size, 92, (j3 x1 y1 z1)), (w.heap.size + 1, 92, (j3 x2 y2 z2)), (g7, 80, (fL v33)), (g8, 80, (fL v39)), (g9, 80, (fL v44)), (g10, 80, (fL v49)), (g11, 80, zF), (g12, 80, zF), (w.heap.size + 1 + 1, 92, z24)] W) (fun R2ab => ?_) ?_
                    rotate_left
                    · skip
                      refine' mk_restW (K := fun W => Bx w [(w.heap.size, 92, (j3 x1 y1 z1)), (w.heap.size + 1, 92, (j3 x2 y2 z2)), (g7, 80, (fL v33)), (g8, 80, (fL v39)), (g9, 80, (fL v44)), (g10, 80, (fL v49)), (w.heap.size + 1 + 1, 92, z24)] W) (fun R3 => ?_) ?_
                      rotate_left
                      · skip
                        refine' mk_restN (K := fun W g12 => Bx w [(w.heap.size, 92, (j3 x1 y1 z1)), (w.heap.size + 1, 92, (j3 x2 y2 z2)), (g7, 80, (fL v33)), (g8, 80, (fL v39)), (g9, 80, (fL v44)), (g10, 80, (fL v49)), (g12, 80, zF), (w.heap.size + 1 + 1, 92, z24)] W) (fun R2b => ?_) ?_
                        rotate_left
                        · skip
                          refine' mk_restN (K := fun W g11 => Bx w [(w.heap.size, 92, (j3 x1 y1 z1)), (w.heap.size + 1, 92, (j3 x2 y2 z2)), (g7, 80, (fL v33)), (g8, 80, (fL v39)), (g9, 80, (fL v44)), (g10, 80, (fL v49)), (g11, 80, zF), (w.heap.size + 1 + 1, 92, z24)] W) (fun R2a => ?_) ?_
                          rotate_left
                          · skip
                            refine' mk_rest2 (K := fun W g11 g12 => Bx w [(w.heap.size, 92, (j3 x1 y1 z1)), (w.heap.size + 1, 92, (j3 x2 y2 z2)), (g7, 80, (fL v33)), (g8, 80, (fL v39)), (g9, 80, (fL v44)), (g10, 80, (fL v49)), (g11, 80, zF), (g12, 80, zF), (w.heap.size + 1 + 1, 92, z24)] W) (fun R1ab => ?_) ?_
                            rotate_left
                            · skip
                              refine' mk_restW (K := fun W => Bx w [(w.heap.size, 92, (j3 x1 y1 z1)), (w.heap.size + 1, 92, (j3 x2 y2 z2)), (g7, 80, (fL v33)), (g8, 80, (fL v39)), (g9, 80, (fL v44)), (g10, 80, (fL v49)), (w.heap.size + 1 + 1, 92, z24)] W) (fun R2 => ?_) ?_
                              rotate_left
                              · skip
                                refine' mk_restN (K := fun W g12 => Bx w [(w.heap.size, 92, (j3 x1 y1 z1)), (w.heap.size + 1, 92, (j3 x2 y2 z2)), (g7, 80, (fL v33)), (g8, 80, (fL v39)), (g9, 80, (fL v44)), (g10, 80, (fL v49)), (g12, 80, zF), (w.heap.size + 1 + 1, 92, z24)] W) (fun R1b => ?_) ?_
                                rotate_left
                                · skip
                                  refine' mk_restN (K := fun W g11 => Bx w [(w.heap.size, 92, (j3 x1 y1 z1)), (w.heap.size + 1, 92, (j3 x2 y2 z2)), (g7, 80, (fL v33)), (g8, 80, (fL v39)), (g9, 80, (fL v44)), (g10, 80, (fL v49)), (g11, 80, zF), (w.heap.size + 1 + 1, 92, z24)] W) (fun R1a => ?_) ?_
                                  rotate_left
                                  · skip
                                    refine' mk_rest2 (K := fun W g11 g12 => Bx w [(w.heap.size, 92, (j3 x1 y1 z1)), (w.heap.size + 1, 92, (j3 x2 y2 z2)), (g7, 80, (fL v33)), (g8, 80, (fL v39)), (g9, 80, (fL v44)), (g10, 80, (fL v49)), (g11, 80, zF), (g12, 80, zF), (w.heap.size + 1 + 1, 92, z24)] W) (fun R0ab => ?_) ?_
                                    rotate_left
                                    · skip
                                      refine' mk_restW (K := fun W => Bx w [(w.heap.size, 92, (j3 x1 y1 z1)), (w.heap.size + 1, 92, (j3 x2 y2 z2)), (g7, 80, (fL v33)), (g8, 80, (fL v39)), (g9, 80, (fL v44)), (g10, 80, (fL v49)), (w.heap.size + 1 + 1, 92, z24)] W) (fun R1 => ?_) ?_
                                      rotate_left
                                      · skip
                                        refine' mk_restN (K := fun W g12 => Bx w [(w.heap.size, 92, (j3 x1 y1 z1)), (w.heap.size + 1, 92, (j3 x2 y2 z2)), (g7, 80, (fL v33)), (g8, 80, (fL v39)), (g9, 80, (fL v44)), (g10, 80, (fL v49)), (g12, 80, zF), (w.heap.size + 1 + 1, 92, z24)] W) (fun R0b => ?_) ?_
                                        rotate_left
                                        · skip
                                          refine' mk_restN (K := fun W g11 => Bx w [(w.heap.size, 92, (j3 x1 y1 z1)), (w.heap.size + 1, 92, (j3 x2 y2 z2)), (g7, 80, (fL v33)), (g8, 80, (fL v39)), (g9, 80, (fL v44)), (g10, 80, (fL v49)), (g11, 80, zF), (w.heap.size + 1 + 1, 92, z24)] W) (fun R0a => ?_) ?_
                                          rotate_left
                                          · skip
                                            refine wpAnyH_ready (rs := [7, 18, 19]) (by kernel_rfl) (by simp) ?_
                                            refine (AllReadyH.cons rfl (fun Kq hKq => ?_) (AllReadyH.cons rfl (fun Kq hKq => ?_) (AllReadyH.cons rfl (fun Kq hKq => ?_) AllReadyH.nil)))
                                            · go_simp
                                              refine (C57.out _ hS.bl).mono ?_
                                              rintro e U70 ⟨rfl, LB⟩
                                              have hS := hS.below LB
                                              clear LB
                                              refine hKq.out _ _ (hS.pre 6) (fun _ => ?_)
                                              clear hKq Kq
                                              exact R1.out U70 hS
                                            · go_simp
                                              have hS' := hS.newAt 6 U69.heap.size rfl 80 zF #[.int .u64 0, .int .u64 0, .int .u64 0, .int .u64 0, .int .u64 0, .int .u64 0, .int .u64 0, .int .u64 0] rfl
                                              refine hKq.out _ _ (hS'.pre 6) (fun _ => ?_)
                                              clear hKq Kq
                                              generalize U69.alloc (.cells #[.int .u64 0, .int .u64 0, .int .u64 0, .int .u64 0, .int .u64 0, .int .u64 0, .int .u64 0, .int .u64 0] 80) = U71 at hS' ⊢
                                              generalize U69.heap.size = g11 at hS' ⊢
                                              exact R0a.out U71 g11 hS'
                                            · go_simp
                                              have hS' := hS.newAt 6 U69.heap.size rfl 80 zF #[.int .u64 0, .int .u64 0, .int .u64 0, .int .u64 0, .int .u64 0, .int .u64 0, .int .u64 0, .int .u64 0] rfl
                                              refine hKq.out _ _ (hS'.pre 6) (fun _ => ?_)
                                              clear hKq Kq
                                              generalize U69.alloc (.cells #[.int .u64 0, .int .u64 0, .int .u64 0, .int .u64 0, .int .u64 0, .int .u64 0, .int .u64 0, .int .u64 0] 80) = U72 at hS' ⊢
                                              generalize U69.heap.size = g12 at hS' ⊢
                                              exact R0b.out U72 g12 hS'
                                          · rintro U73 g11 hS
                                            refine wpAnyH_ready (rs := [7, 19]) (by kernel_rfl) (by simp) ?_
                                            refine (AllReadyH.cons rfl (fun Kq hKq => ?_) (AllReadyH.cons rfl (fun Kq hKq => ?_) AllReadyH.nil))
                                            · go_simp
                                              refine (C57.out _ hS.bl).mono ?_
                                              rintro e U74 ⟨rfl, LB⟩
                                              have hS := hS.below LB
                                              clear LB
                                              refine hKq.out _ _ (hS.pre 6) (fun _ => ?_)
                                              clear hKq Kq
                                              exact R1a.out U74 g11 hS
                                            · go_simp
                                              have hS' := hS.newAt 7 U73.heap.size rfl 80 zF #[.int .u64 0, .int .u64 0, .int .u64 0, .int .u64 0, .int .u64 0, .int .u64 0, .int .u64 0, .int .u64 0] rfl
                                              refine hKq.out _ _ (hS'.pre 6) (fun _ => ?_)
                                              clear hKq Kq
                                              generalize U73.alloc (.cells #[.int .u64 0, .int .u64 0, .int .u64 0, .int .u64 0, .int .u64 0, .int .u64 0, .int .u64 0, .int .u64 0] 80) = U75 at hS' ⊢
                                              generalize U73.heap.size = g12 at hS' ⊢
                                              exact R0ab.out U75 g11 g12 hS'
                                        · rintro U76 g12 hS
                                          refine wpAnyH_ready (rs := [7, 18]) (by kernel_rfl) (by simp) ?_
                                          refine (AllReadyH.cons rfl (fun Kq hKq => ?_) (AllReadyH.cons rfl (fun Kq hKq => ?_) AllReadyH.nil))
                                          · go_simp
                                            refine (C57.out _ hS.bl).mono ?_
                                            rintro e U77 ⟨rfl, LB⟩
                                            have hS := hS.below LB
                                            clear LB
                                            refine hKq.out _ _ (hS.pre 6) (fun _ => ?_)
                                            clear hKq Kq
                                            exact R1b.out U77 g12 hS
                                          · go_simp
                                            have hS' := hS.newAt 6 U76.heap.size rfl 80 zF #[.int .u64 0, .int .u64 0, .int .u64 0, .int .u64 0, .int .u64 0, .int .u64 0, .int .u64 0, .int .u64 0] rfl
                                            refine hKq.out _ _ (hS'.pre 6) (fun _ => ?_)
                                            clear hKq Kq
                                            generalize U76.alloc (.cells #[.int .u64 0, .int .u64 0, .int .u64 0, .int .u64 0, .int .u64 0, .int .u64 0, .int .u64 0, .int .u64 0] 80) = U78 at hS' ⊢
                                            generalize U76.heap.size = g11 at hS' ⊢
                                            exact R0ab.out U78 g11 g12 hS'
                                      · rintro U79 hS
                                        refine wpAnyH_ready (rs := [8, 18, 19]) (by kernel_rfl) (by simp) ?_
                                        refine (AllReadyH.cons rfl (fun Kq hKq => ?_) (AllReadyH.cons rfl (fun Kq hKq => ?_) (AllReadyH.cons rfl (fun Kq hKq => ?_) AllReadyH.nil)))
                                        · go_simp
                                          refine (C58.out _ hS.bl).mono ?_
                                          rintro e U80 ⟨rfl, LB⟩
                                          have hS := hS.below LB
                                          clear LB
                                          refine hKq.out _ _ (hS.pre 6) (fun _ => ?_)
                                          clear hKq Kq
                                          exact R2.out U80 hS
                                        · go_simp
                                          have hS' := hS.newAt 6 U79.heap.size rfl 80 zF #[.int .u64 0, .int .u64 0, .int .u64 0, .int .u64 0, .int .u64 0, .int .u64 0, .int .u64 0, .int .u64 0] rfl
                                          refine hKq.out _ _ (hS'.pre 6) (fun _ => ?_)
                                          clear hKq Kq
                                          generalize U79.alloc (.cells #[.int .u64 0, .int .u64 0, .int .u64 0, .int .u64 0, .int .u64 0, .int .u64 0, .int .u64 0, .int .u64 0] 80) = U81 at hS' ⊢
                                          generalize U79.heap.size = g11 at hS' ⊢
                                          exact R1a.out U81 g11 hS'
                                        · go_simp
                                          have hS' := hS.newAt 6 U79.heap.size rfl 80 zF #[.int .u64 0, .int .u64 0, .int .u64 0, .int .u64 0, .int .u64 0, .int .u64 0, .int .u64 0, .int .u64 0] rfl
                                          refine hKq.out _ _ (hS'.pre 6) (fun _ => ?_)
                                          clear hKq Kq
                                          generalize U79.alloc (.cells #[.int .u64 0, .int .u64 0, .int .u64 0, .int .u64 0, .int .u64 0, .int .u64 0, .int .u64 0, .int .u64 0] 80) = U82 at hS' ⊢
                                          generalize U79.heap.size = g12 at hS' ⊢
                                          exact R1b.out U82 g12 hS'
                                    · rintro U83 g11 g12 hS
                                      refine wpAnyH_ready (rs := [7]) (by kernel_rfl) (by simp) ?_
                                      refine (AllReadyH.cons rfl (fun Kq hKq => ?_) AllReadyH.nil)
                                      · go_simp
                                        refine (C57.out _ hS.bl).mono ?_
                                        rintro e U84 ⟨rfl, LB⟩
                                        have hS := hS.below LB
                                        clear LB
                                        refine hKq.out _ _ (hS.pre 6) (fun _ => ?_)
                                        clear hKq Kq
                                        exact R1ab.out U84 g11 g12 hS
                                  · rintro U85 g11 hS
                                    refine wpAnyH_ready (rs := [8, 19]) (by kernel_rfl) (by simp) ?_
                                    refine (AllReadyH.cons rfl (fun Kq hKq => ?_) (AllReadyH.cons rfl (fun Kq hKq => ?_) AllReadyH.nil))
                                    · go_simp
                                      refine (C58.out _ hS.bl).mono ?_
                                      rintro e U86 ⟨rfl, LB⟩
                                      have hS := hS.below LB
                                      clear LB
                                      refine hKq.out _ _ (hS.pre 6) (fun _ => ?_)
                                      clear hKq Kq
                                      exact R2a.out U86 g11 hS
                                    · go_simp
                                      have hS' := hS.newAt 7 U85.heap.size rfl 80 zF #[.int .u64 0, .int .u64 0, .int .u64 0, .int .u64 0, .int .u64 0, .int .u64 0, .int .u64 0, .int .u64 0] rfl
                                      refine hKq.out _ _ (hS'.pre 6) (fun _ => ?_)
                                      clear hKq Kq
                                      generalize U85.alloc (.cells #[.int .u64 0, .int .u64 0, .int .u64 0, .int .u64 0, .int .u64 0, .int .u64 0, .int .u64 0, .int .u64 0] 80) = U87 at hS' ⊢
                                      generalize U85.heap.size = g12 at hS' ⊢
                                      exact R1ab.out U87 g11 g12 hS'
                                · rintro U88 g12 hS
                                  refine wpAnyH_ready (rs := [8, 18]) (by kernel_rfl) (by simp) ?_
                                  refine (AllReadyH.cons rfl (fun Kq hKq => ?_) (AllReadyH.cons rfl (fun Kq hKq => ?_) AllReadyH.nil))
                                  · go_simp
                                    refine (C58.out _ hS.bl).mono ?_
                                    rintro e U89 ⟨rfl, LB⟩
                                    have hS := hS.below LB
                                    clear LB
                                    refine hKq.out _ _ (hS.pre 6) (fun _ => ?_)
                                    clear hKq Kq
                                    exact R2b.out U89 g12 hS
                                  · go_simp
                                    have hS' := hS.newAt 6 U88.heap.size rfl 80 zF #[.int .u64 0, .int .u64 0, .int .u64 0, .int .u64 0, .int .u64 0, .int .u64 0, .int .u64 0, .int .u64 0] rfl
                                    refine hKq.out _ _ (hS'.pre 6) (fun _ => ?_)
                                    clear hKq Kq
                                    generalize U88.alloc (.cells #[.int .u64 0, .int .u64 0, .int .u64 0, .int .u64 0, .int .u64 0, .int .u64 0, .int .u64 0, .int .u64 0] 80) = U90 at hS' ⊢
                                    generalize U88.heap.size = g11 at hS' ⊢
                                    exact R1ab.out U90 g11 g12 hS'
                              · rintro U91 hS
                                refine wpAnyH_ready (rs := [16, 18, 19]) (by kernel_rfl) (by simp) ?_
                                refine (AllReadyH.cons rfl (fun Kq hKq => ?_) (AllReadyH.cons rfl (fun Kq hKq => ?_) (AllReadyH.cons rfl (fun Kq hKq => ?_) AllReadyH.nil)))
                                · go_simp
                                  refine (C66.out _ hS.bl).mono ?_
                                  rintro e U92 ⟨rfl, LB⟩
                                  have hS := hS.below LB
                                  clear LB
                                  refine hKq.out _ _ (hS.pre 6) (fun _ => ?_)
                                  clear hKq Kq
                                  exact R3.out U92 hS
                                · go_simp
                                  have hS' := hS.newAt 6 U91.heap.size rfl 80 zF #[.int .u64 0, .int .u64 0, .int .u64 0, .int .u64 0, .int .u64 0, .int .u64 0, .int .u64 0, .int .u64 0] rfl
                                  refine hKq.out _ _ (hS'.pre 6) (fun _ => ?_)
                                  clear hKq Kq
                                  generalize U91.alloc (.cells #[.int .u64 0, .int .u64 0, .int .u64 0, .int .u64 0, .int .u64 0, .int .u64 0, .int .u64 0, .int .u64 0] 80) = U93 at hS' ⊢
                                  generalize U91.heap.size = g11 at hS' ⊢
                                  exact R2a.out U93 g11 hS'
                                · go_simp
                                  have hS' := hS.newAt 6 U91.heap.size rfl 80 zF #[.int .u64 0, .int .u64 0, .int .u64 0, .int .u64 0, .int .u64 0, .int .u64 0, .int .u64 0, .int .u64 0] rfl
                                  refine hKq.out _ _ (hS'.pre 6) (fun _ => ?_)
                                  clear hKq Kq
                                  generalize U91.alloc (.cells #[.int .u64 0, .int .u64 0, .int .u64 0, .int .u64 0, .int .u64 0, .int .u64 0, .int .u64 0, .int .u64 0] 80) = U94 at hS' ⊢
                                  generalize U91.heap.size = g12 at hS' ⊢
                                  exact R2b.out U94 g12 hS'
                            · rintro U95 g11 g12 hS
                              refine wpAnyH_ready (rs := [8]) (by kernel_rfl) (by simp) ?_
                              refine (AllReadyH.cons rfl (fun Kq hKq => ?_) AllReadyH.nil)
                              · go_simp
                                refine (C58.out _ hS.bl).mono ?_
                                rintro e U96 ⟨rfl, LB⟩
                                have hS := hS.below LB
                                clear LB
                                refine hKq.out _ _ (hS.pre 6) (fun _ => ?_)
                                clear hKq Kq
                                exact R2ab.out U96 g11 g12 hS
                          · rintro U97 g11 hS
                            refine wpAnyH_ready (rs := [16, 19]) (by kernel_rfl) (by simp) ?_
                            refine (AllReadyH.cons rfl (fun Kq hKq => ?_) (AllReadyH.cons rfl (fun Kq hKq => ?_) AllReadyH.nil))
                            · go_simp
                              refine (C66.out _ hS.bl).mono ?_
                              rintro e U98 ⟨rfl, LB⟩
                              have hS := hS.below LB
                              clear LB
                              refine hKq.out _ _ (hS.pre 6) (fun _ => ?_)
                              clear hKq Kq
                              exact R3a.out U98 g11 hS
                            · go_simp
                              have hS' := hS.newAt 7 U97.heap.size rfl 80 zF #[.int .u64 0, .int .u64 0, .int .u64 0, .int .u64 0, .int .u64 0, .int .u64 0, .int .u64 0, .int .u64 0] rfl
                              refine hKq.out _ _ (hS'.pre 6) (fun _ => ?_)
                              clear hKq Kq
                              generalize U97.alloc (.cells #[.int .u64 0, .int .u64 0, .int .u64 0, .int .u64 0, .int .u64 0, .int .u64 0, .int .u64 0, .int .u64 0] 80) = U99 at hS' ⊢
                              generalize U97.heap.size = g12 at hS' ⊢
                              exact R2ab.out U99 g11 g12 hS'
                        · rintro U100 g12 hS
                          refine wpAnyH_ready (rs := [16, 18]) (by kernel_rfl) (by simp) ?_
                          refine (AllReadyH.cons rfl (fun Kq hKq => ?_) (AllReadyH.cons rfl (fun Kq hKq => ?_) AllReadyH.nil))
                          · go_simp
                            refine (C66.out _ hS.bl).mono ?_
                            rintro e U101 ⟨rfl, LB⟩
                            have hS := hS.below LB
                            clear LB
                            refine hKq.out _ _ (hS.pre 6) (fun _ => ?_)
                            clear hKq Kq
                            exact R3b.out U101 g12 hS
                          · go_simp
                            have hS' := hS.newAt 6 U100.heap.size rfl 80 zF #[.int .u64 0, .int .u64 0, .int .u64 0, .int .u64 0, .int .u64 0, .int .u64 0, .int .u64 0, .int .u64 0] rfl
                            refine hKq.out _ _ (hS'.pre 6) (fun _ => ?_)
                            clear hKq Kq
                            generalize U100.alloc (.cells #[.int .u64 0, .int .u64 0, .int .u64 0, .int .u64 0, .int .u64 0, .int .u64 0, .int .u64 0, .int .u64 0] 80) = U102 at hS' ⊢
                            generalize U100.heap.size = g11 at hS' ⊢
                            exact R2ab.out U102 g11 g12 hS'
                      · rintro U103 hS
                        refine wpAnyH_ready (rs := [17, 18, 19]) (by kernel_rfl) (by simp) ?_
                        refine (AllReadyH.cons rfl (fun Kq hKq => ?_) (AllReadyH.cons rfl (fun Kq hKq => ?_) (AllReadyH.cons rfl (fun Kq hKq => ?_) AllReadyH.nil)))
                        · go_simp
                          refine (C67.out _ hS.bl).mono ?_
                          rintro e U104 ⟨rfl, LB⟩
                          have hS := hS.below LB
                          clear LB
                          refine hKq.out _ _ (hS.pre 6) (fun _ => ?_)
                          clear hKq Kq
                          exact R4.out U104 hS
                        · go_simp
                          have hS' := hS.newAt 6 U103.heap.size rfl 80 zF #[.int .u64 0, .int .u64 0, .int .u64 0, .int .u64 0, .int .u64 0, .int .u64 0, .int .u64 0, .int .u64 0] rfl
                          refine hKq.out _ _ (hS'.pre 6) (fun _ => ?_)
                          clear hKq Kq
                          generalize U103.alloc (.cells #[.int .u64 0, .int .u64 0, .int .u64 0, .int .u64 0, .int .u64 0, .int .u64 0, .int .u64 0, .int .u64 0] 80) = U105 at hS' ⊢
                          generalize U103.heap.size = g11 at hS' ⊢
                          exact R3a.out U105 g11 hS'
                        · go_simp
                          have hS' := hS.newAt 6 U103.heap.size rfl 80 zF #[.int .u64 0, .int .u64 0, .int .u64 0, .int .u64 0, .int .u64 0, .int .u64 0, .int .u64 0, .int .u64 0] rfl
                          refine hKq.out _ _ (hS'.pre 6) (fun _ => ?_)
                          clear hKq Kq
                          generalize U103.alloc (.cells #[.int .u64 0, .int .u64 0, .int .u64 0, .int .u64 0, .int .u64 0, .int .u64 0, .int .u64 0, .int .u64 0] 80) = U106 at hS' ⊢
                          generalize U103.heap.size = g12 at hS' ⊢
                          exact R3b.out U106 g12 hS'
                    · rintro U107 g11 g12 hS
                      refine wpAnyH_ready (rs := [16]) (by kernel_rfl) (by simp) ?_
                      refine (AllReadyH.cons rfl (fun Kq hKq => ?_) AllReadyH.nil)
                      · go_simp
                        refine (C66.out _ hS.bl).mono ?_
                        rintro e U108 ⟨rfl, LB⟩
                        have hS := hS.below LB
                        clear LB
                        refine hKq.out _ _ (hS.pre 6) (fun _ => ?_)
                        clear hKq Kq
                        exact R3ab.out U108 g11 g12 hS
                  · rintro U109 g11 hS
                    refine wpAnyH_ready (rs := [17, 19]) (by kernel_rfl) (by simp) ?_
                    refine (AllReadyH.cons rfl (fun Kq hKq => ?_) (AllReadyH.cons rfl (fun Kq hKq => ?_) AllReadyH.nil))
                    · go_simp
                      refine (C67.out _ hS.bl).mono ?_
                      rintro e U110 ⟨rfl, LB⟩
                      have hS := hS.below LB
                      clear LB
                      refine hKq.out _ _ (hS.pre 6) (fun _ => ?_)
                      clear hKq Kq
                      exact R4a.out U110 g11 hS
                    · go_simp
                      have hS' := hS.newAt 7 U109.heap.size rfl 80 zF #[.int .u64 0, .int .u64 0, .int .u64 0, .int .u64 0, .int .u64 0, .int .u64 0, .int .u64 0, .int .u64 0] rfl
                      refine hKq.out _ _ (hS'.pre 6) (fun _ => ?_)
                      clear hKq Kq
                      generalize U109.alloc (.cells #[.int .u64 0, .int .u64 0, .int .u64 0, .int .u64 0, .int .u64 0, .int .u64 0, .int .u64 0, .int .u64 0] 80) = U111 at hS' ⊢
                      generalize U109.heap.size = g12 at hS' ⊢
                      exact R3ab.out U111 g11 g12 hS'
                · rintro U112 g12 hS
                  refine wpAnyH_ready (rs := [17, 18]) (by kernel_rfl) (by simp) ?_
                  refine (AllReadyH.cons rfl (fun Kq hKq => ?_) (AllReadyH.cons rfl (fun Kq hKq => ?_) AllReadyH.nil))
                  · go_simp
                    refine (C67.out _ hS.bl).mono ?_
                    rintro e U113 ⟨rfl, LB⟩
                    have hS := hS.below LB
                    clear LB
                    refine hKq.out _ _ (hS.pre 6) (fun _ => ?_)
                    clear hKq Kq
                    exact R4b.out U113 g12 hS
                  · go_simp
                    have hS' := hS.newAt 6 U112.heap.size rfl 80 zF #[.int .u64 0, .int .u64 0, .int .u64 0, .int .u64 0, .int .u64 0, .int .u64 0, .int .u64 0, .int .u64 0] rfl
                    refine hKq.out _ _ (hS'.pre 6) (fun _ => ?_)
                    clear hKq Kq
                    generalize U112.alloc (.cells #[.int .u64 0, .int .u64 0, .int .u64 0, .int .u64 0, .int .u64 0, .int .u64 0, .int .u64 0, .int .u64 0] 80) = U114 at hS' ⊢
                    generalize U112.heap.size = g11 at hS' ⊢
                    exact R3ab.out U114 g11 g12 hS'
              · rintro U115 hS
                refine wpAnyH_ready (rs := [18, 19]) (by kernel_rfl) (by simp) ?_
                refine (AllReadyH.cons rfl (fun Kq hKq => ?_) (AllReadyH.cons rfl (fun Kq hKq => ?_) AllReadyH.nil))
                · go_simp
                  have hS' := hS.newAt 6 U115.heap.size rfl 80 zF #[.int .u64 0, .int .u64 0, .int .u64 0, .int .u64 0, .int .u64 0, .int .u64 0, .int .u64 0, .int .u64 0] rfl
                  refine hKq.out _ _ (hS'.pre 6) (fun _ => ?_)
                  clear hKq Kq
                  generalize U115.alloc (.cells #[.int .u64 0, .int .u64 0, .int .u64 0, .int .u64 0, .int .u64 0, .int .u64 0, .int .u64 0, .int .u64 0] 80) = U116 at hS' ⊢
                  generalize U115.heap.size = g11 at hS' ⊢
                  exact R4a.out U116 g11 hS'
                · go_simp
                  have hS' := hS.newAt 6 U115.heap.size rfl 80 zF #[.int .u64 0, .int .u64 0, .int .u64 0, .int .u64 0, .int .u64 0, .int .u64 0, .int .u64 0, .int .u64 0] rfl
                  refine hKq.out _ _ (hS'.pre 6) (fun _ => ?_)
                  clear hKq Kq
                  generalize U115.alloc (.cells #[.int .u64 0, .int .u64 0, .int .u64 0, .int .u64 0, .int .u64 0, .int .u64 0, .int .u64 0, .int .u64 0] 80) = U117 at hS' ⊢
                  generalize U115.heap.size = g12 at hS' ⊢
                  exact R4b.out U117 g12 hS'
            · rintro U118 g11 g12 hS
              refine wpAnyH_ready (rs := [17]) (by kernel_rfl) (by simp) ?_
              refine (AllReadyH.cons rfl (fun Kq hKq => ?_) AllReadyH.nil)
              · go_simp
                refine (C67.out _ hS.bl).mono ?_
                rintro e U119 ⟨rfl, LB⟩
                have hS := hS.below LB
                clear LB
                refine hKq.out _ _ (hS.pre 6) (fun _ => ?_)
                clear hKq Kq
                exact R4ab.out U119 g11 g12 hS
          · rintro U120 g11 hS
            refine wpAnyH_ready (rs := [19]) (by kernel_rfl) (by simp) ?_
            refine (AllReadyH.cons rfl (fun Kq hKq => ?_) AllReadyH.nil)
            · go_simp
              have hS' := hS.newAt 7 U120.heap.size rfl 80 zF #[.int .u64 0, .int .u64 0, .int .u64 0, .int .u64 0, .int .u64 0, .int .u64 0, .int .u64 0, .int .u64 0] rfl
              refine hKq.out _ _ (hS'.pre 6) (fun _ => ?_)
              clear hKq Kq
              generalize U120.alloc (.cells #[.int .u64 0, .int .u64 0, .int .u64 0, .int .u64 0, .int .u64 0, .int .u64 0, .int .u64 0, .int .u64 0] 80) = U121 at hS' ⊢
              generalize U120.heap.size = g12 at hS' ⊢
              exact R4ab.out U121 g11 g12 hS'
        · rintro U122 g12 hS
          refine wpAnyH_ready (rs := [18]) (by kernel_rfl) (by simp) ?_
          refine (AllReadyH.cons rfl (fun Kq hKq => ?_) AllReadyH.nil)
          · go_simp
            have hS' := hS.newAt 6 U122.heap.size rfl 80 zF #[.int .u64 0, .int .u64 0, .int .u64 0, .int .u64 0, .int .u64 0, .int .u64 0, .int .u64 0, .int .u64 0] rfl
            refine hKq.out _ _ (hS'.pre 6) (fun _ => ?_)
            clear hKq Kq
            generalize U122.alloc (.cells #[.int .u64 0, .int .u64 0, .int .u64 0, .int .u64 0, .int .u64 0, .int .u64 0, .int .u64 0, .int .u64 0] 80) = U123 at hS' ⊢
            generalize U122.heap.size = g11 at hS' ⊢
            exact R4ab.out U123 g11 g12 hS'
      · rintro U124 g11 g12 hS
        have hst := stf (hS.get 6 rfl) rfl v58
        refine wpAnyH_ready (rs := [20]) (by kernel_rfl) (by simp) ?_
        refine AllReadyH.cons rfl (fun Kq hKq => ?_) AllReadyH.nil
        go_simp
        have hS' : Bx w [(w.heap.size, 92, (j3 x1 y1 z1)), (w.heap.size + 1, 92, (j3 x2 y2 z2)), (g7, 80, (fL v33)), (g8, 80, (fL v39)), (g9, 80, (fL v44)), (g10, 80, (fL v49)), (g11, 80, (fL v58)), (g12, 80, zF), (w.heap.size + 1 + 1, 92, z24)] (U124.setCells g11 0 (fL v58)) := hS.setAt 6 (fL v58) rfl rfl
        refine hKq.out _ _ (hS'.pre 6) (fun _ => ?_)
        clear hKq Kq hst hS
        have hS := hS'
        clear hS'
        generalize U124.setCells g11 0 (fL v58) = U125 at hS ⊢
        have hst := stf (hS.get 7 rfl) rfl v67
        refine wpAnyH_ready (rs := [21]) (by kernel_rfl) (by simp) ?_
        refine AllReadyH.cons rfl (fun Kq hKq => ?_) AllReadyH.nil
        go_simp
        have hS' : Bx w [(w.heap.size, 92, (j3 x1 y1 z1)), (w.heap.size + 1, 92, (j3 x2 y2 z2)), (g7, 80, (fL v33)), (g8, 80, (fL v39)), (g9, 80, (fL v44)), (g10, 80, (fL v49)), (g11, 80, (fL v58)), (g12, 80, (fL v67)), (w.heap.size + 1 + 1, 92, z24)] (U125.setCells g12 0 (fL v67)) := hS.setAt 7 (fL v67) rfl rfl
        refine hKq.out _ _ (hS'.pre 6) (fun _ => ?_)
        clear hKq Kq hst hS
        have hS := hS'
        clear hS'
        generalize U125.setCells g12 0 (fL v67) = U126 at hS ⊢
        refine wpAnyH_done (by kernel_rfl) ?_ _
        go_wp2
        have hS := hS.drew
        refine wp_region_held_drew (S := Bx w [(w.heap.size, 92, (j3 x1 y1 z1)), (w.heap.size + 1, 92, (j3 x2 y2 z2)), (g7, 80, (fL v33)), (g8, 80, (fL v39)), (g9, 80, (fL v44)), (g10, 80, (fL v49)), (g11, 80, (fL v58)), (g12, 80, (fL v67))]) (by kernel_rfl) (hS.pre 8) (fun _ => ?_)
        generalize U126.drew = U127 at hS ⊢
        have hP : Bx w [(w.heap.size, 92, (j3 x1 y1 z1)), (w.heap.size + 1, 92, (j3 x2 y2 z2)), (g7, 80, (fL v33)), (g8, 80, (fL v39)), (g9, 80, (fL v44)), (g10, 80, (fL v49)), (g11, 80, (fL v58)), (g12, 80, (fL v67))] U127 := hS.pre 8
        refine wpAnyH_take (i := 0) (v := ?_) rfl (by kernel_rfl) (by kernel_rfl) (by kernel_rfl) (fun _ _ _ h => h) (Or.inl ⟨by rfl, ?_⟩) (by assumption) ?_
        rotate_left
        · intro wq hSq
          go_simp
          try with_reducible rfl
        simp only [List.getElem_toArray, List.getElem_cons_zero, Act.put, List.setIfInBounds_toArray, List.set_cons_zero, List.set_cons_succ]
        refine wpAnyH_take (i := 1) (v := ?_) rfl (by kernel_rfl) (by kernel_rfl) (by kernel_rfl) (fun _ _ _ h => h) (Or.inl ⟨by rfl, ?_⟩) (by assumption) ?_
        rotate_left
        · intro wq hSq
          have hl := ldf (hSq.get 5 rfl)
          go_simp
          try with_reducible rfl
        simp only [List.getElem_toArray, List.getElem_cons_succ, List.getElem_cons_zero, Act.put, List.setIfInBounds_toArray, List.set_cons_zero, List.set_cons_succ]
        refine wpAnyH_take (i := 2) (v := ?_) rfl (by kernel_rfl) (by kernel_rfl) (by kernel_rfl) (fun _ _ _ h => h) (Or.inl ⟨by rfl, ?_⟩) (by assumption) ?_
        rotate_left
        · intro wq hSq
          have hl := ldf (hSq.get 4 rfl)
          go_simp
          try with_reducible rfl
        simp only [List.getElem_toArray, List.getElem_cons_succ, List.getElem_cons_zero, Act.put, List.setIfInBounds_toArray, List.set_cons_zero, List.set_cons_succ]
        refine wpAnyH_take (i := 4) (v := ?_) rfl (by kernel_rfl) (by kernel_rfl) (by kernel_rfl) (fun _ _ _ h => h) (Or.inl ⟨by rfl, ?_⟩) (by assumption) ?_
        rotate_left
        · intro wq hSq
          go_simp
          try with_reducible rfl
        simp only [List.getElem_toArray, List.getElem_cons_succ, List.getElem_cons_zero, Act.put, List.setIfInBounds_toArray, List.set_cons_zero, List.set_cons_succ]
        refine wpAnyH_take (i := 5) (v := ?_) rfl (by kernel_rfl) (by kernel_rfl) (by kernel_rfl) (fun _ _ _ h => h) (Or.inl ⟨by rfl, ?_⟩) (by assumption) ?_
        rotate_left
        · intro wq hSq
          have hl := ldf (hSq.get 7 rfl)
          go_simp
          try with_reducible rfl
        simp only [List.getElem_toArray, List.getElem_cons_succ, List.getElem_cons_zero, Act.put, List.setIfInBounds_toArray, List.set_cons_zero, List.set_cons_succ]
        refine wpAnyH_take (i := 6) (v := ?_) rfl (by kernel_rfl) (by kernel_rfl) (by kernel_rfl) (fun _ _ _ h => h) (Or.inl ⟨by rfl, ?_⟩) (by assumption) ?_
        rotate_left
        · intro wq hSq
          have hl := ldf (hSq.get 6 rfl)
          go_simp
          try with_reducible rfl
        simp only [List.getElem_toArray, List.getElem_cons_succ, List.getElem_cons_zero, Act.put, List.setIfInBounds_toArray, List.set_cons_zero, List.set_cons_succ]
        clear hP
        refine' mk_rest2 (K := fun W g13 g14 => Bx w [(w.heap.size, 92, (j3 x1 y1 z1)), (w.heap.size + 1, 92, (j3 x2 y2 z2)), (g7, 80, (fL v33)), (g8, 80, (fL v39)), (g9, 80, (fL v44)), (g10, 80, (fL v49)), (g11, 80, (fL v58)), (g12, 80, (fL v67)), (g13, 80, zF), (g14, 80, zF), (w.heap.size + 1 + 1, 92, z24)] W) (fun R2ab => ?_) ?_
        rotate_left
        · skip
          refine' mk_restN (K := fun W g14 => Bx w [(w.heap.size, 92, (j3 x1 y1 z1)), (w.heap.size + 1, 92, (j3 x2 y2 z2)), (g7, 80, (fL v33)), (g8, 80, (fL v39)), (g9, 80, (fL v44)), (g10, 80, (fL v49)), (g11, 80, (fL v58)), (g12, 80, (fL v67)), (g14, 80, zF), (w.heap.size + 1 + 1, 92, z24)] W) (fun R2b => ?_) ?_
          rotate_left
          · skip
            refine' mk_restN (K := fun W g13 => Bx w [(w.heap.size, 92, (j3 x1 y1 z1)), (w.heap.size + 1, 92, (j3 x2 y2 z2)), (g7, 80, (fL v33)), (g8, 80, (fL v39)), (g9, 80, (fL v44)), (g10, 80, (fL v49)), (g11, 80, (fL v58)), (g12, 80, (fL v67)), (g13, 80, zF), (w.heap.size + 1 + 1, 92, z24)] W) (fun R2a => ?_) ?_
            rotate_left
            · skip
              refine' mk_rest2 (K := fun W g13 g14 => Bx w [(w.heap.size, 92, (j3 x1 y1 z1)), (w.heap.size + 1, 92, (j3 x2 y2 z2)), (g7, 80, (fL v33)), (g8, 80, (fL v39)), (g9, 80, (fL v44)), (g10, 80, (fL v49)), (g11, 80, (fL v58)), (g12, 80, (fL v67)), (g13, 80, zF), (g14, 80, zF), (w.heap.size + 1 + 1, 92, z24)] W) (fun R1ab => ?_) ?_
              rotate_left
              · skip
                refine' mk_restW (K := fun W => Bx w [(w.heap.size, 92, (j3 x1 y1 z1)), (w.heap.size + 1, 92, (j3 x2 y2 z2)), (g7, 80, (fL v33)), (g8, 80, (fL v39)), (g9, 80, (fL v44)), (g10, 80, (fL v49)), (g11, 80, (fL v58)), (g12, 80, (fL v67)), (w.heap.size + 1 + 1, 92, z24)] W) (fun R2 => ?_) ?_
                rotate_left
                · skip
                  refine' mk_restN (K := fun W g14 => Bx w [(w.heap.size, 92, (j3 x1 y1 z1)), (w.heap.size + 1, 92, (j3 x2 y2 z2)), (g7, 80, (fL v33)), (g8, 80, (fL v39)), (g9, 80, (fL v44)), (g10, 80, (fL v49)), (g11, 80, (fL v58)), (g12, 80, (fL v67)), (g14, 80, zF), (w.heap.size + 1 + 1, 92, z24)] W) (fun R1b => ?_) ?_
                  rotate_left
                  · skip
                    refine' mk_restN (K := fun W g13 => Bx w [(w.heap.size, 92, (j3 x1 y1 z1)), (w.heap.size + 1, 92, (j3 x2 y2 z2)), (g7, 80, (fL v33)), (g8, 80, (fL v39)), (g9, 80, (fL v44)), (g10, 80, (fL v49)), (g11, 80, (fL v58)), (g12, 80, (fL v67)), (g13, 80, zF), (w.heap.size + 1 + 1, 92, z24)] W) (fun R1a => ?_) ?_
                    rotate_left
                    · skip
                      refine' mk_rest2 (K := fun W g13 g14 => Bx w [(w.heap.size, 92, (j3 x1 y1 z1)), (w.heap.size + 1, 92, (j3 x2 y2 z2)), (g7, 80, (fL v33)), (g8, 80, (fL v39)), (g9, 80, (fL v44)), (g10, 80, (fL v49)), (g11, 80, (fL v58)), (g12, 80, (fL v67)), (g13, 80, zF), (g14, 80, zF), (w.heap.size + 1 + 1, 92, z24)] W) (fun R0ab => ?_) ?_
                      rotate_left
                      · skip
                        refine' mk_restW (K := fun W => Bx w [(w.heap.size, 92, (j3 x1 y1 z1)), (w.heap.size + 1, 92, (j3 x2 y2 z2)), (g7, 80, (fL v33)), (g8, 80, (fL v39)), (g9, 80, (fL v44)), (g10, 80, (fL v49)), (g11, 80, (fL v58)), (g12, 80, (fL v67)), (w.heap.size + 1 + 1, 92, z24)] W) (fun R1 => ?_) ?_
                        rotate_left
                        · skip
                          refine' mk_restN (K := fun W g14 => Bx w [(w.heap.size, 92, (j3 x1 y1 z1)), (w.heap.size + 1, 92, (j3 x2 y2 z2)), (g7, 80, (fL v33)), (g8, 80, (fL v39)), (g9, 80, (fL v44)), (g10, 80, (fL v49)), (g11, 80, (fL v58)), (g12, 80, (fL v67)), (g14, 80, zF), (w.heap.size + 1 + 1, 92, z24)] W) (fun R0b => ?_) ?_
                          rotate_left
                          · skip
                            refine' mk_restN (K := fun W g13 => Bx w [(w.heap.size, 92, (j3 x1 y1 z1)), (w.heap.size + 1, 92, (j3 x2 y2 z2)), (g7, 80, (fL v33)), (g8, 80, (fL v39)), (g9, 80, (fL v44)), (g10, 80, (fL v49)), (g11, 80, (fL v58)), (g12, 80, (fL v67)), (g13, 80, zF), (w.heap.size + 1 + 1, 92, z24)] W) (fun R0a => ?_) ?_
                            rotate_left
                            · skip
                              refine wpAnyH_ready (rs := [3, 8, 9]) (by kernel_rfl) (by simp) ?_
                              refine (AllReadyH.cons rfl (fun Kq hKq => ?_) (AllReadyH.cons rfl (fun Kq hKq => ?_) (AllReadyH.cons rfl (fun Kq hKq => ?_) AllReadyH.nil)))
                              · go_simp
                                refine (C71.out _ hS.bl).mono ?_
                                rintro e U128 ⟨rfl, LB⟩
                                have hS := hS.below LB
                                clear LB
                                refine hKq.out _ _ (hS.pre 8) (fun _ => ?_)
                                clear hKq Kq
                                exact R1.out U128 hS
                              · go_simp
                                have hS' := hS.newAt 8 U127.heap.size rfl 80 zF #[.int .u64 0, .int .u64 0, .int .u64 0, .int .u64 0, .int .u64 0, .int .u64 0, .int .u64 0, .int .u64 0] rfl
                                refine hKq.out _ _ (hS'.pre 8) (fun _ => ?_)
                                clear hKq Kq
                                generalize U127.alloc (.cells #[.int .u64 0, .int .u64 0, .int .u64 0, .int .u64 0, .int .u64 0, .int .u64 0, .int .u64 0, .int .u64 0] 80) = U129 at hS' ⊢
                                generalize U127.heap.size = g13 at hS' ⊢
                                exact R0a.out U129 g13 hS'
                              · go_simp
                                have hS' := hS.newAt 8 U127.heap.size rfl 80 zF #[.int .u64 0, .int .u64 0, .int .u64 0, .int .u64 0, .int .u64 0, .int .u64 0, .int .u64 0, .int .u64 0] rfl
                                refine hKq.out _ _ (hS'.pre 8) (fun _ => ?_)
                                clear hKq Kq
                                generalize U127.alloc (.cells #[.int .u64 0, .int .u64 0, .int .u64 0, .int .u64 0, .int .u64 0, .int .u64 0, .int .u64 0, .int .u64 0] 80) = U130 at hS' ⊢
                                generalize U127.heap.size = g14 at hS' ⊢
                                exact R0b.out U130 g14 hS'
                            · rintro U131 g13 hS
                              refine wpAnyH_ready (rs := [3, 9]) (by kernel_rfl) (by simp) ?_
                              refine (AllReadyH.cons rfl (fun Kq hKq => ?_) (AllReadyH.cons rfl (fun Kq hKq => ?_) AllReadyH.nil))
                              · go_simp
                                refine (C71.out _ hS.bl).mono ?_
                                rintro e U132 ⟨rfl, LB⟩
                                have hS := hS.below LB
                                clear LB
                                refine hKq.out _ _ (hS.pre 8) (fun _ => ?_)
                                clear hKq Kq
                                exact R1a.out U132 g13 hS
                              · go_simp
                                have hS' := hS.newAt 9 U131.heap.size rfl 80 zF #[.int .u64 0, .int .u64 0, .int .u64 0, .int .u64 0, .int .u64 0, .int .u64 0, .int .u64 0, .int .u64 0] rfl
                                refine hKq.out _ _ (hS'.pre 8) (fun _ => ?_)
                                clear hKq Kq
                                generalize U131.alloc (.cells #[.int .u64 0, .int .u64 0, .int .u64 0, .int .u64 0, .int .u64 0, .int .u64 0, .int .u64 0, .int .u64 0] 80) = U133 at hS' ⊢
                                generalize U131.heap.size = g14 at hS' ⊢
                                exact R0ab.out U133 g13 g14 hS'
                          · rintro U134 g14 hS
                            refine wpAnyH_ready (rs := [3, 8]) (by kernel_rfl) (by simp) ?_
                            refine (AllReadyH.cons rfl (fun Kq hKq => ?_) (AllReadyH.cons rfl (fun Kq hKq => ?_) AllReadyH.nil))
                            · go_simp
                              refine (C71.out _ hS.bl).mono ?_
                              rintro e U135 ⟨rfl, LB⟩
                              have hS := hS.below LB
                              clear LB
                              refine hKq.out _ _ (hS.pre 8) (fun _ => ?_)
                              clear hKq Kq
                              exact R1b.out U135 g14 hS
                            · go_simp
                              have hS' := hS.newAt 8 U134.heap.size rfl 80 zF #[.int .u64 0, .int .u64 0, .int .u64 0, .int .u64 0, .int .u64 0, .int .u64 0, .int .u64 0, .int .u64 0] rfl
                              refine hKq.out _ _ (hS'.pre 8) (fun _ => ?_)
                              clear hKq Kq
                              generalize U134.alloc (.cells #[.int .u64 0, .int .u64 0, .int .u64 0, .int .u64 0, .int .u64 0, .int .u64 0, .int .u64 0, .int .u64 0] 80) = U136 at hS' ⊢
                              generalize U134.heap.size = g13 at hS' ⊢
                              exact R0ab.out U136 g13 g14 hS'
                        · rintro U137 hS
                          refine wpAnyH_ready (rs := [7, 8, 9]) (by kernel_rfl) (by simp) ?_
                          refine (AllReadyH.cons rfl (fun Kq hKq => ?_) (AllReadyH.cons rfl (fun Kq hKq => ?_) (AllReadyH.cons rfl (fun Kq hKq => ?_) AllReadyH.nil)))
                          · go_simp
                            refine (C75.out _ hS.bl).mono ?_
                            rintro e U138 ⟨rfl, LB⟩
                            have hS := hS.below LB
                            clear LB
                            refine hKq.out _ _ (hS.pre 8) (fun _ => ?_)
                            clear hKq Kq
                            exact R2.out U138 hS
                          · go_simp
                            have hS' := hS.newAt 8 U137.heap.size rfl 80 zF #[.int .u64 0, .int .u64 0, .int .u64 0, .int .u64 0, .int .u64 0, .int .u64 0, .int .u64 0, .int .u64 0] rfl
                            refine hKq.out _ _ (hS'.pre 8) (fun _ => ?_)
                            clear hKq Kq
                            generalize U137.alloc (.cells #[.int .u64 0, .int .u64 0, .int .u64 0, .int .u64 0, .int .u64 0, .int .u64 0, .int .u64 0, .int .u64 0] 80) = U139 at hS' ⊢
                            generalize U137.heap.size = g13 at hS' ⊢
                            exact R1a.out U139 g13 hS'
                          · go_simp
                            have hS' := hS.newAt 8 U137.heap.size rfl 80 zF #[.int .u64 0, .int .u64 0, .int .u64 0, .int .u64 0, .int .u64 0, .int .u64 0, .int .u64 0, .int .u64 0] rfl
                            refine hKq.out _ _ (hS'.pre 8) (fun _ => ?_)
                            clear hKq Kq
                            generalize U137.alloc (.cells #[.int .u64 0, .int .u64 0, .int .u64 0, .int .u64 0, .int .u64 0, .int .u64 0, .int .u64 0, .int .u64 0] 80) = U140 at hS' ⊢
                            generalize U137.heap.size = g14 at hS' ⊢
                            exact R1b.out U140 g14 hS'
                      · rintro U141 g13 g14 hS
                        refine wpAnyH_ready (rs := [3]) (by kernel_rfl) (by simp) ?_
                        refine (AllReadyH.cons rfl (fun Kq hKq => ?_) AllReadyH.nil)
                        · go_simp
                          refine (C71.out _ hS.bl).mono ?_
                          rintro e U142 ⟨rfl, LB⟩
                          have hS := hS.below LB
                          clear LB
                          refine hKq.out _ _ (hS.pre 8) (fun _ => ?_)
                          clear hKq Kq
                          exact R1ab.out U142 g13 g14 hS
                    · rintro U143 g13 hS
                      refine wpAnyH_ready (rs := [7, 9]) (by kernel_rfl) (by simp) ?_
                      refine (AllReadyH.cons rfl (fun Kq hKq => ?_) (AllReadyH.cons rfl (fun Kq hKq => ?_) AllReadyH.nil))
                      · go_simp
                        refine (C75.out _ hS.bl).mono ?_
                        rintro e U144 ⟨rfl, LB⟩
                        have hS := hS.below LB
                        clear LB
                        refine hKq.out _ _ (hS.pre 8) (fun _ => ?_)
                        clear hKq Kq
                        exact R2a.out U144 g13 hS
                      · go_simp
                        have hS' := hS.newAt 9 U143.heap.size rfl 80 zF #[.int .u64 0, .int .u64 0, .int .u64 0, .int .u64 0, .int .u64 0, .int .u64 0, .int .u64 0, .int .u64 0] rfl
                        refine hKq.out _ _ (hS'.pre 8) (fun _ => ?_)
                        clear hKq Kq
                        generalize U143.alloc (.cells #[.int .u64 0, .int .u64 0, .int .u64 0, .int .u64 0, .int .u64 0, .int .u64 0, .int .u64 0, .int .u64 0] 80) = U145 at hS' ⊢
                        generalize U143.heap.size = g14 at hS' ⊢
                        exact R1ab.out U145 g13 g14 hS'
                  · rintro U146 g14 hS
                    refine wpAnyH_ready (rs := [7, 8]) (by kernel_rfl) (by simp) ?_
                    refine (AllReadyH.cons rfl (fun Kq hKq => ?_) (AllReadyH.cons rfl (fun Kq hKq => ?_) AllReadyH.nil))
                    · go_simp
                      refine (C75.out _ hS.bl).mono ?_
                      rintro e U147 ⟨rfl, LB⟩
                      have hS := hS.below LB
                      clear LB
                      refine hKq.out _ _ (hS.pre 8) (fun _ => ?_)
                      clear hKq Kq
                      exact R2b.out U147 g14 hS
                    · go_simp
                      have hS' := hS.newAt 8 U146.heap.size rfl 80 zF #[.int .u64 0, .int .u64 0, .int .u64 0, .int .u64 0, .int .u64 0, .int .u64 0, .int .u64 0, .int .u64 0] rfl
                      refine hKq.out _ _ (hS'.pre 8) (fun _ => ?_)
                      clear hKq Kq
                      generalize U146.alloc (.cells #[.int .u64 0, .int .u64 0, .int .u64 0, .int .u64 0, .int .u64 0, .int .u64 0, .int .u64 0, .int .u64 0] 80) = U148 at hS' ⊢
                      generalize U146.heap.size = g13 at hS' ⊢
                      exact R1ab.out U148 g13 g14 hS'
                · rintro U149 hS
                  refine wpAnyH_ready (rs := [8, 9]) (by kernel_rfl) (by simp) ?_
                  refine (AllReadyH.cons rfl (fun Kq hKq => ?_) (AllReadyH.cons rfl (fun Kq hKq => ?_) AllReadyH.nil))
                  · go_simp
                    have hS' := hS.newAt 8 U149.heap.size rfl 80 zF #[.int .u64 0, .int .u64 0, .int .u64 0, .int .u64 0, .int .u64 0, .int .u64 0, .int .u64 0, .int .u64 0] rfl
                    refine hKq.out _ _ (hS'.pre 8) (fun _ => ?_)
                    clear hKq Kq
                    generalize U149.alloc (.cells #[.int .u64 0, .int .u64 0, .int .u64 0, .int .u64 0, .int .u64 0, .int .u64 0, .int .u64 0, .int .u64 0] 80) = U150 at hS' ⊢
                    generalize U149.heap.size = g13 at hS' ⊢
                    exact R2a.out U150 g13 hS'
                  · go_simp
                    have hS' := hS.newAt 8 U149.heap.size rfl 80 zF #[.int .u64 0, .int .u64 0, .int .u64 0, .int .u64 0, .int .u64 0, .int .u64 0, .int .u64 0, .int .u64 0] rfl
                    refine hKq.out _ _ (hS'.pre 8) (fun _ => ?_)
                    clear hKq Kq
                    generalize U149.alloc (.cells #[.int .u64 0, .int .u64 0, .int .u64 0, .int .u64 0, .int .u64 0, .int .u64 0, .int .u64 0, .int .u64 0] 80) = U151 at hS' ⊢
                    generalize U149.heap.size = g14 at hS' ⊢
                    exact R2b.out U151 g14 hS'
              · rintro U152 g13 g14 hS
                refine wpAnyH_ready (rs := [7]) (by kernel_rfl) (by simp) ?_
                refine (AllReadyH.cons rfl (fun Kq hKq => ?_) AllReadyH.nil)
                · go_simp
                  refine (C75.out _ hS.bl).mono ?_
                  rintro e U153 ⟨rfl, LB⟩
                  have hS := hS.below LB
                  clear LB
                  refine hKq.out _ _ (hS.pre 8) (fun _ => ?_)
                  clear hKq Kq
                  exact R2ab.out U153 g13 g14 hS
            · rintro U154 g13 hS
              refine wpAnyH_ready (rs := [9]) (by kernel_rfl) (by simp) ?_
              refine (AllReadyH.cons rfl (fun Kq hKq => ?_) AllReadyH.nil)
              · go_simp
                have hS' := hS.newAt 9 U154.heap.size rfl 80 zF #[.int .u64 0, .int .u64 0, .int .u64 0, .int .u64 0, .int .u64 0, .int .u64 0, .int .u64 0, .int .u64 0] rfl
                refine hKq.out _ _ (hS'.pre 8) (fun _ => ?_)
                clear hKq Kq
                generalize U154.alloc (.cells #[.int .u64 0, .int .u64 0, .int .u64 0, .int .u64 0, .int .u64 0, .int .u64 0, .int .u64 0, .int .u64 0] 80) = U155 at hS' ⊢
                generalize U154.heap.size = g14 at hS' ⊢
                exact R2ab.out U155 g13 g14 hS'
          · rintro U156 g14 hS
            refine wpAnyH_ready (rs := [8]) (by kernel_rfl) (by simp) ?_
            refine (AllReadyH.cons rfl (fun Kq hKq => ?_) AllReadyH.nil)
            · go_simp
              have hS' := hS.newAt 8 U156.heap.size rfl 80 zF #[.int .u64 0, .int .u64 0, .int .u64 0, .int .u64 0, .int .u64 0, .int .u64 0, .int .u64 0, .int .u64 0] rfl
              refine hKq.out _ _ (hS'.pre 8) (fun _ => ?_)
              clear hKq Kq
              generalize U156.alloc (.cells #[.int .u64 0, .int .u64 0, .int .u64 0, .int .u64 0, .int .u64 0, .int .u64 0, .int .u64 0, .int .u64 0] 80) = U157 at hS' ⊢
              generalize U156.heap.size = g13 at hS' ⊢
              exact R2ab.out U157 g13 g14 hS'
        · rintro U158 g13 g14 hS
          have hst := stf (hS.get 8 rfl) rfl v71
          refine wpAnyH_ready (rs := [10]) (by kernel_rfl) (by simp) ?_
          refine AllReadyH.cons rfl (fun Kq hKq => ?_) AllReadyH.nil
          go_simp
          have hS' : Bx w [(w.heap.size, 92, (j3 x1 y1 z1)), (w.heap.size + 1, 92, (j3 x2 y2 z2)), (g7, 80, (fL v33)), (g8, 80, (fL v39)), (g9, 80, (fL v44)), (g10, 80, (fL v49)), (g11, 80, (fL v58)), (g12, 80, (fL v67)), (g13, 80, (fL v71)), (g14, 80, zF), (w.heap.size + 1 + 1, 92, z24)] (U158.setCells g13 0 (fL v71)) := hS.setAt 8 (fL v71) rfl rfl
          refine hKq.out _ _ (hS'.pre 8) (fun _ => ?_)
          clear hKq Kq hst hS
          have hS := hS'
          clear hS'
          generalize U158.setCells g13 0 (fL v71) = U159 at hS ⊢
          have hst := stf (hS.get 9 rfl) rfl v75
          refine wpAnyH_ready (rs := [11]) (by kernel_rfl) (by simp) ?_
          refine AllReadyH.cons rfl (fun Kq hKq => ?_) AllReadyH.nil
          go_simp
          have hS' : Bx w [(w.heap.size, 92, (j3 x1 y1 z1)), (w.heap.size + 1, 92, (j3 x2 y2 z2)), (g7, 80, (fL v33)), (g8, 80, (fL v39)), (g9, 80, (fL v44)), (g10, 80, (fL v49)), (g11, 80, (fL v58)), (g12, 80, (fL v67)), (g13, 80, (fL v71)), (g14, 80, (fL v75)), (w.heap.size + 1 + 1, 92, z24)] (U159.setCells g14 0 (fL v75)) := hS.setAt 9 (fL v75) rfl rfl
          refine hKq.out _ _ (hS'.pre 8) (fun _ => ?_)
          clear hKq Kq hst hS
          have hS := hS'
          clear hS'
          generalize U159.setCells g14 0 (fL v75) = U160 at hS ⊢
          refine wpAnyH_done (by kernel_rfl) ?_ _
          have hl := ldf (hS.get 8 rfl)
          go_wp2_with fail
          refine (C77.out _).mono ?_
          rintro e U903 ⟨rfl, LB⟩
          clear hl
          have hS := hS.below LB
          clear LB
          by_cases hh : v71 = 0
          · rw [decide_eq_true hh]
            rw [if_pos hh] at HR
            have hl := ldf (hS.get 9 rfl)
            go_wp2_with fail
            refine (C79.out _).mono ?_
            rintro e U904 ⟨rfl, LB⟩
            clear hl
            have hS := hS.below LB
            clear LB
            by_cases hr : v75 = 0
            · rw [decide_eq_true hr]
              rw [if_pos hr] at HR
              have hl1 := ldj (hS.get 0 rfl)
              go_wp2_with fail
              refine (CT.out _ hS.bl).mono ?_
              rintro e U161 ⟨rfl, LB⟩
              have hS := hS.below LB
              clear LB
              clear hl1
              have hst := stj (hS.get 10 rfl) rfl tx ty tz
              have hS' : Bx w [(w.heap.size, 92, (j3 x1 y1 z1)), (w.heap.size + 1, 92, (j3 x2 y2 z2)), (g7, 80, (fL v33)), (g8, 80, (fL v39)), (g9, 80, (fL v44)), (g10, 80, (fL v49)), (g11, 80, (fL v58)), (g12, 80, (fL v67)), (g13, 80, (fL v71)), (g14, 80, (fL v75)), (w.heap.size + 1 + 1, 92, (j3 tx ty tz))] (U161.setCells (w.heap.size + 1 + 1) 0 (j3 tx ty tz)) := hS.setAt 10 (j3 tx ty tz) rfl rfl
              clear hS
              have hS := hS'
              clear hS'
              clear CT
              go_wp2
              generalize U161.setCells (w.heap.size + 1 + 1) 0 (j3 tx ty tz) = U999 at hS ⊢
              refine bodyPost_ret (v := .agg (j3 tx ty tz).toArray) ?_ rfl ⟨by rw [HR.out], hS.bl⟩
              exact res_one (T := 92) (p := 6) (ty := 92) (X := j3 tx ty tz) (by kernel_rfl) _ _ rfl Tryd.underlying92 rfl (by kernel_rfl) (hS.get 10 rfl)
            · rw [decide_eq_false hr]
              rw [if_neg hr] at HR
              go_wp2
              have hS := hS.drew
              refine wp_region_held_drew (S := Bx w [(w.heap.size, 92, (j3 x1 y1 z1)), (w.heap.size + 1, 92, (j3 x2 y2 z2)), (g7, 80, (fL v33)), (g8, 80, (fL v39)), (g9, 80, (fL v44)), (g10, 80, (fL v49)), (g11, 80, (fL v58)), (g12, 80, (fL v67)), (g13, 80, (fL v71)), (g14, 80, (fL v75))]) (by kernel_rfl) (hS.pre 10) (fun _ => ?_)
              generalize U904.drew = U163 at hS ⊢
              have hP : Bx w [(w.heap.size, 92, (j3 x1 y1 z1)), (w.heap.size + 1, 92, (j3 x2 y2 z2)), (g7, 80, (fL v33)), (g8, 80, (fL v39)), (g9, 80, (fL v44)), (g10, 80, (fL v49)), (g11, 80, (fL v58)), (g12, 80, (fL v67)), (g13, 80, (fL v71)), (g14, 80, (fL v75))] U163 := hS.pre 10
              refine wpAnyH_take (i := 0) (v := ?_) rfl (by kernel_rfl) (by kernel_rfl) (by kernel_rfl) (fun _ _ _ h => h) (Or.inl ⟨by rfl, ?_⟩) (by assumption) ?_
              rotate_left
              · intro wq hSq
                go_simp
                try with_reducible rfl
              simp only [List.getElem_toArray, List.getElem_cons_zero, Act.put, List.setIfInBounds_toArray, List.set_cons_zero, List.set_cons_succ]
              refine wpAnyH_take (i := 1) (v := ?_) rfl (by kernel_rfl) (by kernel_rfl) (by kernel_rfl) (fun _ _ _ h => h) (Or.inl ⟨by rfl, ?_⟩) (by assumption) ?_
              rotate_left
              · intro wq hSq
                go_simp
                try with_reducible rfl
              simp only [List.getElem_toArray, List.getElem_cons_succ, List.getElem_cons_zero, Act.put, List.setIfInBounds_toArray, List.set_cons_zero, List.set_cons_succ]
              refine wpAnyH_take (i := 2) (v := ?_) rfl (by kernel_rfl) (by kernel_rfl) (by kernel_rfl) (fun _ _ _ h => h) (Or.inl ⟨by rfl, ?_⟩) (by assumption) ?_
              rotate_left
              · intro wq hSq
                go_simp
                try with_reducible rfl
              simp only [List.getElem_toArray, List.getElem_cons_succ, List.getElem_cons_zero, Act.put, List.setIfInBounds_toArray, List.set_cons_zero, List.set_cons_succ]
              refine wpAnyH_take (i := 3) (v := ?_) rfl (by kernel_rfl) (by kernel_rfl) (by kernel_rfl) (fun _ _ _ h => h) (Or.inl ⟨by rfl, ?_⟩) (by assumption) ?_
              rotate_left
              · intro wq hSq
                have hl := (HF.out.at hSq.bl).ld1
                go_simp
                try with_reducible rfl
              simp only [List.getElem_toArray, List.getElem_cons_succ, List.getElem_cons_zero, Act.put, List.setIfInBounds_toArray, List.set_cons_zero, List.set_cons_succ]
              refine wpAnyH_take (i := 4) (v := ?_) rfl (by kernel_rfl) (by kernel_rfl) (by kernel_rfl) (fun _ _ _ h => h) (Or.inl ⟨by rfl, ?_⟩) (by assumption) ?_
              rotate_left
              · intro wq hSq
                go_simp
                try with_reducible rfl
              simp only [List.getElem_toArray, List.getElem_cons_succ, List.getElem_cons_zero, Act.put, List.setIfInBounds_toArray, List.set_cons_zero, List.set_cons_succ]
              refine wpAnyH_take (i := 5) (v := ?_) rfl (by kernel_rfl) (by kernel_rfl) (by kernel_rfl) (fun _ _ _ h => h) (Or.inl ⟨by rfl, ?_⟩) (by assumption) ?_
              rotate_left
              · intro wq hSq
                go_simp
                try with_reducible rfl
              simp only [List.getElem_toArray, List.getElem_cons_succ, List.getElem_cons_zero, Act.put, List.setIfInBounds_toArray, List.set_cons_zero, List.set_cons_succ]
              refine wpAnyH_take (i := 6) (v := ?_) rfl (by kernel_rfl) (by kernel_rfl) (by kernel_rfl) (fun _ _ _ h => h) (Or.inl ⟨by rfl, ?_⟩) (by assumption) ?_
              rotate_left
              · intro wq hSq
                go_simp
                try with_reducible rfl
              simp only [List.getElem_toArray, List.getElem_cons_succ, List.getElem_cons_zero, Act.put, List.setIfInBounds_toArray, List.set_cons_zero, List.set_cons_succ]
              refine wpAnyH_take (i := 7) (v := ?_) rfl (by kernel_rfl) (by kernel_rfl) (by kernel_rfl) (fun _ _ _ h => h) (Or.inl ⟨by rfl, ?_⟩) (by assumption) ?_
              rotate_left
              · intro wq hSq
                have hl := (HF.out.at hSq.bl).ld1
                go_simp
                try with_reducible rfl
              simp only [List.getElem_toArray, List.getElem_cons_succ, List.getElem_cons_zero, Act.put, List.setIfInBounds_toArray, List.set_cons_zero, List.set_cons_succ]
              refine wpAnyH_take (i := 8) (v := ?_) rfl (by kernel_rfl) (by kernel_rfl) (by kernel_rfl) (fun _ _ _ h => h) (Or.inl ⟨by rfl, ?_⟩) (by assumption) ?_
              rotate_left
              · intro wq hSq
                have hl := bdf0 wq
                go_simp
                try with_reducible rfl
              simp only [List.getElem_toArray, List.getElem_cons_succ, List.getElem_cons_zero, Act.put, List.setIfInBounds_toArray, List.set_cons_zero, List.set_cons_succ]
              refine wpAnyH_take (i := 9) (v := ?_) rfl (by kernel_rfl) (by kernel_rfl) (by kernel_rfl) (fun _ _ _ h => h) (Or.inl ⟨by rfl, ?_⟩) (by assumption) ?_
              rotate_left
              · intro wq hSq
                have hl := bdj3 ONE ONE 0 wq
                go_simp
                try with_reducible rfl
              simp only [List.getElem_toArray, List.getElem_cons_succ, List.getElem_cons_zero, Act.put, List.setIfInBounds_toArray, List.set_cons_zero, List.set_cons_succ]
              clear hP
              have hst := stj (hS.get 10 rfl) rfl ONE ONE 0
              refine wpAnyH_ready (rs := [10]) (by kernel_rfl) (by simp) ?_
              refine AllReadyH.cons rfl (fun Kq hKq => ?_) AllReadyH.nil
              go_simp
              have hS' : Bx w [(w.heap.size, 92, (j3 x1 y1 z1)), (w.heap.size + 1, 92, (j3 x2 y2 z2)), (g7, 80, (fL v33)), (g8, 80, (fL v39)), (g9, 80, (fL v44)), (g10, 80, (fL v49)), (g11, 80, (fL v58)), (g12, 80, (fL v67)), (g13, 80, (fL v71)), (g14, 80, (fL v75)), (w.heap.size + 1 + 1, 92, (j3 ONE ONE 0))] (U163.setCells (w.heap.size + 1 + 1) 0 (j3 ONE ONE 0)) := hS.setAt 10 (j3 ONE ONE 0) rfl rfl
              refine hKq.out _ _ (hS'.pre 10) (fun _ => ?_)
              clear hKq Kq hst hS
              have hS := hS'
              clear hS'
              generalize U163.setCells (w.heap.size + 1 + 1) 0 (j3 ONE ONE 0) = U164 at hS ⊢
              refine wpAnyH_done (by kernel_rfl) ?_ _
              go_wp2
              refine bodyPost_ret (v := .agg (j3 ONE ONE 0).toArray) ?_ rfl ⟨by rw [HR.out], hS.bl⟩
              exact res_one (T := 92) (p := 6) (ty := 92) (X := j3 ONE ONE 0) (by kernel_rfl) _ _ rfl Tryd.underlying92 rfl (by kernel_rfl) (hS.get 10 rfl)
          · rw [decide_eq_false hh]
            rw [if_neg hh] at HR
            clear CT
            have hl1 := ldf (hS.get 8 rfl)
            have hl2 := ldf (hS.get 8 rfl)
            go_wp2_with fail
            refine (C96.out _ hS.bl).mono ?_
            rintro e U165 ⟨rfl, LB⟩
            have hS := hS.below LB
            clear LB
            clear hl1
            clear hl2
            have hst := stfn U165 v96
            have hS' : Bx w [(w.heap.size, 92, (j3 x1 y1 z1)), (w.heap.size + 1, 92, (j3 x2 y2 z2)), (g7, 80, (fL v33)), (g8, 80, (fL v39)), (g9, 80, (fL v44)), (g10, 80, (fL v49)), (g11, 80, (fL v58)), (g12, 80, (fL v67)), (g13, 80, (fL v71)), (g14, 80, (fL v75)), (U165.heap.size, 80, (fL v96)), (w.heap.size + 1 + 1, 92, z24)] (U165.alloc (.cells (fL v96).toArray 80)) := hS.newAt 10 U165.heap.size rfl 80 (fL v96) _ rfl
            clear hS
            have hS := hS'
            clear hS'
            go_upto_region 14 with fail
            generalize U165.alloc (.cells (fL v96).toArray 80) = U166 at hS ⊢
            generalize U165.heap.size = g15 at hS ⊢
            clear hst
            have hl1 := ldf (hS.get 10 rfl)
            have hl2 := ldf (hS.get 8 rfl)
            go_wp2_with fail
            refine (C100.out _ hS.bl).mono ?_
            rintro e U167 ⟨rfl, LB⟩
            have hS := hS.below LB
            clear LB
            clear hl1
            clear hl2
            have hst := stfn U167 v100
            have hS' : Bx w [(w.heap.size, 92, (j3 x1 y1 z1)), (w.heap.size + 1, 92, (j3 x2 y2 z2)), (g7, 80, (fL v33)), (g8, 80, (fL v39)), (g9, 80, (fL v44)), (g10, 80, (fL v49)), (g11, 80, (fL v58)), (g12, 80, (fL v67)), (g13, 80, (fL v71)), (g14, 80, (fL v75)), (g15, 80, (fL v96)), (U167.heap.size, 80, (fL v100)), (w.heap.size + 1 + 1, 92, z24)] (U167.alloc (.cells (fL v100).toArray 80)) := hS.newAt 11 U167.heap.size rfl 80 (fL v100) _ rfl
            clear hS
            have hS := hS'
            clear hS'
            go_upto_region 15 with fail
            generalize U167.alloc (.cells (fL v100).toArray 80) = U168 at hS ⊢
            generalize U167.heap.size = g16 at hS ⊢
            clear hst
            have hl1 := ldf (hS.get 4 rfl)
            have hl2 := ldf (hS.get 10 rfl)
            go_wp2_with fail
            refine (C104.out _ hS.bl).mono ?_
            rintro e U169 ⟨rfl, LB⟩
            have hS := hS.below LB
            clear LB
            clear hl1
            clear hl2
            have hst := stfn U169 v104
            have hS' : Bx w [(w.heap.size, 92, (j3 x1 y1 z1)), (w.heap.size + 1, 92, (j3 x2 y2 z2)), (g7, 80, (fL v33)), (g8, 80, (fL v39)), (g9, 80, (fL v44)), (g10, 80, (fL v49)), (g11, 80, (fL v58)), (g12, 80, (fL v67)), (g13, 80, (fL v71)), (g14, 80, (fL v75)), (g15, 80, (fL v96)), (g16, 80, (fL v100)), (U169.heap.size, 80, (fL v104)), (w.heap.size + 1 + 1, 92, z24)] (U169.alloc (.cells (fL v104).toArray 80)) := hS.newAt 12 U169.heap.size rfl 80 (fL v104) _ rfl
            clear hS
            have hS := hS'
            clear hS'
            go_upto_region 16 with fail
            generalize U169.alloc (.cells (fL v104).toArray 80) = U170 at hS ⊢
            generalize U169.heap.size = g17 at hS ⊢
            clear hst
            have hS := hS.drew
            refine wp_region_held_drew (S := Bx w [(w.heap.size, 92, (j3 x1 y1 z1)), (w.heap.size + 1, 92, (j3 x2 y2 z2)), (g7, 80, (fL v33)), (g8, 80, (fL v39)), (g9, 80, (fL v44)), (g10, 80, (fL v49)), (g11, 80, (fL v58)), (g12, 80, (fL v67)), (g13, 80, (fL v71)), (g14, 80, (fL v75)), (g15, 80, (fL v96)), (g16, 80, (fL v100)), (g17, 80, (fL v104))]) (by kernel_rfl) (hS.pre 13) (fun _ => ?_)
            generalize U170.drew = U171 at hS ⊢
            have hP : Bx w [(w.heap.size, 92, (j3 x1 y1 z1)), (w.heap.size + 1, 92, (j3 x2 y2 z2)), (g7, 80, (fL v33)), (g8, 80, (fL v39)), (g9, 80, (fL v44)), (g10, 80, (fL v49)), (g11, 80, (fL v58)), (g12, 80, (fL v67)), (g13, 80, (fL v71)), (g14, 80, (fL v75)), (g15, 80, (fL v96)), (g16, 80, (fL v100)), (g17, 80, (fL v104))] U171 := hS.pre 13
            refine wpAnyH_take (i := 0) (v := ?_) rfl (by kernel_rfl) (by kernel_rfl) (by kernel_rfl) (fun _ _ _ h => h) (Or.inl ⟨by rfl, ?_⟩) (by assumption) ?_
            rotate_left
            · intro wq hSq
              go_simp
              try with_reducible rfl
            simp only [List.getElem_toArray, List.getElem_cons_zero, Act.put, List.setIfInBounds_toArray, List.set_cons_zero, List.set_cons_succ]
            refine wpAnyH_take (i := 1) (v := ?_) rfl (by kernel_rfl) (by kernel_rfl) (by kernel_rfl) (fun _ _ _ h => h) (Or.inl ⟨by rfl, ?_⟩) (by assumption) ?_
            rotate_left
            · intro wq hSq
              go_simp
              try with_reducible rfl
            simp only [List.getElem_toArray, List.getElem_cons_succ, List.getElem_cons_zero, Act.put, List.setIfInBounds_toArray, List.set_cons_zero, List.set_cons_succ]
            refine wpAnyH_take (i := 2) (v := ?_) rfl (by kernel_rfl) (by kernel_rfl) (by kernel_rfl) (fun _ _ _ h => h) (Or.inl ⟨by rfl, ?_⟩) (by assumption) ?_
            rotate_left
            · intro wq hSq
              go_simp
              try with_reducible rfl
            simp only [List.getElem_toArray, List.getElem_cons_succ, List.getElem_cons_zero, Act.put, List.setIfInBounds_toArray, List.set_cons_zero, List.set_cons_succ]
            refine wpAnyH_take (i := 3) (v := ?_) rfl (by kernel_rfl) (by kernel_rfl) (by kernel_rfl) (fun _ _ _ h => h) (Or.inl ⟨by rfl, ?_⟩) (by assumption) ?_
            rotate_left
            · intro wq hSq
              have hl := ldf (hSq.get 9 rfl)
              go_simp
              try with_reducible rfl
            simp only [List.getElem_toArray, List.getElem_cons_succ, List.getElem_cons_zero, Act.put, List.setIfInBounds_toArray, List.set_cons_zero, List.set_cons_succ]
            refine wpAnyH_take (i := 4) (v := ?_) rfl (by kernel_rfl) (by kernel_rfl) (by kernel_rfl) (fun _ _ _ h => h) (Or.inl ⟨by rfl, ?_⟩) (by assumption) ?_
            rotate_left
            · intro wq hSq
              have hl := ldf (hSq.get 9 rfl)
              go_simp
              try with_reducible rfl
            simp only [List.getElem_toArray, List.getElem_cons_succ, List.getElem_cons_zero, Act.put, List.setIfInBounds_toArray, List.set_cons_zero, List.set_cons_succ]
            refine wpAnyH_take (i := 6) (v := ?_) rfl (by kernel_rfl) (by kernel_rfl) (by kernel_rfl) (fun _ _ _ h => h) (Or.inl ⟨by rfl, ?_⟩) (by assumption) ?_
            rotate_left
            · intro wq hSq
              have hl := ldf (hSq.get 11 rfl)
              go_simp
              try with_reducible rfl
            simp only [List.getElem_toArray, List.getElem_cons_succ, List.getElem_cons_zero, Act.put, List.setIfInBounds_toArray, List.set_cons_zero, List.set_cons_succ]
            refine wpAnyH_take (i := 8) (v := ?_) rfl (by kernel_rfl) (by kernel_rfl) (by kernel_rfl) (fun _ _ _ h => h) (Or.inl ⟨by rfl, ?_⟩) (by assumption) ?_
            rotate_left
            · intro wq hSq
              go_simp
              try with_reducible rfl
            simp only [List.getElem_toArray, List.getElem_cons_succ, List.getElem_cons_zero, Act.put, List.setIfInBounds_toArray, List.set_cons_zero, List.set_cons_succ]
            refine wpAnyH_take (i := 9) (v := ?_) rfl (by kernel_rfl) (by kernel_rfl) (by kernel_rfl) (fun _ _ _ h => h) (Or.inl ⟨by rfl, ?_⟩) (by assumption) ?_
            rotate_left
            · intro wq hSq
              have hl := ldf (hSq.get 12 rfl)
              go_simp
              try with_reducible rfl
            simp only [List.getElem_toArray, List.getElem_cons_succ, List.getElem_cons_zero, Act.put, List.setIfInBounds_toArray, List.set_cons_zero, List.set_cons_succ]
            refine wpAnyH_take (i := 10) (v := ?_) rfl (by kernel_rfl) (by kernel_rfl) (by kernel_rfl) (fun _ _ _ h => h) (Or.inl ⟨by rfl, ?_⟩) (by assumption) ?_
            rotate_left
            · intro wq hSq
              have hl := ldf (hSq.get 12 rfl)
              go_simp
              try with_reducible rfl
            simp only [List.getElem_toArray, List.getElem_cons_succ, List.getElem_cons_zero, Act.put, List.setIfInBounds_toArray, List.set_cons_zero, List.set_cons_succ]
            clear hP
            refine' mk_restN (K := fun W g18 => Bx w [(w.heap.size, 92, (j3 x1 y1 z1)), (w.heap.size + 1, 92, (j3 x2 y2 z2)), (g7, 80, (fL v33)), (g8, 80, (fL v39)), (g9, 80, (fL v44)), (g10, 80, (fL v49)), (g11, 80, (fL v58)), (g12, 80, (fL v67)), (g13, 80, (fL v71)), (g14, 80, (fL v75)), (g15, 80, (fL v96)), (g16, 80, (fL v100)), (g17, 80, (fL v104)), (g18, 80, zF), (w.heap.size + 1 + 1, 92, z24)] W) (fun R4a => ?_) ?_
            rotate_left
            · skip
              refine' mk_restW (K := fun W => Bx w [(w.heap.size, 92, (j3 x1 y1 z1)), (w.heap.size + 1, 92, (j3 x2 y2 z2)), (g7, 80, (fL v33)), (g8, 80, (fL v39)), (g9, 80, (fL v44)), (g10, 80, (fL v49)), (g11, 80, (fL v58)), (g12, 80, (fL v67)), (g13, 80, (fL v71)), (g14, 80, (fL v75)), (g15, 80, (fL v96)), (g16, 80, (fL v100)), (g17, 80, (fL v104)), (w.heap.size + 1 + 1, 92, z24)] W) (fun R4 => ?_) ?_
              rotate_left
              · skip
                refine' mk_restN (K := fun W g18 => Bx w [(w.heap.size, 92, (j3 x1 y1 z1)), (w.heap.size + 1, 92, (j3 x2 y2 z2)), (g7, 80, (fL v33)), (g8, 80, (fL v39)), (g9, 80, (fL v44)), (g10, 80, (fL v49)), (g11, 80, (fL v58)), (g12, 80, (fL v67)), (g13, 80, (fL v71)), (g14, 80, (fL v75)), (g15, 80, (fL v96)), (g16, 80, (fL v100)), (g17, 80, (fL v104)), (g18, 80, zF), (w.heap.size + 1 + 1, 92, z24)] W) (fun R3a => ?_) ?_
                rotate_left
                · skip
                  refine' mk_restW (K := fun W => Bx w [(w.heap.size, 92, (j3 x1 y1 z1)), (w.heap.size + 1, 92, (j3 x2 y2 z2)), (g7, 80, (fL v33)), (g8, 80, (fL v39)), (g9, 80, (fL v44)), (g10, 80, (fL v49)), (g11, 80, (fL v58)), (g12, 80, (fL v67)), (g13, 80, (fL v71)), (g14, 80, (fL v75)), (g15, 80, (fL v96)), (g16, 80, (fL v100)), (g17, 80, (fL v104)), (w.heap.size + 1 + 1, 92, z24)] W) (fun R3 => ?_) ?_
                  rotate_left
                  · skip
                    refine' mk_restN (K := fun W g18 => Bx w [(w.heap.size, 92, (j3 x1 y1 z1)), (w.heap.size + 1, 92, (j3 x2 y2 z2)), (g7, 80, (fL v33)), (g8, 80, (fL v39)), (g9, 80, (fL v44)), (g10, 80, (fL v49)), (g11, 80, (fL v58)), (g12, 80, (fL v67)), (g13, 80, (fL v71)), (g14, 80, (fL v75)), (g15, 80, (fL v96)), (g16, 80, (fL v100)), (g17, 80, (fL v104)), (g18, 80, zF), (w.heap.size + 1 + 1, 92, z24)] W) (fun R2a => ?_) ?_
                    rotate_left
                    · skip
                      refine' mk_restW (K := fun W => Bx w [(w.heap.size, 92, (j3 x1 y1 z1)), (w.heap.size + 1, 92, (j3 x2 y2 z2)), (g7, 80, (fL v33)), (g8, 80, (fL v39)), (g9, 80, (fL v44)), (g10, 80, (fL v49)), (g11, 80, (fL v58)), (g12, 80, (fL v67)), (g13, 80, (fL v71)), (g14, 80, (fL v75)), (g15, 80, (fL v96)), (g16, 80, (fL v100)), (g17, 80, (fL v104)), (w.heap.size + 1 + 1, 92, z24)] W) (fun R2 => ?_) ?_
                      rotate_left
                      · skip
                        refine' mk_restN (K := fun W g18 => Bx w [(w.heap.size, 92, (j3 x1 y1 z1)), (w.heap.size + 1, 92, (j3 x2 y2 z2)), (g7, 80, (fL v33)), (g8, 80, (fL v39)), (g9, 80, (fL v44)), (g10, 80, (fL v49)), (g11, 80, (fL v58)), (g12, 80, (fL v67)), (g13, 80, (fL v71)), (g14, 80, (fL v75)), (g15, 80, (fL v96)), (g16, 80, (fL v100)), (g17, 80, (fL v104)), (g18, 80, zF), (w.heap.size + 1 + 1, 92, z24)] W) (fun R1a => ?_) ?_
                        rotate_left
                        · skip
                          refine' mk_restW (K := fun W => Bx w [(w.heap.size, 92, (j3 x1 y1 z1)), (w.heap.size + 1, 92, (j3 x2 y2 z2)), (g7, 80, (fL v33)), (g8, 80, (fL v39)), (g9, 80, (fL v44)), (g10, 80, (fL v49)), (g11, 80, (fL v58)), (g12, 80, (fL v67)), (g13, 80, (fL v71)), (g14, 80, (fL v75)), (g15, 80, (fL v96)), (g16, 80, (fL v100)), (g17, 80, (fL v104)), (w.heap.size + 1 + 1, 92, z24)] W) (fun R1 => ?_) ?_
                          rotate_left
                          · skip
                            refine' mk_restN (K := fun W g18 => Bx w [(w.heap.size, 92, (j3 x1 y1 z1)), (w.heap.size + 1, 92, (j3 x2 y2 z2)), (g7, 80, (fL v33)), (g8, 80, (fL v39)), (g9, 80, (fL v44)), (g10, 80, (fL v49)), (g11, 80, (fL v58)), (g12, 80, (fL v67)), (g13, 80, (fL v71)), (g14, 80, (fL v75)), (g15, 80, (fL v96)), (g16, 80, (fL v100)), (g17, 80, (fL v104)), (g18, 80, zF), (w.heap.size + 1 + 1, 92, z24)] W) (fun R0a => ?_) ?_
                            rotate_left
                            · skip
                              refine wpAnyH_ready (rs := [5, 13]) (by kernel_rfl) (by simp) ?_
                              refine (AllReadyH.cons rfl (fun Kq hKq => ?_) (AllReadyH.cons rfl (fun Kq hKq => ?_) AllReadyH.nil))
                              · go_simp
                                refine (C110.out _ hS.bl).mono ?_
                                rintro e U172 ⟨rfl, LB⟩
                                have hS := hS.below LB
                                clear LB
                                refine hKq.out _ _ (hS.pre 13) (fun _ => ?_)
                                clear hKq Kq
                                exact R1.out U172 hS
                              · go_simp
                                have hS' := hS.newAt 13 U171.heap.size rfl 80 zF #[.int .u64 0, .int .u64 0, .int .u64 0, .int .u64 0, .int .u64 0, .int .u64 0, .int .u64 0, .int .u64 0] rfl
                                refine hKq.out _ _ (hS'.pre 13) (fun _ => ?_)
                                clear hKq Kq
                                generalize U171.alloc (.cells #[.int .u64 0, .int .u64 0, .int .u64 0, .int .u64 0, .int .u64 0, .int .u64 0, .int .u64 0, .int .u64 0] 80) = U173 at hS' ⊢
                                generalize U171.heap.size = g18 at hS' ⊢
                                exact R0a.out U173 g18 hS'
                            · rintro U174 g18 hS
                              refine wpAnyH_ready (rs := [5]) (by kernel_rfl) (by simp) ?_
                              refine (AllReadyH.cons rfl (fun Kq hKq => ?_) AllReadyH.nil)
                              · go_simp
                                refine (C110.out _ hS.bl).mono ?_
                                rintro e U175 ⟨rfl, LB⟩
                                have hS := hS.below LB
                                clear LB
                                refine hKq.out _ _ (hS.pre 13) (fun _ => ?_)
                                clear hKq Kq
                                exact R1a.out U175 g18 hS
                          · rintro U176 hS
                            refine wpAnyH_ready (rs := [7, 13]) (by kernel_rfl) (by simp) ?_
                            refine (AllReadyH.cons rfl (fun Kq hKq => ?_) (AllReadyH.cons rfl (fun Kq hKq => ?_) AllReadyH.nil))
                            · go_simp
                              refine (C112.out _ hS.bl).mono ?_
                              rintro e U177 ⟨rfl, LB⟩
                              have hS := hS.below LB
                              clear LB
                              refine hKq.out _ _ (hS.pre 13) (fun _ => ?_)
                              clear hKq Kq
                              exact R2.out U177 hS
                            · go_simp
                              have hS' := hS.newAt 13 U176.heap.size rfl 80 zF #[.int .u64 0, .int .u64 0, .int .u64 0, .int .u64 0, .int .u64 0, .int .u64 0, .int .u64 0, .int .u64 0] rfl
                              refine hKq.out _ _ (hS'.pre 13) (fun _ => ?_)
                              clear hKq Kq
                              generalize U176.alloc (.cells #[.int .u64 0, .int .u64 0, .int .u64 0, .int .u64 0, .int .u64 0, .int .u64 0, .int .u64 0, .int .u64 0] 80) = U178 at hS' ⊢
                              generalize U176.heap.size = g18 at hS' ⊢
                              exact R1a.out U178 g18 hS'
                        · rintro U179 g18 hS
                          refine wpAnyH_ready (rs := [7]) (by kernel_rfl) (by simp) ?_
                          refine (AllReadyH.cons rfl (fun Kq hKq => ?_) AllReadyH.nil)
                          · go_simp
                            refine (C112.out _ hS.bl).mono ?_
                            rintro e U180 ⟨rfl, LB⟩
                            have hS := hS.below LB
                            clear LB
                            refine hKq.out _ _ (hS.pre 13) (fun _ => ?_)
                            clear hKq Kq
                            exact R2a.out U180 g18 hS
                      · rintro U181 hS
                        refine wpAnyH_ready (rs := [11, 13]) (by kernel_rfl) (by simp) ?_
                        refine (AllReadyH.cons rfl (fun Kq hKq => ?_) (AllReadyH.cons rfl (fun Kq hKq => ?_) AllReadyH.nil))
                        · go_simp
                          refine (C116.out _ hS.bl).mono ?_
                          rintro e U182 ⟨rfl, LB⟩
                          have hS := hS.below LB
                          clear LB
                          refine hKq.out _ _ (hS.pre 13) (fun _ => ?_)
                          clear hKq Kq
                          exact R3.out U182 hS
                        · go_simp
                          have hS' := hS.newAt 13 U181.heap.size rfl 80 zF #[.int .u64 0, .int .u64 0, .int .u64 0, .int .u64 0, .int .u64 0, .int .u64 0, .int .u64 0, .int .u64 0] rfl
                          refine hKq.out _ _ (hS'.pre 13) (fun _ => ?_)
                          clear hKq Kq
                          generalize U181.alloc (.cells #[.int .u64 0, .int .u64 0, .int .u64 0, .int .u64 0, .int .u64 0, .int .u64 0, .int .u64 0, .int .u64 0] 80) = U183 at hS' ⊢
                          generalize U181.heap.size = g18 at hS' ⊢
                          exact R2a.out U183 g18 hS'
                    · rintro U184 g18 hS
                      refine wpAnyH_ready (rs := [11]) (by kernel_rfl) (by simp) ?_
                      refine (AllReadyH.cons rfl (fun Kq hKq => ?_) AllReadyH.nil)
                      · go_simp
                        refine (C116.out _ hS.bl).mono ?_
                        rintro e U185 ⟨rfl, LB⟩
                        have hS := hS.below LB
                        clear LB
                        refine hKq.out _ _ (hS.pre 13) (fun _ => ?_)
                        clear hKq Kq
                        exact R3a.out U185 g18 hS
                  · rintro U186 hS
                    refine wpAnyH_ready (rs := [12, 13]) (by kernel_rfl) (by simp) ?_
                    refine (AllReadyH.cons rfl (fun Kq hKq => ?_) (AllReadyH.cons rfl (fun Kq hKq => ?_) AllReadyH.nil))
                    · go_simp
                      refine (C117.out _ hS.bl).mono ?_
                      rintro e U187 ⟨rfl, LB⟩
                      have hS := hS.below LB
                      clear LB
                      refine hKq.out _ _ (hS.pre 13) (fun _ => ?_)
                      clear hKq Kq
                      exact R4.out U187 hS
                    · go_simp
                      have hS' := hS.newAt 13 U186.heap.size rfl 80 zF #[.int .u64 0, .int .u64 0, .int .u64 0, .int .u64 0, .int .u64 0, .int .u64 0, .int .u64 0, .int .u64 0] rfl
                      refine hKq.out _ _ (hS'.pre 13) (fun _ => ?_)
                      clear hKq Kq
                      generalize U186.alloc (.cells #[.int .u64 0, .int .u64 0, .int .u64 0, .int .u64 0, .int .u64 0, .int .u64 0, .int .u64 0, .int .u64 0] 80) = U188 at hS' ⊢
                      generalize U186.heap.size = g18 at hS' ⊢
                      exact R3a.out U188 g18 hS'
                · rintro U189 g18 hS
                  refine wpAnyH_ready (rs := [12]) (by kernel_rfl) (by simp) ?_
                  refine (AllReadyH.cons rfl (fun Kq hKq => ?_) AllReadyH.nil)
                  · go_simp
                    refine (C117.out _ hS.bl).mono ?_
                    rintro e U190 ⟨rfl, LB⟩
                    have hS := hS.below LB
                    clear LB
                    refine hKq.out _ _ (hS.pre 13) (fun _ => ?_)
                    clear hKq Kq
                    exact R4a.out U190 g18 hS
              · rintro U191 hS
                refine wpAnyH_ready (rs := [13]) (by kernel_rfl) (by simp) ?_
                refine (AllReadyH.cons rfl (fun Kq hKq => ?_) AllReadyH.nil)
                · go_simp
                  have hS' := hS.newAt 13 U191.heap.size rfl 80 zF #[.int .u64 0, .int .u64 0, .int .u64 0, .int .u64 0, .int .u64 0, .int .u64 0, .int .u64 0, .int .u64 0] rfl
                  refine hKq.out _ _ (hS'.pre 13) (fun _ => ?_)
                  clear hKq Kq
                  generalize U191.alloc (.cells #[.int .u64 0, .int .u64 0, .int .u64 0, .int .u64 0, .int .u64 0, .int .u64 0, .int .u64 0, .int .u64 0] 80) = U192 at hS' ⊢
                  generalize U191.heap.size = g18 at hS' ⊢
                  exact R4a.out U192 g18 hS'
            · rintro U193 g18 hS
              have hst := stf (hS.get 13 rfl) rfl v117
              refine wpAnyH_ready (rs := [14]) (by kernel_rfl) (by simp) ?_
              refine AllReadyH.cons rfl (fun Kq hKq => ?_) AllReadyH.nil
              go_simp
              have hS' : Bx w [(w.heap.size, 92, (j3 x1 y1 z1)), (w.heap.size + 1, 92, (j3 x2 y2 z2)), (g7, 80, (fL v33)), (g8, 80, (fL v39)), (g9, 80, (fL v44)), (g10, 80, (fL v49)), (g11, 80, (fL v58)), (g12, 80, (fL v67)), (g13, 80, (fL v71)), (g14, 80, (fL v75)), (g15, 80, (fL v96)), (g16, 80, (fL v100)), (g17, 80, (fL v104)), (g18, 80, (fL v117)), (w.heap.size + 1 + 1, 92, z24)] (U193.setCells g18 0 (fL v117)) := hS.setAt 13 (fL v117) rfl rfl
              refine hKq.out _ _ (hS'.pre 13) (fun _ => ?_)
              clear hKq Kq hst hS
              have hS := hS'
              clear hS'
              generalize U193.setCells g18 0 (fL v117) = U194 at hS ⊢
              refine wpAnyH_done (by kernel_rfl) ?_ _
              go_wp2
              have hS := hS.drew
              refine wp_region_held_drew (S := Bx w [(w.heap.size, 92, (j3 x1 y1 z1)), (w.heap.size + 1, 92, (j3 x2 y2 z2)), (g7, 80, (fL v33)), (g8, 80, (fL v39)), (g9, 80, (fL v44)), (g10, 80, (fL v49)), (g11, 80, (fL v58)), (g12, 80, (fL v67)), (g13, 80, (fL v71)), (g14, 80, (fL v75)), (g15, 80, (fL v96)), (g16, 80, (fL v100)), (g17, 80, (fL v104)), (g18, 80, (fL v117))]) (by kernel_rfl) (hS.pre 14) (fun _ => ?_)
              generalize U194.drew = U195 at hS ⊢
              have hP : Bx w [(w.heap.size, 92, (j3 x1 y1 z1)), (w.heap.size + 1, 92, (j3 x2 y2 z2)), (g7, 80, (fL v33)), (g8, 80, (fL v39)), (g9, 80, (fL v44)), (g10, 80, (fL v49)), (g11, 80, (fL v58)), (g12, 80, (fL v67)), (g13, 80, (fL v71)), (g14, 80, (fL v75)), (g15, 80, (fL v96)), (g16, 80, (fL v100)), (g17, 80, (fL v104)), (g18, 80, (fL v117))] U195 := hS.pre 14
              refine wpAnyH_take (i := 0) (v := ?_) rfl (by kernel_rfl) (by kernel_rfl) (by kernel_rfl) (fun _ _ _ h => h) (Or.inl ⟨by rfl, ?_⟩) (by assumption) ?_
              rotate_left
              · intro wq hSq
                go_simp
                try with_reducible rfl
              simp only [List.getElem_toArray, List.getElem_cons_zero, Act.put, List.setIfInBounds_toArray, List.set_cons_zero, List.set_cons_succ]
              refine wpAnyH_take (i := 1) (v := ?_) rfl (by kernel_rfl) (by kernel_rfl) (by kernel_rfl) (fun _ _ _ h => h) (Or.inl ⟨by rfl, ?_⟩) (by assumption) ?_
              rotate_left
              · intro wq hSq
                go_simp
                try with_reducible rfl
              simp only [List.getElem_toArray, List.getElem_cons_succ, List.getElem_cons_zero, Act.put, List.setIfInBounds_toArray, List.set_cons_zero, List.set_cons_succ]
              refine wpAnyH_take (i := 2) (v := ?_) rfl (by kernel_rfl) (by kernel_rfl) (by kernel_rfl) (fun _ _ _ h => h) (Or.inl ⟨by rfl, ?_⟩) (by assumption) ?_
              rotate_left
              · intro wq hSq
                have hl := ldf (hSq.get 9 rfl)
                go_simp
                try with_reducible rfl
              simp only [List.getElem_toArray, List.getElem_cons_succ, List.getElem_cons_zero, Act.put, List.setIfInBounds_toArray, List.set_cons_zero, List.set_cons_succ]
              refine wpAnyH_take (i := 3) (v := ?_) rfl (by kernel_rfl) (by kernel_rfl) (by kernel_rfl) (fun _ _ _ h => h) (Or.inl ⟨by rfl, ?_⟩) (by assumption) ?_
              rotate_left
              · intro wq hSq
                go_simp
                try with_reducible rfl
              simp only [List.getElem_toArray, List.getElem_cons_succ, List.getElem_cons_zero, Act.put, List.setIfInBounds_toArray, List.set_cons_zero, List.set_cons_succ]
              refine wpAnyH_take (i := 4) (v := ?_) rfl (by kernel_rfl) (by kernel_rfl) (by kernel_rfl) (fun _ _ _ h => h) (Or.inl ⟨by rfl, ?_⟩) (by assumption) ?_
              rotate_left
              · intro wq hSq
                have hl := ldf (hSq.get 12 rfl)
                go_simp
                try with_reducible rfl
              simp only [List.getElem_toArray, List.getElem_cons_succ, List.getElem_cons_zero, Act.put, List.setIfInBounds_toArray, List.set_cons_zero, List.set_cons_succ]
              refine wpAnyH_take (i := 5) (v := ?_) rfl (by kernel_rfl) (by kernel_rfl) (by kernel_rfl) (fun _ _ _ h => h) (Or.inl ⟨by rfl, ?_⟩) (by assumption) ?_
              rotate_left
              · intro wq hSq
                have hl := ldf (hSq.get 13 rfl)
                go_simp
                try with_reducible rfl
              simp only [List.getElem_toArray, List.getElem_cons_succ, List.getElem_cons_zero, Act.put, List.setIfInBounds_toArray, List.set_cons_zero, List.set_cons_succ]
              refine wpAnyH_take (i := 8) (v := ?_) rfl (by kernel_rfl) (by kernel_rfl) (by kernel_rfl) (fun _ _ _ h => h) (Or.inl ⟨by rfl, ?_⟩) (by assumption) ?_
              rotate_left
              · intro wq hSq
                go_simp
                try with_reducible rfl
              simp only [List.getElem_toArray, List.getElem_cons_succ, List.getElem_cons_zero, Act.put, List.setIfInBounds_toArray, List.set_cons_zero, List.set_cons_succ]
              refine wpAnyH_take (i := 9) (v := ?_) rfl (by kernel_rfl) (by kernel_rfl) (by kernel_rfl) (fun _ _ _ h => h) (Or.inl ⟨by rfl, ?_⟩) (by assumption) ?_
              rotate_left
              · intro wq hSq
                have hl := ldf (hSq.get 6 rfl)
                go_simp
                try with_reducible rfl
              simp only [List.getElem_toArray, List.getElem_cons_succ, List.getElem_cons_zero, Act.put, List.setIfInBounds_toArray, List.set_cons_zero, List.set_cons_succ]
              refine wpAnyH_take (i := 10) (v := ?_) rfl (by kernel_rfl) (by kernel_rfl) (by kernel_rfl) (fun _ _ _ h => h) (Or.inl ⟨by rfl, ?_⟩) (by assumption) ?_
              rotate_left
              · intro wq hSq
                have hl := ldf (hSq.get 11 rfl)
                go_simp
                try with_reducible rfl
              simp only [List.getElem_toArray, List.getElem_cons_succ, List.getElem_cons_zero, Act.put, List.setIfInBounds_toArray, List.set_cons_zero, List.set_cons_succ]
              clear hP
              refine' mk_restN (K := fun W g19 => Bx w [(w.heap.size, 92, (j3 x1 y1 z1)), (w.heap.size + 1, 92, (j3 x2 y2 z2)), (g7, 80, (fL v33)), (g8, 80, (fL v39)), (g9, 80, (fL v44)), (g10, 80, (fL v49)), (g11, 80, (fL v58)), (g12, 80, (fL v67)), (g13, 80, (fL v71)), (g14, 80, (fL v75)), (g15, 80, (fL v96)), (g16, 80, (fL v100)), (g17, 80, (fL v104)), (g18, 80, (fL v117)), (g19, 80, zF), (w.heap.size + 1 + 1, 92, z24)] W) (fun R4a => ?_) ?_
              rotate_left
              · skip
                refine' mk_restW (K := fun W => Bx w [(w.heap.size, 92, (j3 x1 y1 z1)), (w.heap.size + 1, 92, (j3 x2 y2 z2)), (g7, 80, (fL v33)), (g8, 80, (fL v39)), (g9, 80, (fL v44)), (g10, 80, (fL v49)), (g11, 80, (fL v58)), (g12, 80, (fL v67)), (g13, 80, (fL v71)), (g14, 80, (fL v75)), (g15, 80, (fL v96)), (g16, 80, (fL v100)), (g17, 80, (fL v104)), (g18, 80, (fL v117)), (w.heap.size + 1 + 1, 92, z24)] W) (fun R4 => ?_) ?_
                rotate_left
                · skip
                  refine' mk_restN (K := fun W g19 => Bx w [(w.heap.size, 92, (j3 x1 y1 z1)), (w.heap.size + 1, 92, (j3 x2 y2 z2)), (g7, 80, (fL v33)), (g8, 80, (fL v39)), (g9, 80, (fL v44)), (g10, 80, (fL v49)), (g11, 80, (fL v58)), (g12, 80, (fL v67)), (g13, 80, (fL v71)), (g14, 80, (fL v75)), (g15, 80, (fL v96)), (g16, 80, (fL v100)), (g17, 80, (fL v104)), (g18, 80, (fL v117)), (g19, 80, zF), (w.heap.size + 1 + 1, 92, z24)] W) (fun R3a => ?_) ?_
                  rotate_left
                  · skip
                    refine' mk_restW (K := fun W => Bx w [(w.heap.size, 92, (j3 x1 y1 z1)), (w.heap.size + 1, 92, (j3 x2 y2 z2)), (g7, 80, (fL v33)), (g8, 80, (fL v39)), (g9, 80, (fL v44)), (g10, 80, (fL v49)), (g11, 80, (fL v58)), (g12, 80, (fL v67)), (g13, 80, (fL v71)), (g14, 80, (fL v75)), (g15, 80, (fL v96)), (g16, 80, (fL v100)), (g17, 80, (fL v104)), (g18, 80, (fL v117)), (w.heap.size + 1 + 1, 92, z24)] W) (fun R3 => ?_) ?_
                    rotate_left
                    · skip
                      refine' mk_restN (K := fun W g19 => Bx w [(w.heap.size, 92, (j3 x1 y1 z1)), (w.heap.size + 1, 92, (j3 x2 y2 z2)), (g7, 80, (fL v33)), (g8, 80, (fL v39)), (g9, 80, (fL v44)), (g10, 80, (fL v49)), (g11, 80, (fL v58)), (g12, 80, (fL v67)), (g13, 80, (fL v71)), (g14, 80, (fL v75)), (g15, 80, (fL v96)), (g16, 80, (fL v100)), (g17, 80, (fL v104)), (g18, 80, (fL v117)), (g19, 80, zF), (w.heap.size + 1 + 1, 92, z24)] W) (fun R2a => ?_) ?_
                      rotate_left
                      · skip
                        refine' mk_restW (K := fun W => Bx w [(w.heap.size, 92, (j3 x1 y1 z1)), (w.heap.size + 1, 92, (j3 x2 y2 z2)), (g7, 80, (fL v33)), (g8, 80, (fL v39)), (g9, 80, (fL v44)), (g10, 80, (fL v49)), (g11, 80, (fL v58)), (g12, 80, (fL v67)), (g13, 80, (fL v71)), (g14, 80, (fL v75)), (g15, 80, (fL v96)), (g16, 80, (fL v100)), (g17, 80, (fL v104)), (g18, 80, (fL v117)), (w.heap.size + 1 + 1, 92, z24)] W) (fun R2 => ?_) ?_
                        rotate_left
                        · skip
                          refine' mk_restN (K := fun W g19 => Bx w [(w.heap.size, 92, (j3 x1 y1 z1)), (w.heap.size + 1, 92, (j3 x2 y2 z2)), (g7, 80, (fL v33)), (g8, 80, (fL v39)), (g9, 80, (fL v44)), (g10, 80, (fL v49)), (g11, 80, (fL v58)), (g12, 80, (fL v67)), (g13, 80, (fL v71)), (g14, 80, (fL v75)), (g15, 80, (fL v96)), (g16, 80, (fL v100)), (g17, 80, (fL v104)), (g18, 80, (fL v117)), (g19, 80, zF), (w.heap.size + 1 + 1, 92, z24)] W) (fun R1a => ?_) ?_
                          rotate_left
                          · skip
                            refine' mk_restW (K := fun W => Bx w [(w.heap.size, 92, (j3 x1 y1 z1)), (w.heap.size + 1, 92, (j3 x2 y2 z2)), (g7, 80, (fL v33)), (g8, 80, (fL v39)), (g9, 80, (fL v44)), (g10, 80, (fL v49)), (g11, 80, (fL v58)), (g12, 80, (fL v67)), (g13, 80, (fL v71)), (g14, 80, (fL v75)), (g15, 80, (fL v96)), (g16, 80, (fL v100)), (g17, 80, (fL v104)), (g18, 80, (fL v117)), (w.heap.size + 1 + 1, 92, z24)] W) (fun R1 => ?_) ?_
                            rotate_left
                            · skip
                              refine' mk_restN (K := fun W g19 => Bx w [(w.heap.size, 92, (j3 x1 y1 z1)), (w.heap.size + 1, 92, (j3 x2 y2 z2)), (g7, 80, (fL v33)), (g8, 80, (fL v39)), (g9, 80, (fL v44)), (g10, 80, (fL v49)), (g11, 80, (fL v58)), (g12, 80, (fL v67)), (g13, 80, (fL v71)), (g14, 80, (fL v75)), (g15, 80, (fL v96)), (g16, 80, (fL v100)), (g17, 80, (fL v104)), (g18, 80, (fL v117)), (g19, 80, zF), (w.heap.size + 1 + 1, 92, z24)] W) (fun R0a => ?_) ?_
                              rotate_left
                              · skip
                                refine wpAnyH_ready (rs := [6, 13]) (by kernel_rfl) (by simp) ?_
                                refine (AllReadyH.cons rfl (fun Kq hKq => ?_) (AllReadyH.cons rfl (fun Kq hKq => ?_) AllReadyH.nil))
                                · go_simp
                                  refine (C124.out _ hS.bl).mono ?_
                                  rintro e U196 ⟨rfl, LB⟩
                                  have hS := hS.below LB
                                  clear LB
                                  refine hKq.out _ _ (hS.pre 14) (fun _ => ?_)
                                  clear hKq Kq
                                  exact R1.out U196 hS
                                · go_simp
                                  have hS' := hS.newAt 14 U195.heap.size rfl 80 zF #[.int .u64 0, .int .u64 0, .int .u64 0, .int .u64 0, .int .u64 0, .int .u64 0, .int .u64 0, .int .u64 0] rfl
                                  refine hKq.out _ _ (hS'.pre 14) (fun _ => ?_)
                                  clear hKq Kq
                                  generalize U195.alloc (.cells #[.int .u64 0, .int .u64 0, .int .u64 0, .int .u64 0, .int .u64 0, .int .u64 0, .int .u64 0, .int .u64 0] 80) = U197 at hS' ⊢
                                  generalize U195.heap.size = g19 at hS' ⊢
                                  exact R0a.out U197 g19 hS'
                              · rintro U198 g19 hS
                                refine wpAnyH_ready (rs := [6]) (by kernel_rfl) (by simp) ?_
                                refine (AllReadyH.cons rfl (fun Kq hKq => ?_) AllReadyH.nil)
                                · go_simp
                                  refine (C124.out _ hS.bl).mono ?_
                                  rintro e U199 ⟨rfl, LB⟩
                                  have hS := hS.below LB
                                  clear LB
                                  refine hKq.out _ _ (hS.pre 14) (fun _ => ?_)
                                  clear hKq Kq
                                  exact R1a.out U199 g19 hS
                            · rintro U200 hS
                              refine wpAnyH_ready (rs := [7, 13]) (by kernel_rfl) (by simp) ?_
                              refine (AllReadyH.cons rfl (fun Kq hKq => ?_) (AllReadyH.cons rfl (fun Kq hKq => ?_) AllReadyH.nil))
                              · go_simp
                                refine (C125.out _ hS.bl).mono ?_
                                rintro e U201 ⟨rfl, LB⟩
                                have hS := hS.below LB
                                clear LB
                                refine hKq.out _ _ (hS.pre 14) (fun _ => ?_)
                                clear hKq Kq
                                exact R2.out U201 hS
                              · go_simp
                                have hS' := hS.newAt 14 U200.heap.size rfl 80 zF #[.int .u64 0, .int .u64 0, .int .u64 0, .int .u64 0, .int .u64 0, .int .u64 0, .int .u64 0, .int .u64 0] rfl
                                refine hKq.out _ _ (hS'.pre 14) (fun _ => ?_)
                                clear hKq Kq
                                generalize U200.alloc (.cells #[.int .u64 0, .int .u64 0, .int .u64 0, .int .u64 0, .int .u64 0, .int .u64 0, .int .u64 0, .int .u64 0] 80) = U202 at hS' ⊢
                                generalize U200.heap.size = g19 at hS' ⊢
                                exact R1a.out U202 g19 hS'
                          · rintro U203 g19 hS
                            refine wpAnyH_ready (rs := [7]) (by kernel_rfl) (by simp) ?_
                            refine (AllReadyH.cons rfl (fun Kq hKq => ?_) AllReadyH.nil)
                            · go_simp
                              refine (C125.out _ hS.bl).mono ?_
                              rintro e U204 ⟨rfl, LB⟩
                              have hS := hS.below LB
                              clear LB
                              refine hKq.out _ _ (hS.pre 14) (fun _ => ?_)
                              clear hKq Kq
                              exact R2a.out U204 g19 hS
                        · rintro U205 hS
                          refine wpAnyH_ready (rs := [11, 13]) (by kernel_rfl) (by simp) ?_
                          refine (AllReadyH.cons rfl (fun Kq hKq => ?_) (AllReadyH.cons rfl (fun Kq hKq => ?_) AllReadyH.nil))
                          · go_simp
                            refine (C129.out _ hS.bl).mono ?_
                            rintro e U206 ⟨rfl, LB⟩
                            have hS := hS.below LB
                            clear LB
                            refine hKq.out _ _ (hS.pre 14) (fun _ => ?_)
                            clear hKq Kq
                            exact R3.out U206 hS
                          · go_simp
                            have hS' := hS.newAt 14 U205.heap.size rfl 80 zF #[.int .u64 0, .int .u64 0, .int .u64 0, .int .u64 0, .int .u64 0, .int .u64 0, .int .u64 0, .int .u64 0] rfl
                            refine hKq.out _ _ (hS'.pre 14) (fun _ => ?_)
                            clear hKq Kq
                            generalize U205.alloc (.cells #[.int .u64 0, .int .u64 0, .int .u64 0, .int .u64 0, .int .u64 0, .int .u64 0, .int .u64 0, .int .u64 0] 80) = U207 at hS' ⊢
                            generalize U205.heap.size = g19 at hS' ⊢
                            exact R2a.out U207 g19 hS'
                      · rintro U208 g19 hS
                        refine wpAnyH_ready (rs := [11]) (by kernel_rfl) (by simp) ?_
                        refine (AllReadyH.cons rfl (fun Kq hKq => ?_) AllReadyH.nil)
                        · go_simp
                          refine (C129.out _ hS.bl).mono ?_
                          rintro e U209 ⟨rfl, LB⟩
                          have hS := hS.below LB
                          clear LB
                          refine hKq.out _ _ (hS.pre 14) (fun _ => ?_)
                          clear hKq Kq
                          exact R3a.out U209 g19 hS
                    · rintro U210 hS
                      refine wpAnyH_ready (rs := [12, 13]) (by kernel_rfl) (by simp) ?_
                      refine (AllReadyH.cons rfl (fun Kq hKq => ?_) (AllReadyH.cons rfl (fun Kq hKq => ?_) AllReadyH.nil))
                      · go_simp
                        refine (C130.out _ hS.bl).mono ?_
                        rintro e U211 ⟨rfl, LB⟩
                        have hS := hS.below LB
                        clear LB
                        refine hKq.out _ _ (hS.pre 14) (fun _ => ?_)
                        clear hKq Kq
                        exact R4.out U211 hS
                      · go_simp
                        have hS' := hS.newAt 14 U210.heap.size rfl 80 zF #[.int .u64 0, .int .u64 0, .int .u64 0, .int .u64 0, .int .u64 0, .int .u64 0, .int .u64 0, .int .u64 0] rfl
                        refine hKq.out _ _ (hS'.pre 14) (fun _ => ?_)
                        clear hKq Kq
                        generalize U210.alloc (.cells #[.int .u64 0, .int .u64 0, .int .u64 0, .int .u64 0, .int .u64 0, .int .u64 0, .int .u64 0, .int .u64 0] 80) = U212 at hS' ⊢
                        generalize U210.heap.size = g19 at hS' ⊢
                        exact R3a.out U212 g19 hS'
                  · rintro U213 g19 hS
                    refine wpAnyH_ready (rs := [12]) (by kernel_rfl) (by simp) ?_
                    refine (AllReadyH.cons rfl (fun Kq hKq => ?_) AllReadyH.nil)
                    · go_simp
                      refine (C130.out _ hS.bl).mono ?_
                      rintro e U214 ⟨rfl, LB⟩
                      have hS := hS.below LB
                      clear LB
                      refine hKq.out _ _ (hS.pre 14) (fun _ => ?_)
                      clear hKq Kq
                      exact R4a.out U214 g19 hS
                · rintro U215 hS
                  refine wpAnyH_ready (rs := [13]) (by kernel_rfl) (by simp) ?_
                  refine (AllReadyH.cons rfl (fun Kq hKq => ?_) AllReadyH.nil)
                  · go_simp
                    have hS' := hS.newAt 14 U215.heap.size rfl 80 zF #[.int .u64 0, .int .u64 0, .int .u64 0, .int .u64 0, .int .u64 0, .int .u64 0, .int .u64 0, .int .u64 0] rfl
                    refine hKq.out _ _ (hS'.pre 14) (fun _ => ?_)
                    clear hKq Kq
                    generalize U215.alloc (.cells #[.int .u64 0, .int .u64 0, .int .u64 0, .int .u64 0, .int .u64 0, .int .u64 0, .int .u64 0, .int .u64 0] 80) = U216 at hS' ⊢
                    generalize U215.heap.size = g19 at hS' ⊢
                    exact R4a.out U216 g19 hS'
              · rintro U217 g19 hS
                have hst := stf (hS.get 14 rfl) rfl v130
                refine wpAnyH_ready (rs := [14]) (by kernel_rfl) (by simp) ?_
                refine AllReadyH.cons rfl (fun Kq hKq => ?_) AllReadyH.nil
                go_simp
                have hS' : Bx w [(w.heap.size, 92, (j3 x1 y1 z1)), (w.heap.size + 1, 92, (j3 x2 y2 z2)), (g7, 80, (fL v33)), (g8, 80, (fL v39)), (g9, 80, (fL v44)), (g10, 80, (fL v49)), (g11, 80, (fL v58)), (g12, 80, (fL v67)), (g13, 80, (fL v71)), (g14, 80, (fL v75)), (g15, 80, (fL v96)), (g16, 80, (fL v100)), (g17, 80, (fL v104)), (g18, 80, (fL v117)), (g19, 80, (fL v130)), (w.heap.size + 1 + 1, 92, z24)] (U217.setCells g19 0 (fL v130)) := hS.setAt 14 (fL v130) rfl rfl
                refine hKq.out _ _ (hS'.pre 14) (fun _ => ?_)
                clear hKq Kq hst hS
                have hS := hS'
                clear hS'
                generalize U217.setCells g19 0 (fL v130) = U218 at hS ⊢
                refine wpAnyH_done (by kernel_rfl) ?_ _
                go_wp2
                have hS := hS.drew
                refine wp_region_held_drew (S := Bx w [(w.heap.size, 92, (j3 x1 y1 z1)), (w.heap.size + 1, 92, (j3 x2 y2 z2)), (g7, 80, (fL v33)), (g8, 80, (fL v39)), (g9, 80, (fL v44)), (g10, 80, (fL v49)), (g11, 80, (fL v58)), (g12, 80, (fL v67)), (g13, 80, (fL v71)), (g14, 80, (fL v75)), (g15, 80, (fL v96)), (g16, 80, (fL v100)), (g17, 80, (fL v104)), (g18, 80, (fL v117)), (g19, 80, (fL v130))]) (by kernel_rfl) (hS.pre 15) (fun _ => ?_)
                generalize U218.drew = U219 at hS ⊢
                have hP : Bx w [(w.heap.size, 92, (j3 x1 y1 z1)), (w.heap.size + 1, 92, (j3 x2 y2 z2)), (g7, 80, (fL v33)), (g8, 80, (fL v39)), (g9, 80, (fL v44)), (g10, 80, (fL v49)), (g11, 80, (fL v58)), (g12, 80, (fL v67)), (g13, 80, (fL v71)), (g14, 80, (fL v75)), (g15, 80, (fL v96)), (g16, 80, (fL v100)), (g17, 80, (fL v104)), (g18, 80, (fL v117)), (g19, 80, (fL v130))] U219 := hS.pre 15
                refine wpAnyH_take (i := 0) (v := ?_) rfl (by kernel_rfl) (by kernel_rfl) (by kernel_rfl) (fun _ _ _ h => h) (Or.inl ⟨by rfl, ?_⟩) (by assumption) ?_
                rotate_left
                · intro wq hSq
                  have hl := ldf (hSq.get 13 rfl)
                  go_simp
                  try with_reducible rfl
                simp only [List.getElem_toArray, List.getElem_cons_zero, Act.put, List.setIfInBounds_toArray, List.set_cons_zero, List.set_cons_succ]
                refine wpAnyH_take (i := 1) (v := ?_) rfl (by kernel_rfl) (by kernel_rfl) (by kernel_rfl) (fun _ _ _ h => h) (Or.inl ⟨by rfl, ?_⟩) (by assumption) ?_
                rotate_left
                · intro wq hSq
                  have hl := ldf (hSq.get 14 rfl)
                  go_simp
                  try with_reducible rfl
                simp only [List.getElem_toArray, List.getElem_cons_succ, List.getElem_cons_zero, Act.put, List.setIfInBounds_toArray, List.set_cons_zero, List.set_cons_succ]
                refine wpAnyH_take (i := 2) (v := ?_) rfl (by kernel_rfl) (by kernel_rfl) (by kernel_rfl) (fun _ _ _ h => h) (Or.inl ⟨by rfl, ?_⟩) (by assumption) ?_
                rotate_left
                · intro wq hSq
                  go_simp
                  try with_reducible rfl
                simp only [List.getElem_toArray, List.getElem_cons_succ, List.getElem_cons_zero, Act.put, List.setIfInBounds_toArray, List.set_cons_zero, List.set_cons_succ]
                refine wpAnyH_take (i := 3) (v := ?_) rfl (by kernel_rfl) (by kernel_rfl) (by kernel_rfl) (fun _ _ _ h => h) (Or.inl ⟨by rfl, ?_⟩) (by assumption) ?_
                rotate_left
                · intro wq hSq
                  have hl := ldf (hSq.get 8 rfl)
                  go_simp
                  try with_reducible rfl
                simp only [List.getElem_toArray, List.getElem_cons_succ, List.getElem_cons_zero, Act.put, List.setIfInBounds_toArray, List.set_cons_zero, List.set_cons_succ]
                refine wpAnyH_take (i := 4) (v := ?_) rfl (by kernel_rfl) (by kernel_rfl) (by kernel_rfl) (fun _ _ _ h => h) (Or.inl ⟨by rfl, ?_⟩) (by assumption) ?_
                rotate_left
                · intro wq hSq
                  go_simp
                  try with_reducible rfl
                simp only [List.getElem_toArray, List.getElem_cons_succ, List.getElem_cons_zero, Act.put, List.setIfInBounds_toArray, List.set_cons_zero, List.set_cons_succ]
                refine wpAnyH_take (i := 5) (v := ?_) rfl (by kernel_rfl) (by kernel_rfl) (by kernel_rfl) (fun _ _ _ h => h) (Or.inl ⟨by rfl, ?_⟩) (by assumption) ?_
                rotate_left
                · intro wq hSq
                  go_simp
                  try with_reducible rfl
                simp only [List.getElem_toArray, List.getElem_cons_succ, List.getElem_cons_zero, Act.put, List.setIfInBounds_toArray, List.set_cons_zero, List.set_cons_succ]
                refine wpAnyH_take (i := 6) (v := ?_) rfl (by kernel_rfl) (by kernel_rfl) (by kernel_rfl) (fun _ _ _ h => h) (Or.inl ⟨by rfl, ?_⟩) (by assumption) ?_
                rotate_left
                · intro wq hSq
                  have hl := (ldj3 (hSq.get 0 rfl)).2.2
                  go_simp
                  try with_reducible rfl
                simp only [List.getElem_toArray, List.getElem_cons_succ, List.getElem_cons_zero, Act.put, List.setIfInBounds_toArray, List.set_cons_zero, List.set_cons_succ]
                refine wpAnyH_take (i := 7) (v := ?_) rfl (by kernel_rfl) (by kernel_rfl) (by kernel_rfl) (fun _ _ _ h => h) (Or.inl ⟨by rfl, ?_⟩) (by assumption) ?_
                rotate_left
                · intro wq hSq
                  go_simp
                  try with_reducible rfl
                simp only [List.getElem_toArray, List.getElem_cons_succ, List.getElem_cons_zero, Act.put, List.setIfInBounds_toArray, List.set_cons_zero, List.set_cons_succ]
                refine wpAnyH_take (i := 8) (v := ?_) rfl (by kernel_rfl) (by kernel_rfl) (by kernel_rfl) (fun _ _ _ h => h) (Or.inl ⟨by rfl, ?_⟩) (by assumption) ?_
                rotate_left
                · intro wq hSq
                  have hl := (ldj3 (hSq.get 1 rfl)).2.2
                  go_simp
                  try with_reducible rfl
                simp only [List.getElem_toArray, List.getElem_cons_succ, List.getElem_cons_zero, Act.put, List.setIfInBounds_toArray, List.set_cons_zero, List.set_cons_succ]
                clear hP
                refine wpAnyH_ready (rs := [9]) (by kernel_rfl) (by simp) ?_
                refine AllReadyH.cons rfl (fun Kq hKq => ?_) AllReadyH.nil
                go_simp
                refine (C140.out _ hS.bl).mono ?_
                rintro e U220 ⟨rfl, LB⟩
                have hS := hS.below LB
                clear LB
                refine hKq.out _ _ (hS.pre 15) (fun _ => ?_)
                clear hKq Kq
                refine wpAnyH_ready (rs := [10]) (by kernel_rfl) (by simp) ?_
                refine AllReadyH.cons rfl (fun Kq hKq => ?_) AllReadyH.nil
                go_simp
                refine (C141.out _ hS.bl).mono ?_
                rintro e U221 ⟨rfl, LB⟩
                have hS := hS.below LB
                clear LB
                refine hKq.out _ _ (hS.pre 15) (fun _ => ?_)
                clear hKq Kq
                have hP : Bx w [(w.heap.size, 92, (j3 x1 y1 z1)), (w.heap.size + 1, 92, (j3 x2 y2 z2)), (g7, 80, (fL v33)), (g8, 80, (fL v39)), (g9, 80, (fL v44)), (g10, 80, (fL v49)), (g11, 80, (fL v58)), (g12, 80, (fL v67)), (g13, 80, (fL v71)), (g14, 80, (fL v75)), (g15, 80, (fL v96)), (g16, 80, (fL v100)), (g17, 80, (fL v104)), (g18, 80, (fL v117)), (g19, 80, (fL v130))] U221 := hS.pre 15
                refine wpAnyH_take (i := 11) (v := ?_) rfl (by kernel_rfl) (by kernel_rfl) (by kernel_rfl) (fun _ _ _ h => h) (Or.inl ⟨by rfl, ?_⟩) (by assumption) ?_
                rotate_left
                · intro wq hSq
                  have hl := bdj3 v117 v130 v141 wq
                  go_simp
                  try with_reducible rfl
                simp only [List.getElem_toArray, List.getElem_cons_succ, List.getElem_cons_zero, Act.put, List.setIfInBounds_toArray, List.set_cons_zero, List.set_cons_succ]
                clear hP
                have hst := stj (hS.get 15 rfl) rfl v117 v130 v141
                refine wpAnyH_ready (rs := [12]) (by kernel_rfl) (by simp) ?_
                refine AllReadyH.cons rfl (fun Kq hKq => ?_) AllReadyH.nil
                go_simp
                have hS' : Bx w [(w.heap.size, 92, (j3 x1 y1 z1)), (w.heap.size + 1, 92, (j3 x2 y2 z2)), (g7, 80, (fL v33)), (g8, 80, (fL v39)), (g9, 80, (fL v44)), (g10, 80, (fL v49)), (g11, 80, (fL v58)), (g12, 80, (fL v67)), (g13, 80, (fL v71)), (g14, 80, (fL v75)), (g15, 80, (fL v96)), (g16, 80, (fL v100)), (g17, 80, (fL v104)), (g18, 80, (fL v117)), (g19, 80, (fL v130)), (w.heap.size + 1 + 1, 92, (j3 v117 v130 v141))] (U221.setCells (w.heap.size + 1 + 1) 0 (j3 v117 v130 v141)) := hS.setAt 15 (j3 v117 v130 v141) rfl rfl
                refine hKq.out _ _ (hS'.pre 15) (fun _ => ?_)
                clear hKq Kq hst hS
                have hS := hS'
                clear hS'
                generalize U221.setCells (w.heap.size + 1 + 1) 0 (j3 v117 v130 v141) = U222 at hS ⊢
                refine wpAnyH_done (by kernel_rfl) ?_ _
                go_wp2
                refine bodyPost_ret (v := .agg (j3 v117 v130 v141).toArray) ?_ rfl ⟨by rw [HR.out], hS.bl⟩
                exact res_one (T := 92) (p := 6) (ty := 92) (X := j3 v117 v130 v141) (by kernel_rfl) _ _ rfl Tryd.underlying92 rfl (by kernel_rfl) (hS.get 15 rfl)

end Go.Proofs.YtcijjmncilciiaaDoor
