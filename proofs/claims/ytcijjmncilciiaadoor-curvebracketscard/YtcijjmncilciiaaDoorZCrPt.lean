/-
  The document's point.
-/
import Derived.Test.YtcijjmncilciiaaDoorZEcDToCrInv
import Derived.Deep.DeepCutAuto
namespace Go.Proofs.YtcijjmncilciiaaDoor
open Go.RowKit Go.IntWalk
attribute [local go_sem ↓] ld_F st_F eq_F ld_J st_J bd_J bd_F ld_a32 st_a32 ld_rpt st_rpt eq_rpt bd_rpt

set_option maxRecDepth 100000 in
set_option maxHeartbeats 4000000 in
theorem point_z (gf : Nat) (x y z : Int) (b_z : Nb z) (hz : z = 0)  (w : World) (hF : FF w gf) :
    Calls Tryd.prog 44 #[.pointer (some ⟨gf, 0, none⟩), .agg (j3 x y z).toArray] w (Ans (.agg (pL z32 z32 true).toArray) w) := by
  have HF := hide hF
  have C9 : Hid (∀ W, Calls Tryd.prog 70 #[.agg (fL z).toArray] W (Ans (.bool (decide (z = 0))) W)) := fun W => rzeroN b_z W
  have hS : Bx w [(w.heap.size, 92, (j3 x y z)), (w.heap.size + 1, 33, PZ)] ((w.alloc (.cells (j3 x y z).toArray 92)).alloc (.cells Tryd.zeroCells33 33)) := (((Bx.nil w).newAt 0 (w.heap.size) (by simp) 92 (j3 x y z) _ rfl).newAt 1 (w.heap.size + 1) (by simp) 33 PZ _ zc_rpt)
  have o1 := j3_one x y z
  have HZ : Hid (decide (z = 0) = true) := decide_eq_true hz
  clear hz HF
  clear hF b_z
  go_enter Tryd.func44, Tryd.ntmps44
  have hl := (ldj3 (hS.get 0 rfl)).2.2
  go_wp2_with fail
  refine (C9.out _).mono ?_
  rintro e U901 ⟨rfl, LB⟩
  clear hl o1
  have hS := hS.below LB
  clear LB
  rw [HZ.out]
  have hbd := bdr_far
  have hst := stR (X := z32) (Y := z32) (f := true) (hS.get 1 rfl) rfl rfl rfl
  have hS' : Bx w [(w.heap.size, 92, (j3 x y z)), (w.heap.size + 1, 33, (pL z32 z32 true))] (U901.setCells (w.heap.size + 1) 0 (pL z32 z32 true)) := hS.setAt 1 (pL z32 z32 true) rfl rfl
  clear hS
  have hS := hS'
  clear hS'
  go_wp2
  generalize U901.setCells (w.heap.size + 1) 0 (pL z32 z32 true) = U999 at hS ⊢
  refine bodyPost_ret (v := .agg (pL z32 z32 true).toArray) ?_ rfl ⟨rfl, hS.bl⟩
  exact res_one (T := 33) (p := 4) (ty := 33) (X := pL z32 z32 true) (by kernel_rfl) _ _ rfl Tryd.underlying33 rfl info_rpt (hS.get 1 rfl)

set_option maxRecDepth 100000 in
set_option maxHeartbeats 4000000 in
theorem point_n (gf : Nat) (x y z v14 v18 v24 v26 v35 v36 v38 : Int) (b_x : Nb x) (b_y : Nb y) (b_z : Nb z) (hz : z ≠ 0) (h14 : mpw z EE = v14) (h18 : mm v14 v14 = v18) (h24 : mm x v18 = v24) (h26 : mm v24 1 = v26) (h35 : mm v18 v14 = v35) (h36 : mm y v35 = v36) (h38 : mm v36 1 = v38) (D27 : List Int) (q27 : be v26 = D27) (D39 : List Int) (q39 : be v38 = D39) (w : World) (hF : FF w gf) :
    Calls Tryd.prog 44 #[.pointer (some ⟨gf, 0, none⟩), .agg (j3 x y z).toArray] w (Ans (.agg (pL D27 D39 false).toArray) w) := by
  have HF := hide hF
  have b_1 := nb_1
  have b_v14 : Nb v14 := by rw [← h14]; exact mpw_bd _ _
  have b_v18 : Nb v18 := by rw [← h18]; exact mm_bd _ _
  have b_v24 : Nb v24 := by rw [← h24]; exact mm_bd _ _
  have b_v26 : Nb v26 := by rw [← h26]; exact mm_bd _ _
  have b_v35 : Nb v35 := by rw [← h35]; exact mm_bd _ _
  have b_v36 : Nb v36 := by rw [← h36]; exact mm_bd _ _
  have b_v38 : Nb v38 := by rw [← h38]; exact mm_bd _ _
  have C9 : Hid (∀ W, Calls Tryd.prog 70 #[.agg (fL z).toArray] W (Ans (.bool (decide (z = 0))) W)) := fun W => rzeroN b_z W
  have C14 : Hid (∀ W, Below w.heap.size w W → Calls Tryd.prog 71 #[.pointer (some ⟨gf, 0, none⟩), .agg (fL z).toArray] W (Ans (.agg (fL v14).toArray) W)) := fun W hW => by rw [← h14]; exact rinvN b_z W (hF.at hW)
  have C18 : Hid (∀ W, Below w.heap.size w W → Calls Tryd.prog 40 #[.pointer (some ⟨gf, 0, none⟩), .agg (fL v14).toArray, .agg (fL v14).toArray] W (Ans (.agg (fL v18).toArray) W)) := fun W hW => by rw [← h18]; exact rmulN b_v14 b_v14 W (hF.at hW)
  have C24 : Hid (∀ W, Below w.heap.size w W → Calls Tryd.prog 40 #[.pointer (some ⟨gf, 0, none⟩), .agg (fL x).toArray, .agg (fL v18).toArray] W (Ans (.agg (fL v24).toArray) W)) := fun W hW => by rw [← h24]; exact rmulN b_x b_v18 W (hF.at hW)
  have C26 : Hid (∀ W, Below w.heap.size w W → Calls Tryd.prog 40 #[.pointer (some ⟨gf, 0, none⟩), .agg (fL v24).toArray, .agg (fL 1).toArray] W (Ans (.agg (fL v26).toArray) W)) := fun W hW => by rw [← h26]; exact rmulN b_v24 b_1 W (hF.at hW)
  have C27 : Hid (∀ W, Calls Tryd.prog 33 #[.agg (fL v26).toArray] W (Ans (.agg (bV D27).toArray) W)) := fun W => by rw [← q27]; exact rtoN b_v26 W
  have C35 : Hid (∀ W, Below w.heap.size w W → Calls Tryd.prog 40 #[.pointer (some ⟨gf, 0, none⟩), .agg (fL v18).toArray, .agg (fL v14).toArray] W (Ans (.agg (fL v35).toArray) W)) := fun W hW => by rw [← h35]; exact rmulN b_v18 b_v14 W (hF.at hW)
  have C36 : Hid (∀ W, Below w.heap.size w W → Calls Tryd.prog 40 #[.pointer (some ⟨gf, 0, none⟩), .agg (fL y).toArray, .agg (fL v35).toArray] W (Ans (.agg (fL v36).toArray) W)) := fun W hW => by rw [← h36]; exact rmulN b_y b_v35 W (hF.at hW)
  have C38 : Hid (∀ W, Below w.heap.size w W → Calls Tryd.prog 40 #[.pointer (some ⟨gf, 0, none⟩), .agg (fL v36).toArray, .agg (fL 1).toArray] W (Ans (.agg (fL v38).toArray) W)) := fun W hW => by rw [← h38]; exact rmulN b_v36 b_1 W (hF.at hW)
  have C39 : Hid (∀ W, Calls Tryd.prog 33 #[.agg (fL v38).toArray] W (Ans (.agg (bV D39).toArray) W)) := fun W => by rw [← q39]; exact rtoN b_v38 W
  have hS : Bx w [(w.heap.size, 92, (j3 x y z)), (w.heap.size + 1, 33, PZ)] ((w.alloc (.cells (j3 x y z).toArray 92)).alloc (.cells Tryd.zeroCells33 33)) := (((Bx.nil w).newAt 0 (w.heap.size) (by simp) 92 (j3 x y z) _ rfl).newAt 1 (w.heap.size + 1) (by simp) 33 PZ _ zc_rpt)
  have o1 := j3_one x y z
  have HZ : Hid (decide (z = 0) = false) := decide_eq_false hz
  have LD27 : Hid (D27.length = 32) := by unfold Hid; rw [← q27]; exact be_len _
  have LD39 : Hid (D39.length = 32) := by unfold Hid; rw [← q39]; exact be_len _
  clear hz q27 q39
  clear b_1 hF b_x b_y b_z b_v14 b_v18 b_v24 b_v26 b_v35 b_v36 b_v38 h14 h18 h24 h26 h35 h36 h38
  go_enter Tryd.func44, Tryd.ntmps44
  have hl := (ldj3 (hS.get 0 rfl)).2.2
  go_wp2_with fail
  refine (C9.out _).mono ?_
  rintro e U901 ⟨rfl, LB⟩
  clear hl o1
  have hS := hS.below LB
  clear LB
  rw [HZ.out]
  have hl2 := (ldj3 (hS.get 0 rfl)).2.2
  go_wp2_with fail
  refine (C14.out _ hS.bl).mono ?_
  rintro e U1 ⟨rfl, LB⟩
  have hS := hS.below LB
  clear LB
  clear hl2
  have hst := stfn U1 v14
  have hS' : Bx w [(w.heap.size, 92, (j3 x y z)), (U1.heap.size, 80, (fL v14)), (w.heap.size + 1, 33, PZ)] (U1.alloc (.cells (fL v14).toArray 80)) := hS.newAt 1 U1.heap.size rfl 80 (fL v14) _ rfl
  clear hS
  have hS := hS'
  clear hS'
  go_upto_region 4 with fail
  generalize U1.alloc (.cells (fL v14).toArray 80) = U2 at hS ⊢
  generalize U1.heap.size = g5 at hS ⊢
  clear hst
  have hl1 := ldf (hS.get 1 rfl)
  have hl2 := ldf (hS.get 1 rfl)
  go_wp2_with fail
  refine (C18.out _ hS.bl).mono ?_
  rintro e U3 ⟨rfl, LB⟩
  have hS := hS.below LB
  clear LB
  clear hl1
  clear hl2
  have hst := stfn U3 v18
  have hS' : Bx w [(w.heap.size, 92, (j3 x y z)), (g5, 80, (fL v14)), (U3.heap.size, 80, (fL v18)), (w.heap.size + 1, 33, PZ)] (U3.alloc (.cells (fL v18).toArray 80)) := hS.newAt 2 U3.heap.size rfl 80 (fL v18) _ rfl
  clear hS
  have hS := hS'
  clear hS'
  go_upto_region 5 with fail
  generalize U3.alloc (.cells (fL v18).toArray 80) = U4 at hS ⊢
  generalize U3.heap.size = g6 at hS ⊢
  clear hst
  have hS := hS.drew
  refine wp_region_held_drew (S := Bx w [(w.heap.size, 92, (j3 x y z)), (g5, 80, (fL v14)), (g6, 80, (fL v18))]) (by kernel_rfl) (hS.pre 3) (fun _ => ?_)
  generalize U4.drew = U5 at hS ⊢
  have hP : Bx w [(w.heap.size, 92, (j3 x y z)), (g5, 80, (fL v14)), (g6, 80, (fL v18))] U5 := hS.pre 3
  refine wpAnyH_take (i := 0) (v := ?_) rfl (by kernel_rfl) (by kernel_rfl) (by kernel_rfl) (fun _ _ _ h => h) (Or.inl ⟨by rfl, ?_⟩) (by assumption) ?_
  rotate_left
  · intro wq hSq
    go_simp
    try with_reducible rfl
  simp only [List.getElem_toArray, List.getElem_cons_zero, Act.put, List.setIfInBounds_toArray, List.set_cons_zero, List.set_cons_succ]
  refine wpAnyH_take (i := 1) (v := ?_) rfl (by kernel_rfl) (by kernel_rfl) (by kernel_rfl) (fun _ _ _ h => h) (Or.inl ⟨by rfl, ?_⟩) (by assumption) ?_
  rotate_left
  · intro wq hSq
    go_simp
    try with_reducible rfl
  simp only [List.getElem_toArray, List.getElem_cons_succ, List.getElem_cons_zero, Act.put, List.setIfInBounds_toArray, List.set_cons_zero, List.set_cons_succ]
  refine wpAnyH_take (i := 2) (v := ?_) rfl (by kernel_rfl) (by kernel_rfl) (by kernel_rfl) (fun _ _ _ h => h) (Or.inl ⟨by rfl, ?_⟩) (by assumption) ?_
  rotate_left
  · intro wq hSq
    go_simp
    try with_reducible rfl
  simp only [List.getElem_toArray, List.getElem_cons_succ, List.getElem_cons_zero, Act.put, List.setIfInBounds_toArray, List.set_cons_zero, List.set_cons_succ]
  refine wpAnyH_take (i := 3) (v := ?_) rfl (by kernel_rfl) (by kernel_rfl) (by kernel_rfl) (fun _ _ _ h => h) (Or.inl ⟨by rfl, ?_⟩) (by assumption) ?_
  rotate_left
  · intro wq hSq
    have hl := (ldj3 (hSq.get 0 rfl)).1
    go_simp
    try with_reducible rfl
  simp only [List.getElem_toArray, List.getElem_cons_succ, List.getElem_cons_zero, Act.put, List.setIfInBounds_toArray, List.set_cons_zero, List.set_cons_succ]
  refine wpAnyH_take (i := 4) (v := ?_) rfl (by kernel_rfl) (by kernel_rfl) (by kernel_rfl) (fun _ _ _ h => h) (Or.inl ⟨by rfl, ?_⟩) (by assumption) ?_
  rotate_left
  · intro wq hSq
    have hl := ldf (hSq.get 2 rfl)
    go_simp
    try with_reducible rfl
  simp only [List.getElem_toArray, List.getElem_cons_succ, List.getElem_cons_zero, Act.put, List.setIfInBounds_toArray, List.set_cons_zero, List.set_cons_succ]
  refine wpAnyH_take (i := 6) (v := ?_) rfl (by kernel_rfl) (by kernel_rfl) (by kernel_rfl) (fun _ _ _ h => h) (Or.inl ⟨by rfl, ?_⟩) (by assumption) ?_
  rotate_left
  · intro wq hSq
    have hl := bdf1 wq
    go_simp
    try with_reducible rfl
  simp only [List.getElem_toArray, List.getElem_cons_succ, List.getElem_cons_zero, Act.put, List.setIfInBounds_toArray, List.set_cons_zero, List.set_cons_succ]
  refine wpAnyH_take (i := 9) (v := ?_) rfl (by kernel_rfl) (by kernel_rfl) (by kernel_rfl) (fun _ _ _ h => h) (Or.inl ⟨by rfl, ?_⟩) (by assumption) ?_
  rotate_left
  · intro wq hSq
    go_simp
    try with_reducible rfl
  simp only [List.getElem_toArray, List.getElem_cons_succ, List.getElem_cons_zero, Act.put, List.setIfInBounds_toArray, List.set_cons_zero, List.set_cons_succ]
  refine wpAnyH_take (i := 10) (v := ?_) rfl (by kernel_rfl) (by kernel_rfl) (by kernel_rfl) (fun _ _ _ h => h) (Or.inl ⟨by rfl, ?_⟩) (by assumption) ?_
  rotate_left
  · intro wq hSq
    go_simp
    try with_reducible rfl
  simp only [List.getElem_toArray, List.getElem_cons_succ, List.getElem_cons_zero, Act.put, List.setIfInBounds_toArray, List.set_cons_zero, List.set_cons_succ]
  refine wpAnyH_take (i := 11) (v := ?_) rfl (by kernel_rfl) (by kernel_rfl) (by kernel_rfl) (fun _ _ _ h => h) (Or.inl ⟨by rfl, ?_⟩) (by assumption) ?_
  rotate_left
  · intro wq hSq
    go_simp
    try with_reducible rfl
  simp only [List.getElem_toArray, List.getElem_cons_succ, List.getElem_cons_zero, Act.put, List.setIfInBounds_toArray, List.set_cons_zero, List.set_cons_succ]
  refine wpAnyH_take (i := 12) (v := ?_) rfl (by kernel_rfl) (by kernel_rfl) (by kernel_rfl) (fun _ _ _ h => h) (Or.inl ⟨by rfl, ?_⟩) (by assumption) ?_
  rotate_left
  · intro wq hSq
    have hl := (ldj3 (hSq.get 0 rfl)).2.1
    go_simp
    try with_reducible rfl
  simp only [List.getElem_toArray, List.getElem_cons_succ, List.getElem_cons_zero, Act.put, List.setIfInBounds_toArray, List.set_cons_zero, List.set_cons_succ]
  refine wpAnyH_take (i := 13) (v := ?_) rfl (by kernel_rfl) (by kernel_rfl) (by kernel_rfl) (fun _ _ _ h => h) (Or.inl ⟨by rfl, ?_⟩) (by assumption) ?_
  rotate_left
  · intro wq hSq
    go_simp
    try with_reducible rfl
  simp only [List.getElem_toArray, List.getElem_cons_succ, List.getElem_cons_zero, Act.put, List.setIfInBounds_toArray, List.set_cons_zero, List.set_cons_succ]
  refine wpAnyH_take (i := 14) (v := ?_) rfl (by kernel_rfl) (by kernel_rfl) (by kernel_rfl) (fun _ _ _ h => h) (Or.inl ⟨by rfl, ?_⟩) (by assumption) ?_
  rotate_left
  · intro wq hSq
    have hl := ldf (hSq.get 2 rfl)
    go_simp
    try with_reducible rfl
  simp only [List.getElem_toArray, List.getElem_cons_succ, List.getElem_cons_zero, Act.put, List.setIfInBounds_toArray, List.set_cons_zero, List.set_cons_succ]
  refine wpAnyH_take (i := 15) (v := ?_) rfl (by kernel_rfl) (by kernel_rfl) (by kernel_rfl) (fun _ _ _ h => h) (Or.inl ⟨by rfl, ?_⟩) (by assumption) ?_
  rotate_left
  · intro wq hSq
    have hl := ldf (hSq.get 1 rfl)
    go_simp
    try with_reducible rfl
  simp only [List.getElem_toArray, List.getElem_cons_succ, List.getElem_cons_zero, Act.put, List.setIfInBounds_toArray, List.set_cons_zero, List.set_cons_succ]
  refine wpAnyH_take (i := 18) (v := ?_) rfl (by kernel_rfl) (by kernel_rfl) (by kernel_rfl) (fun _ _ _ h => h) (Or.inl ⟨by rfl, ?_⟩) (by assumption) ?_
  rotate_left
  · intro wq hSq
    have hl := bdf1 wq
    go_simp
    try with_reducible rfl
  simp only [List.getElem_toArray, List.getElem_cons_succ, List.getElem_cons_zero, Act.put, List.setIfInBounds_toArray, List.set_cons_zero, List.set_cons_succ]
  clear hP
  refine wpAnyH_ready (rs := [5]) (by kernel_rfl) (by simp) ?_
  refine AllReadyH.cons rfl (fun Kq hKq => ?_) AllReadyH.nil
  go_simp
  refine (C24.out _ hS.bl).mono ?_
  rintro e U6 ⟨rfl, LB⟩
  have hS := hS.below LB
  clear LB
  refine hKq.out _ _ (hS.pre 3) (fun _ => ?_)
  clear hKq Kq
  refine wpAnyH_ready (rs := [7]) (by kernel_rfl) (by simp) ?_
  refine AllReadyH.cons rfl (fun Kq hKq => ?_) AllReadyH.nil
  go_simp
  refine (C26.out _ hS.bl).mono ?_
  rintro e U7 ⟨rfl, LB⟩
  have hS := hS.below LB
  clear LB
  refine hKq.out _ _ (hS.pre 3) (fun _ => ?_)
  clear hKq Kq
  refine wpAnyH_ready (rs := [8]) (by kernel_rfl) (by simp) ?_
  refine AllReadyH.cons rfl (fun Kq hKq => ?_) AllReadyH.nil
  go_simp
  refine (C27.out _).mono ?_
  rintro e U8 ⟨rfl, LB⟩
  have hS := hS.below LB
  clear LB
  refine hKq.out _ _ (hS.pre 3) (fun _ => ?_)
  clear hKq Kq
  refine wpAnyH_ready (rs := [16]) (by kernel_rfl) (by simp) ?_
  refine AllReadyH.cons rfl (fun Kq hKq => ?_) AllReadyH.nil
  go_simp
  refine (C35.out _ hS.bl).mono ?_
  rintro e U9 ⟨rfl, LB⟩
  have hS := hS.below LB
  clear LB
  refine hKq.out _ _ (hS.pre 3) (fun _ => ?_)
  clear hKq Kq
  refine wpAnyH_ready (rs := [17]) (by kernel_rfl) (by simp) ?_
  refine AllReadyH.cons rfl (fun Kq hKq => ?_) AllReadyH.nil
  go_simp
  refine (C36.out _ hS.bl).mono ?_
  rintro e U10 ⟨rfl, LB⟩
  have hS := hS.below LB
  clear LB
  refine hKq.out _ _ (hS.pre 3) (fun _ => ?_)
  clear hKq Kq
  refine wpAnyH_ready (rs := [19]) (by kernel_rfl) (by simp) ?_
  refine AllReadyH.cons rfl (fun Kq hKq => ?_) AllReadyH.nil
  go_simp
  refine (C38.out _ hS.bl).mono ?_
  rintro e U11 ⟨rfl, LB⟩
  have hS := hS.below LB
  clear LB
  refine hKq.out _ _ (hS.pre 3) (fun _ => ?_)
  clear hKq Kq
  refine wpAnyH_ready (rs := [20]) (by kernel_rfl) (by simp) ?_
  refine AllReadyH.cons rfl (fun Kq hKq => ?_) AllReadyH.nil
  go_simp
  refine (C39.out _).mono ?_
  rintro e U12 ⟨rfl, LB⟩
  have hS := hS.below LB
  clear LB
  refine hKq.out _ _ (hS.pre 3) (fun _ => ?_)
  clear hKq Kq
  have hP : Bx w [(w.heap.size, 92, (j3 x y z)), (g5, 80, (fL v14)), (g6, 80, (fL v18))] U12 := hS.pre 3
  refine wpAnyH_take (i := 21) (v := ?_) rfl (by kernel_rfl) (by kernel_rfl) (by kernel_rfl) (fun _ _ _ h => h) (Or.inl ⟨by rfl, ?_⟩) (by assumption) ?_
  rotate_left
  · intro wq hSq
    have hl := bd_rp2 D27 D39 LD27.out LD39.out wq
    go_simp
    try with_reducible rfl
  simp only [List.getElem_toArray, List.getElem_cons_succ, List.getElem_cons_zero, Act.put, List.setIfInBounds_toArray, List.set_cons_zero, List.set_cons_succ]
  clear hP
  have hst := stR (X := D27) (Y := D39) (f := false) (hS.get 3 rfl) rfl LD27.out LD39.out
  refine wpAnyH_ready (rs := [22]) (by kernel_rfl) (by simp) ?_
  refine AllReadyH.cons rfl (fun Kq hKq => ?_) AllReadyH.nil
  go_simp
  have hS' : Bx w [(w.heap.size, 92, (j3 x y z)), (g5, 80, (fL v14)), (g6, 80, (fL v18)), (w.heap.size + 1, 33, (pL D27 D39 false))] (U12.setCells (w.heap.size + 1) 0 (pL D27 D39 false)) := hS.setAt 3 (pL D27 D39 false) rfl (by rw [pL_len LD27.out LD39.out]; rfl)
  refine hKq.out _ _ (hS'.pre 3) (fun _ => ?_)
  clear hKq Kq hst hS
  have hS := hS'
  clear hS'
  generalize U12.setCells (w.heap.size + 1) 0 (pL D27 D39 false) = U13 at hS ⊢
  refine wpAnyH_done (by kernel_rfl) ?_ _
  go_wp2
  refine bodyPost_ret (v := .agg (pL D27 D39 false).toArray) ?_ rfl ⟨rfl, hS.bl⟩
  exact res_one (T := 33) (p := 4) (ty := 33) (X := pL D27 D39 false) (by kernel_rfl) _ _ rfl Tryd.underlying33 rfl (by rw [pL_len LD27.out LD39.out]; exact info_rpt) (hS.get 3 rfl)

end Go.Proofs.YtcijjmncilciiaaDoor
