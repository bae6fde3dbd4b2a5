/-
  The document's twice.
-/
import Derived.Test.YtcijjmncilciiaaDoorZEcHToCrTw
import Derived.Deep.DeepCutAuto
namespace Go.Proofs.YtcijjmncilciiaaDoor
open Go.RowKit Go.IntWalk
attribute [local go_sem ↓] ld_F st_F eq_F ld_J st_J bd_J bd_F

set_option maxRecDepth 100000 in
set_option maxHeartbeats 8000000 in
theorem twice_n (gf : Nat) (x y z v35 v41 v46 v47 v52 v54 v60 v65 v69 v73 v78 v82 v83 v89 v93 v97 v101 v105 v113 v114 v116 v120 : Int) (b_x : Nb x) (b_y : Nb y) (b_z : Nb z) (hz : z ≠ 0) (hy : y ≠ 0) (h35 : mm z z = v35) (h41 : ps x v35 = v41) (h46 : pa x v35 = v46) (h47 : mm v41 v46 = v47) (h52 : pa v47 v47 = v52) (h54 : pa v52 v47 = v54) (h60 : mm y y = v60) (h65 : mm x v60 = v65) (h69 : pa v65 v65 = v69) (h73 : pa v69 v69 = v73) (h78 : mm v54 v54 = v78) (h82 : pa v73 v73 = v82) (h83 : ps v78 v82 = v83) (h89 : mm y z = v89) (h93 : mm v60 v60 = v93) (h97 : pa v93 v93 = v97) (h101 : pa v97 v97 = v101) (h105 : pa v101 v101 = v105) (h113 : ps v73 v83 = v113) (h114 : mm v54 v113 = v114) (h116 : ps v114 v105 = v116) (h120 : pa v89 v89 = v120) (w : World) (hF : FF w gf) :
    Calls Tryd.prog 49 #[.pointer (some ⟨gf, 0, none⟩), .agg (j3 x y z).toArray] w (Ans (.agg (j3 v83 v116 v120).toArray) w) := by
  have HF := hide hF
  have b_v35 : Nb v35 := by rw [← h35]; exact mm_bd _ _
  have b_v41 : Nb v41 := by rw [← h41]; exact ps_bd _ _
  have b_v46 : Nb v46 := by rw [← h46]; exact pa_bd _ _
  have b_v47 : Nb v47 := by rw [← h47]; exact mm_bd _ _
  have b_v52 : Nb v52 := by rw [← h52]; exact pa_bd _ _
  have b_v54 : Nb v54 := by rw [← h54]; exact pa_bd _ _
  have b_v60 : Nb v60 := by rw [← h60]; exact mm_bd _ _
  have b_v65 : Nb v65 := by rw [← h65]; exact mm_bd _ _
  have b_v69 : Nb v69 := by rw [← h69]; exact pa_bd _ _
  have b_v73 : Nb v73 := by rw [← h73]; exact pa_bd _ _
  have b_v78 : Nb v78 := by rw [← h78]; exact mm_bd _ _
  have b_v82 : Nb v82 := by rw [← h82]; exact pa_bd _ _
  have b_v83 : Nb v83 := by rw [← h83]; exact ps_bd _ _
  have b_v89 : Nb v89 := by rw [← h89]; exact mm_bd _ _
  have b_v93 : Nb v93 := by rw [← h93]; exact mm_bd _ _
  have b_v97 : Nb v97 := by rw [← h97]; exact pa_bd _ _
  have b_v101 : Nb v101 := by rw [← h101]; exact pa_bd _ _
  have b_v105 : Nb v105 := by rw [← h105]; exact pa_bd _ _
  have b_v113 : Nb v113 := by rw [← h113]; exact ps_bd _ _
  have b_v114 : Nb v114 := by rw [← h114]; exact mm_bd _ _
  have b_v116 : Nb v116 := by rw [← h116]; exact ps_bd _ _
  have b_v120 : Nb v120 := by rw [← h120]; exact pa_bd _ _
  have C14 : Hid (∀ W, Calls Tryd.prog 70 #[.agg (fL z).toArray] W (Ans (.bool (decide (z = 0))) W)) := fun W => rzeroN b_z W
  have C18 : Hid (∀ W, Calls Tryd.prog 70 #[.agg (fL y).toArray] W (Ans (.bool (decide (y = 0))) W)) := fun W => rzeroN b_y W
  have C35 : Hid (∀ W, Below w.heap.size w W → Calls Tryd.prog 40 #[.pointer (some ⟨gf, 0, none⟩), .agg (fL z).toArray, .agg (fL z).toArray] W (Ans (.agg (fL v35).toArray) W)) := fun W hW => by rw [← h35]; exact rmulN b_z b_z W (hF.at hW)
  have C41 : Hid (∀ W, Below w.heap.size w W → Calls Tryd.prog 41 #[.pointer (some ⟨gf, 0, none⟩), .agg (fL x).toArray, .agg (fL v35).toArray] W (Ans (.agg (fL v41).toArray) W)) := fun W hW => by rw [← h41]; exact rsubN b_x b_v35 W (hF.at hW)
  have C46 : Hid (∀ W, Below w.heap.size w W → Calls Tryd.prog 42 #[.pointer (some ⟨gf, 0, none⟩), .agg (fL x).toArray, .agg (fL v35).toArray] W (Ans (.agg (fL v46).toArray) W)) := fun W hW => by rw [← h46]; exact raddN b_x b_v35 W (hF.at hW)
  have C47 : Hid (∀ W, Below w.heap.size w W → Calls Tryd.prog 40 #[.pointer (some ⟨gf, 0, none⟩), .agg (fL v41).toArray, .agg (fL v46).toArray] W (Ans (.agg (fL v47).toArray) W)) := fun W hW => by rw [← h47]; exact rmulN b_v41 b_v46 W (hF.at hW)
  have C52 : Hid (∀ W, Below w.heap.size w W → Calls Tryd.prog 42 #[.pointer (some ⟨gf, 0, none⟩), .agg (fL v47).toArray, .agg (fL v47).toArray] W (Ans (.agg (fL v52).toArray) W)) := fun W hW => by rw [← h52]; exact raddN b_v47 b_v47 W (hF.at hW)
  have C54 : Hid (∀ W, Below w.heap.size w W → Calls Tryd.prog 42 #[.pointer (some ⟨gf, 0, none⟩), .agg (fL v52).toArray, .agg (fL v47).toArray] W (Ans (.agg (fL v54).toArray) W)) := fun W hW => by rw [← h54]; exact raddN b_v52 b_v47 W (hF.at hW)
  have C60 : Hid (∀ W, Below w.heap.size w W → Calls Tryd.prog 40 #[.pointer (some ⟨gf, 0, none⟩), .agg (fL y).toArray, .agg (fL y).toArray] W (Ans (.agg (fL v60).toArray) W)) := fun W hW => by rw [← h60]; exact rmulN b_y b_y W (hF.at hW)
  have C65 : Hid (∀ W, Below w.heap.size w W → Calls Tryd.prog 40 #[.pointer (some ⟨gf, 0, none⟩), .agg (fL x).toArray, .agg (fL v60).toArray] W (Ans (.agg (fL v65).toArray) W)) := fun W hW => by rw [← h65]; exact rmulN b_x b_v60 W (hF.at hW)
  have C69 : Hid (∀ W, Below w.heap.size w W → Calls Tryd.prog 42 #[.pointer (some ⟨gf, 0, none⟩), .agg (fL v65).toArray, .agg (fL v65).toArray] W (Ans (.agg (fL v69).toArray) W)) := fun W hW => by rw [← h69]; exact raddN b_v65 b_v65 W (hF.at hW)
  have C73 : Hid (∀ W, Below w.heap.size w W → Calls Tryd.prog 42 #[.pointer (some ⟨gf, 0, none⟩), .agg (fL v69).toArray, .agg (fL v69).toArray] W (Ans (.agg (fL v73).toArray) W)) := fun W hW => by rw [← h73]; exact raddN b_v69 b_v69 W (hF.at hW)
  have C78 : Hid (∀ W, Below w.heap.size w W → Calls Tryd.prog 40 #[.pointer (some ⟨gf, 0, none⟩), .agg (fL v54).toArray, .agg (fL v54).toArray] W (Ans (.agg (fL v78).toArray) W)) := fun W hW => by rw [← h78]; exact rmulN b_v54 b_v54 W (hF.at hW)
  have C82 : Hid (∀ W, Below w.heap.size w W → Calls Tryd.prog 42 #[.pointer (some ⟨gf, 0, none⟩), .agg (fL v73).toArray, .agg (fL v73).toArray] W (Ans (.agg (fL v82).toArray) W)) := fun W hW => by rw [← h82]; exact raddN b_v73 b_v73 W (hF.at hW)
  have C83 : Hid (∀ W, Below w.heap.size w W → Calls Tryd.prog 41 #[.pointer (some ⟨gf, 0, none⟩), .agg (fL v78).toArray, .agg (fL v82).toArray] W (Ans (.agg (fL v83).toArray) W)) := fun W hW => by rw [← h83]; exact rsubN b_v78 b_v82 W (hF.at hW)
  have C89 : Hid (∀ W, Below w.heap.size w W → Calls Tryd.prog 40 #[.pointer (some ⟨gf, 0, none⟩), .agg (fL y).toArray, .agg (fL z).toArray] W (Ans (.agg (fL v89).toArray) W)) := fun W hW => by rw [← h89]; exact rmulN b_y b_z W (hF.at hW)
  have C93 : Hid (∀ W, Below w.heap.size w W → Calls Tryd.prog 40 #[.pointer (some ⟨gf, 0, none⟩), .agg (fL v60).toArray, .agg (fL v60).toArray] W (Ans (.agg (fL v93).toArray) W)) := fun W hW => by rw [← h93]; exact rmulN b_v60 b_v60 W (hF.at hW)
  have C97 : Hid (∀ W, Below w.heap.size w W → Calls Tryd.prog 42 #[.pointer (some ⟨gf, 0, none⟩), .agg (fL v93).toArray, .agg (fL v93).toArray] W (Ans (.agg (fL v97).toArray) W)) := fun W hW => by rw [← h97]; exact raddN b_v93 b_v93 W (hF.at hW)
  have C101 : Hid (∀ W, Below w.heap.size w W → Calls Tryd.prog 42 #[.pointer (some ⟨gf, 0, none⟩), .agg (fL v97).toArray, .agg (fL v97).toArray] W (Ans (.agg (fL v101).toArray) W)) := fun W hW => by rw [← h101]; exact raddN b_v97 b_v97 W (hF.at hW)
  have C105 : Hid (∀ W, Below w.heap.size w W → Calls Tryd.prog 42 #[.pointer (some ⟨gf, 0, none⟩), .agg (fL v101).toArray, .agg (fL v101).toArray] W (Ans (.agg (fL v105).toArray) W)) := fun W hW => by rw [← h105]; exact raddN b_v101 b_v101 W (hF.at hW)
  have C113 : Hid (∀ W, Below w.heap.size w W → Calls Tryd.prog 41 #[.pointer (some ⟨gf, 0, none⟩), .agg (fL v73).toArray, .agg (fL v83).toArray] W (Ans (.agg (fL v113).toArray) W)) := fun W hW => by rw [← h113]; exact rsubN b_v73 b_v83 W (hF.at hW)
  have C114 : Hid (∀ W, Below w.heap.size w W → Calls Tryd.prog 40 #[.pointer (some ⟨gf, 0, none⟩), .agg (fL v54).toArray, .agg (fL v113).toArray] W (Ans (.agg (fL v114).toArray) W)) := fun W hW => by rw [← h114]; exact rmulN b_v54 b_v113 W (hF.at hW)
  have C116 : Hid (∀ W, Below w.heap.size w W → Calls Tryd.prog 41 #[.pointer (some ⟨gf, 0, none⟩), .agg (fL v114).toArray, .agg (fL v105).toArray] W (Ans (.agg (fL v116).toArray) W)) := fun W hW => by rw [← h116]; exact rsubN b_v114 b_v105 W (hF.at hW)
  have C120 : Hid (∀ W, Below w.heap.size w W → Calls Tryd.prog 42 #[.pointer (some ⟨gf, 0, none⟩), .agg (fL v89).toArray, .agg (fL v89).toArray] W (Ans (.agg (fL v120).toArray) W)) := fun W hW => by rw [← h120]; exact raddN b_v89 b_v89 W (hF.at hW)
  have hS : Bx w [(w.heap.size, 92, (j3 x y z)), (w.heap.size + 1, 92, z24)] ((w.alloc (.cells (j3 x y z).toArray 92)).alloc (.cells #[.int .u64 0, .int .u64 0, .int .u64 0, .int .u64 0, .int .u64 0, .int .u64 0, .int .u64 0, .int .u64 0, .int .u64 0, .int .u64 0, .int .u64 0, .int .u64 0, .int .u64 0, .int .u64 0, .int .u64 0, .int .u64 0, .int .u64 0, .int .u64 0, .int .u64 0, .int .u64 0, .int .u64 0, .int .u64 0, .int .u64 0, .int .u64 0] 92)) := (((Bx.nil w).newAt 0 (w.heap.size) (by simp) 92 (j3 x y z) _ rfl).newAt 1 (w.heap.size + 1) (by simp) 92 z24 _ rfl)
  have o1 := j3_one x y z
  have HZ : Hid (decide (z = 0) = false) := decide_eq_false hz
  have HY : Hid (decide (y = 0) = false) := decide_eq_false hy
  clear hz hy
  clear hF b_x b_y b_z b_v35 b_v41 b_v46 b_v47 b_v52 b_v54 b_v60 b_v65 b_v69 b_v73 b_v78 b_v82 b_v83 b_v89 b_v93 b_v97 b_v101 b_v105 b_v113 b_v114 b_v116 b_v120 h35 h41 h46 h47 h52 h54 h60 h65 h69 h73 h78 h82 h83 h89 h93 h97 h101 h105 h113 h114 h116 h120
  go_enter Tryd.func49, Tryd.ntmps49
  have hl := (ldj3 (hS.get 0 rfl)).2.2
  go_wp2_with fail
  refine (C14.out _).mono ?_
  rintro e U901 ⟨rfl, LB⟩
  clear o1 hl
  have hS := hS.below LB
  clear LB
  rw [HZ.out]
  have hl := (ldj3 (hS.get 0 rfl)).2.1
  go_wp2_with fail
  refine (C18.out _).mono ?_
  rintro e U902 ⟨rfl, LB⟩
  clear hl
  have hS := hS.below LB
  clear LB
  rw [HY.out]
  have hl2 := (ldj3 (hS.get 0 rfl)).2.2
  have hl4 := (ldj3 (hS.get 0 rfl)).2.2
  go_wp2_with fail
  refine (C35.out _ hS.bl).mono ?_
  rintro e U1 ⟨rfl, LB⟩
  have hS := hS.below LB
  clear LB
  clear hl2
  clear hl4
  have hst := stfn U1 v35
  have hS' : Bx w [(w.heap.size, 92, (j3 x y z)), (U1.heap.size, 80, (fL v35)), (w.heap.size + 1, 92, z24)] (U1.alloc (.cells (fL v35).toArray 80)) := hS.newAt 1 U1.heap.size rfl 80 (fL v35) _ rfl
  clear hS
  have hS := hS'
  clear hS'
  go_upto_region 4 with fail
  generalize U1.alloc (.cells (fL v35).toArray 80) = U2 at hS ⊢
  generalize U1.heap.size = g5 at hS ⊢
  clear hst
  have hS := hS.drew
  refine wp_region_held_drew (S := Bx w [(w.heap.size, 92, (j3 x y z)), (g5, 80, (fL v35))]) (by kernel_rfl) (hS.pre 2) (fun _ => ?_)
  generalize U2.drew = U3 at hS ⊢
  have hP : Bx w [(w.heap.size, 92, (j3 x y z)), (g5, 80, (fL v35))] U3 := hS.pre 2
  refine wpAnyH_take (i := 0) (v := ?_) rfl (by kernel_rfl) (by kernel_rfl) (by kernel_rfl) (fun _ _ _ h => h) (Or.inl ⟨by rfl, ?_⟩) (by assumption) ?_
  rotate_left
  · intro wq hSq
    go_simp
    try with_reducible rfl
  simp only [List.getElem_toArray, List.getElem_cons_zero, Act.put, List.setIfInBounds_toArray, List.set_cons_zero, List.set_cons_succ]
  refine wpAnyH_take (i := 1) (v := ?_) rfl (by kernel_rfl) (by kernel_rfl) (by kernel_rfl) (fun _ _ _ h => h) (Or.inl ⟨by rfl, ?_⟩) (by assumption) ?_
  rotate_left
  · intro wq hSq
    go_simp
    try with_reducible rfl
  simp only [List.getElem_toArray, List.getElem_cons_succ, List.getElem_cons_zero, Act.put, List.setIfInBounds_toArray, List.set_cons_zero, List.set_cons_succ]
  refine wpAnyH_take (i := 2) (v := ?_) rfl (by kernel_rfl) (by kernel_rfl) (by kernel_rfl) (fun _ _ _ h => h) (Or.inl ⟨by rfl, ?_⟩) (by assumption) ?_
  rotate_left
  · intro wq hSq
    go_simp
    try with_reducible rfl
  simp only [List.getElem_toArray, List.getElem_cons_succ, List.getElem_cons_zero, Act.put, List.setIfInBounds_toArray, List.set_cons_zero, List.set_cons_succ]
  refine wpAnyH_take (i := 3) (v := ?_) rfl (by kernel_rfl) (by kernel_rfl) (by kernel_rfl) (fun _ _ _ h => h) (Or.inl ⟨by rfl, ?_⟩) (by assumption) ?_
  rotate_left
  · intro wq hSq
    have hl := (ldj3 (hSq.get 0 rfl)).1
    go_simp
    try with_reducible rfl
  simp only [List.getElem_toArray, List.getElem_cons_succ, List.getElem_cons_zero, Act.put, List.setIfInBounds_toArray, List.set_cons_zero, List.set_cons_succ]
  refine wpAnyH_take (i := 4) (v := ?_) rfl (by kernel_rfl) (by kernel_rfl) (by kernel_rfl) (fun _ _ _ h => h) (Or.inl ⟨by rfl, ?_⟩) (by assumption) ?_
  rotate_left
  · intro wq hSq
    have hl := ldf (hSq.get 1 rfl)
    go_simp
    try with_reducible rfl
  simp only [List.getElem_toArray, List.getElem_cons_succ, List.getElem_cons_zero, Act.put, List.setIfInBounds_toArray, List.set_cons_zero, List.set_cons_succ]
  refine wpAnyH_take (i := 6) (v := ?_) rfl (by kernel_rfl) (by kernel_rfl) (by kernel_rfl) (fun _ _ _ h => h) (Or.inl ⟨by rfl, ?_⟩) (by assumption) ?_
  rotate_left
  · intro wq hSq
    go_simp
    try with_reducible rfl
  simp only [List.getElem_toArray, List.getElem_cons_succ, List.getElem_cons_zero, Act.put, List.setIfInBounds_toArray, List.set_cons_zero, List.set_cons_succ]
  refine wpAnyH_take (i := 7) (v := ?_) rfl (by kernel_rfl) (by kernel_rfl) (by kernel_rfl) (fun _ _ _ h => h) (Or.inl ⟨by rfl, ?_⟩) (by assumption) ?_
  rotate_left
  · intro wq hSq
    go_simp
    try with_reducible rfl
  simp only [List.getElem_toArray, List.getElem_cons_succ, List.getElem_cons_zero, Act.put, List.setIfInBounds_toArray, List.set_cons_zero, List.set_cons_succ]
  refine wpAnyH_take (i := 8) (v := ?_) rfl (by kernel_rfl) (by kernel_rfl) (by kernel_rfl) (fun _ _ _ h => h) (Or.inl ⟨by rfl, ?_⟩) (by assumption) ?_
  rotate_left
  · intro wq hSq
    have hl := (ldj3 (hSq.get 0 rfl)).1
    go_simp
    try with_reducible rfl
  simp only [List.getElem_toArray, List.getElem_cons_succ, List.getElem_cons_zero, Act.put, List.setIfInBounds_toArray, List.set_cons_zero, List.set_cons_succ]
  refine wpAnyH_take (i := 9) (v := ?_) rfl (by kernel_rfl) (by kernel_rfl) (by kernel_rfl) (fun _ _ _ h => h) (Or.inl ⟨by rfl, ?_⟩) (by assumption) ?_
  rotate_left
  · intro wq hSq
    have hl := ldf (hSq.get 1 rfl)
    go_simp
    try with_reducible rfl
  simp only [List.getElem_toArray, List.getElem_cons_succ, List.getElem_cons_zero, Act.put, List.setIfInBounds_toArray, List.set_cons_zero, List.set_cons_succ]
  clear hP
  refine' mk_restN (K := fun W g6 => Bx w [(w.heap.size, 92, (j3 x y z)), (g5, 80, (fL v35)), (g6, 80, zF), (w.heap.size + 1, 92, z24)] W) (fun R3a => ?_) ?_
  rotate_left
  · skip
    refine' mk_restW (K := fun W => Bx w [(w.heap.size, 92, (j3 x y z)), (g5, 80, (fL v35)), (w.heap.size + 1, 92, z24)] W) (fun R3 => ?_) ?_
    rotate_left
    · skip
      refine' mk_restN (K := fun W g6 => Bx w [(w.heap.size, 92, (j3 x y z)), (g5, 80, (fL v35)), (g6, 80, zF), (w.heap.size + 1, 92, z24)] W) (fun R2a => ?_) ?_
      rotate_left
      · skip
        refine' mk_restW (K := fun W => Bx w [(w.heap.size, 92, (j3 x y z)), (g5, 80, (fL v35)), (w.heap.size + 1, 92, z24)] W) (fun R2 => ?_) ?_
        rotate_left
        · skip
          refine' mk_restN (K := fun W g6 => Bx w [(w.heap.size, 92, (j3 x y z)), (g5, 80, (fL v35)), (g6, 80, zF), (w.heap.size + 1, 92, z24)] W) (fun R1a => ?_) ?_
          rotate_left
          · skip
            refine' mk_restW (K := fun W => Bx w [(w.heap.size, 92, (j3 x y z)), (g5, 80, (fL v35)), (w.heap.size + 1, 92, z24)] W) (fun R1 => ?_) ?_
            rotate_left
            · skip
              refine' mk_restN (K := fun W g6 => Bx w [(w.heap.size, 92, (j3 x y z)), (g5, 80, (fL v35)), (g6, 80, zF), (w.heap.size + 1, 92, z24)] W) (fun R0a => ?_) ?_
              rotate_left
              · skip
                refine wpAnyH_ready (rs := [5, 12]) (by kernel_rfl) (by simp) ?_
                refine (AllReadyH.cons rfl (fun Kq hKq => ?_) (AllReadyH.cons rfl (fun Kq hKq => ?_) AllReadyH.nil))
                · go_simp
                  refine (C41.out _ hS.bl).mono ?_
                  rintro e U4 ⟨rfl, LB⟩
                  have hS := hS.below LB
                  clear LB
                  refine hKq.out _ _ (hS.pre 2) (fun _ => ?_)
                  clear hKq Kq
                  exact R1.out U4 hS
                · go_simp
                  have hS' := hS.newAt 2 U3.heap.size rfl 80 zF #[.int .u64 0, .int .u64 0, .int .u64 0, .int .u64 0, .int .u64 0, .int .u64 0, .int .u64 0, .int .u64 0] rfl
                  refine hKq.out _ _ (hS'.pre 2) (fun _ => ?_)
                  clear hKq Kq
                  generalize U3.alloc (.cells #[.int .u64 0, .int .u64 0, .int .u64 0, .int .u64 0, .int .u64 0, .int .u64 0, .int .u64 0, .int .u64 0] 80) = U5 at hS' ⊢
                  generalize U3.heap.size = g6 at hS' ⊢
                  exact R0a.out U5 g6 hS'
              · rintro U6 g6 hS
                refine wpAnyH_ready (rs := [5]) (by kernel_rfl) (by simp) ?_
                refine (AllReadyH.cons rfl (fun Kq hKq => ?_) AllReadyH.nil)
                · go_simp
                  refine (C41.out _ hS.bl).mono ?_
                  rintro e U7 ⟨rfl, LB⟩
                  have hS := hS.below LB
                  clear LB
                  refine hKq.out _ _ (hS.pre 2) (fun _ => ?_)
                  clear hKq Kq
                  exact R1a.out U7 g6 hS
            · rintro U8 hS
              refine wpAnyH_ready (rs := [10, 12]) (by kernel_rfl) (by simp) ?_
              refine (AllReadyH.cons rfl (fun Kq hKq => ?_) (AllReadyH.cons rfl (fun Kq hKq => ?_) AllReadyH.nil))
              · go_simp
                refine (C46.out _ hS.bl).mono ?_
                rintro e U9 ⟨rfl, LB⟩
                have hS := hS.below LB
                clear LB
                refine hKq.out _ _ (hS.pre 2) (fun _ => ?_)
                clear hKq Kq
                exact R2.out U9 hS
              · go_simp
                have hS' := hS.newAt 2 U8.heap.size rfl 80 zF #[.int .u64 0, .int .u64 0, .int .u64 0, .int .u64 0, .int .u64 0, .int .u64 0, .int .u64 0, .int .u64 0] rfl
                refine hKq.out _ _ (hS'.pre 2) (fun _ => ?_)
                clear hKq Kq
                generalize U8.alloc (.cells #[.int .u64 0, .int .u64 0, .int .u64 0, .int .u64 0, .int .u64 0, .int .u64 0, .int .u64 0, .int .u64 0] 80) = U10 at hS' ⊢
                generalize U8.heap.size = g6 at hS' ⊢
                exact R1a.out U10 g6 hS'
          · rintro U11 g6 hS
            refine wpAnyH_ready (rs := [10]) (by kernel_rfl) (by simp) ?_
            refine (AllReadyH.cons rfl (fun Kq hKq => ?_) AllReadyH.nil)
            · go_simp
              refine (C46.out _ hS.bl).mono ?_
              rintro e U12 ⟨rfl, LB⟩
              have hS := hS.below LB
              clear LB
              refine hKq.out _ _ (hS.pre 2) (fun _ => ?_)
              clear hKq Kq
              exact R2a.out U12 g6 hS
        · rintro U13 hS
          refine wpAnyH_ready (rs := [11, 12]) (by kernel_rfl) (by simp) ?_
          refine (AllReadyH.cons rfl (fun Kq hKq => ?_) (AllReadyH.cons rfl (fun Kq hKq => ?_) AllReadyH.nil))
          · go_simp
            refine (C47.out _ hS.bl).mono ?_
            rintro e U14 ⟨rfl, LB⟩
            have hS := hS.below LB
            clear LB
            refine hKq.out _ _ (hS.pre 2) (fun _ => ?_)
            clear hKq Kq
            exact R3.out U14 hS
          · go_simp
            have hS' := hS.newAt 2 U13.heap.size rfl 80 zF #[.int .u64 0, .int .u64 0, .int .u64 0, .int .u64 0, .int .u64 0, .int .u64 0, .int .u64 0, .int .u64 0] rfl
            refine hKq.out _ _ (hS'.pre 2) (fun _ => ?_)
            clear hKq Kq
            generalize U13.alloc (.cells #[.int .u64 0, .int .u64 0, .int .u64 0, .int .u64 0, .int .u64 0, .int .u64 0, .int .u64 0, .int .u64 0] 80) = U15 at hS' ⊢
            generalize U13.heap.size = g6 at hS' ⊢
            exact R2a.out U15 g6 hS'
      · rintro U16 g6 hS
        refine wpAnyH_ready (rs := [11]) (by kernel_rfl) (by simp) ?_
        refine (AllReadyH.cons rfl (fun Kq hKq => ?_) AllReadyH.nil)
        · go_simp
          refine (C47.out _ hS.bl).mono ?_
          rintro e U17 ⟨rfl, LB⟩
          have hS := hS.below LB
          clear LB
          refine hKq.out _ _ (hS.pre 2) (fun _ => ?_)
          clear hKq Kq
          exact R3a.out U17 g6 hS
    · rintro U18 hS
      refine wpAnyH_ready (rs := [12]) (by kernel_rfl) (by simp) ?_
      refine (AllReadyH.cons rfl (fun Kq hKq => ?_) AllReadyH.nil)
      · go_simp
        have hS' := hS.newAt 2 U18.heap.size rfl 80 zF #[.int .u64 0, .int .u64 0, .int .u64 0, .int .u64 0, .int .u64 0, .int .u64 0, .int .u64 0, .int .u64 0] rfl
        refine hKq.out _ _ (hS'.pre 2) (fun _ => ?_)
        clear hKq Kq
        generalize U18.alloc (.cells #[.int .u64 0, .int .u64 0, .int .u64 0, .int .u64 0, .int .u64 0, .int .u64 0, .int .u64 0, .int .u64 0] 80) = U19 at hS' ⊢
        generalize U18.heap.size = g6 at hS' ⊢
        exact R3a.out U19 g6 hS'
  · rintro U20 g6 hS
    have hst := stf (hS.get 2 rfl) rfl v47
    refine wpAnyH_ready (rs := [13]) (by kernel_rfl) (by simp) ?_
    refine AllReadyH.cons rfl (fun Kq hKq => ?_) AllReadyH.nil
    go_simp
    have hS' : Bx w [(w.heap.size, 92, (j3 x y z)), (g5, 80, (fL v35)), (g6, 80, (fL v47)), (w.heap.size + 1, 92, z24)] (U20.setCells g6 0 (fL v47)) := hS.setAt 2 (fL v47) rfl rfl
    refine hKq.out _ _ (hS'.pre 2) (fun _ => ?_)
    clear hKq Kq hst hS
    have hS := hS'
    clear hS'
    generalize U20.setCells g6 0 (fL v47) = U21 at hS ⊢
    refine wpAnyH_done (by kernel_rfl) ?_ _
    go_wp2
    have hS : Bx w [(w.heap.size, 92, (j3 x y z)), (g5, 80, (fL v35)), (w.heap.size + 1, 92, z24), (g6, 80, (fL v47))] U21 := hS.toEnd 2 rfl
    have hS := hS.drew
    refine wp_region_held_drew (S := Bx w [(w.heap.size, 92, (j3 x y z)), (g5, 80, (fL v35))]) (by kernel_rfl) (hS.pre 2) (fun _ => ?_)
    generalize U21.drew = U22 at hS ⊢
    have hP : Bx w [(w.heap.size, 92, (j3 x y z)), (g5, 80, (fL v35))] U22 := hS.pre 2
    refine wpAnyH_take (i := 0) (v := ?_) rfl (by kernel_rfl) (by kernel_rfl) (by kernel_rfl) (fun _ _ _ h => h) (Or.inl ⟨by rfl, ?_⟩) (by assumption) ?_
    rotate_left
    · intro wq hSq
      go_simp
      try with_reducible rfl
    simp only [List.getElem_toArray, List.getElem_cons_zero, Act.put, List.setIfInBounds_toArray, List.set_cons_zero, List.set_cons_succ]
    refine wpAnyH_take (i := 1) (v := ?_) rfl (by kernel_rfl) (by kernel_rfl) (by kernel_rfl) (fun _ _ _ h => h) (Or.inl ⟨by rfl, ?_⟩) (by assumption) ?_
    rotate_left
    · intro wq hSq
      go_simp
      try with_reducible rfl
    simp only [List.getElem_toArray, List.getElem_cons_succ, List.getElem_cons_zero, Act.put, List.setIfInBounds_toArray, List.set_cons_zero, List.set_cons_succ]
    clear hP
    refine' mk_restW (K := fun W => Bx w [(w.heap.size, 92, (j3 x y z)), (g5, 80, (fL v35)), (w.heap.size + 1, 92, z24), (g6, 80, (fL v47))] W) (fun R2_0_1_2 => ?_) ?_
    rotate_left
    · skip
      refine' mk_restW (K := fun W => Bx w [(w.heap.size, 92, (j3 x y z)), (g5, 80, (fL v35)), (w.heap.size + 1, 92, z24), (g6, 80, (fL v47))] W) (fun R1_0_1_2 => ?_) ?_
      rotate_left
      · skip
        refine' mk_restW (K := fun W => Bx w [(w.heap.size, 92, (j3 x y z)), (g5, 80, (fL v35)), (w.heap.size + 1, 92, z24), (g6, 80, (fL v47))] W) (fun R1_0_1 => ?_) ?_
        rotate_left
        · skip
          refine' mk_restW (K := fun W => Bx w [(w.heap.size, 92, (j3 x y z)), (g5, 80, (fL v35)), (w.heap.size + 1, 92, z24), (g6, 80, (fL v47))] W) (fun R0_0_1_2 => ?_) ?_
          rotate_left
          · skip
            refine' mk_restW (K := fun W => Bx w [(w.heap.size, 92, (j3 x y z)), (g5, 80, (fL v35)), (w.heap.size + 1, 92, z24), (g6, 80, (fL v47))] W) (fun R0_1_2 => ?_) ?_
            rotate_left
            · skip
              refine' mk_restW (K := fun W => Bx w [(w.heap.size, 92, (j3 x y z)), (g5, 80, (fL v35)), (w.heap.size + 1, 92, z24), (g6, 80, (fL v47))] W) (fun R0_0_2 => ?_) ?_
              rotate_left
              · skip
                refine' mk_restW (K := fun W => Bx w [(w.heap.size, 92, (j3 x y z)), (g5, 80, (fL v35)), (w.heap.size + 1, 92, z24), (g6, 80, (fL v47))] W) (fun R0_0_1 => ?_) ?_
                rotate_left
                · skip
                  refine' mk_restW (K := fun W => Bx w [(w.heap.size, 92, (j3 x y z)), (g5, 80, (fL v35)), (w.heap.size + 1, 92, z24), (g6, 80, (fL v47))] W) (fun R0_2 => ?_) ?_
                  rotate_left
                  · skip
                    refine' mk_restW (K := fun W => Bx w [(w.heap.size, 92, (j3 x y z)), (g5, 80, (fL v35)), (w.heap.size + 1, 92, z24), (g6, 80, (fL v47))] W) (fun R0_1 => ?_) ?_
                    rotate_left
                    · skip
                      refine' mk_restW (K := fun W => Bx w [(w.heap.size, 92, (j3 x y z)), (g5, 80, (fL v35)), (w.heap.size + 1, 92, z24), (g6, 80, (fL v47))] W) (fun R0_0 => ?_) ?_
                      rotate_left
                      · skip
                        refine wpAnyH_ready (rs := [2, 3, 5]) (by kernel_rfl) (by simp) ?_
                        refine (AllReadyH.cons rfl (fun Kq hKq => ?_) (AllReadyH.cons rfl (fun Kq hKq => ?_) (AllReadyH.cons rfl (fun Kq hKq => ?_) AllReadyH.nil)))
                        · have hl := ldf (hS.get 3 rfl)
                          go_simp
                          clear hl
                          refine hKq.out _ _ (hS.pre 2) (fun _ => ?_)
                          clear hKq Kq
                          exact R0_0.out U22 hS
                        · have hl := ldf (hS.get 3 rfl)
                          go_simp
                          clear hl
                          refine hKq.out _ _ (hS.pre 2) (fun _ => ?_)
                          clear hKq Kq
                          exact R0_1.out U22 hS
                        · have hl := ldf (hS.get 3 rfl)
                          go_simp
                          clear hl
                          refine hKq.out _ _ (hS.pre 2) (fun _ => ?_)
                          clear hKq Kq
                          exact R0_2.out U22 hS
                      · rintro U26 hS
                        refine wpAnyH_ready (rs := [3, 5]) (by kernel_rfl) (by simp) ?_
                        refine (AllReadyH.cons rfl (fun Kq hKq => ?_) (AllReadyH.cons rfl (fun Kq hKq => ?_) AllReadyH.nil))
                        · have hl := ldf (hS.get 3 rfl)
                          go_simp
                          clear hl
                          refine hKq.out _ _ (hS.pre 2) (fun _ => ?_)
                          clear hKq Kq
                          exact R0_0_1.out U26 hS
                        · have hl := ldf (hS.get 3 rfl)
                          go_simp
                          clear hl
                          refine hKq.out _ _ (hS.pre 2) (fun _ => ?_)
                          clear hKq Kq
                          exact R0_0_2.out U26 hS
                    · rintro U29 hS
                      refine wpAnyH_ready (rs := [2, 5]) (by kernel_rfl) (by simp) ?_
                      refine (AllReadyH.cons rfl (fun Kq hKq => ?_) (AllReadyH.cons rfl (fun Kq hKq => ?_) AllReadyH.nil))
                      · have hl := ldf (hS.get 3 rfl)
                        go_simp
                        clear hl
                        refine hKq.out _ _ (hS.pre 2) (fun _ => ?_)
                        clear hKq Kq
                        exact R0_0_1.out U29 hS
                      · have hl := ldf (hS.get 3 rfl)
                        go_simp
                        clear hl
                        refine hKq.out _ _ (hS.pre 2) (fun _ => ?_)
                        clear hKq Kq
                        exact R0_1_2.out U29 hS
                  · rintro U32 hS
                    refine wpAnyH_ready (rs := [2, 3]) (by kernel_rfl) (by simp) ?_
                    refine (AllReadyH.cons rfl (fun Kq hKq => ?_) (AllReadyH.cons rfl (fun Kq hKq => ?_) AllReadyH.nil))
                    · have hl := ldf (hS.get 3 rfl)
                      go_simp
                      clear hl
                      refine hKq.out _ _ (hS.pre 2) (fun _ => ?_)
                      clear hKq Kq
                      exact R0_0_2.out U32 hS
                    · have hl := ldf (hS.get 3 rfl)
                      go_simp
                      clear hl
                      refine hKq.out _ _ (hS.pre 2) (fun _ => ?_)
                      clear hKq Kq
                      exact R0_1_2.out U32 hS
                · rintro U35 hS
                  refine wpAnyH_ready (rs := [4, 5]) (by kernel_rfl) (by simp) ?_
                  refine (AllReadyH.cons rfl (fun Kq hKq => ?_) (AllReadyH.cons rfl (fun Kq hKq => ?_) AllReadyH.nil))
                  · go_simp
                    refine (C52.out _ hS.bl).mono ?_
                    rintro e U36 ⟨rfl, LB⟩
                    have hS := hS.below LB
                    clear LB
                    refine hKq.out _ _ (hS.pre 2) (fun _ => ?_)
                    clear hKq Kq
                    exact R1_0_1.out U36 hS
                  · have hl := ldf (hS.get 3 rfl)
                    go_simp
                    clear hl
                    refine hKq.out _ _ (hS.pre 2) (fun _ => ?_)
                    clear hKq Kq
                    exact R0_0_1_2.out U35 hS
              · rintro U38 hS
                refine wpAnyH_ready (rs := [3]) (by kernel_rfl) (by simp) ?_
                refine (AllReadyH.cons rfl (fun Kq hKq => ?_) AllReadyH.nil)
                · have hl := ldf (hS.get 3 rfl)
                  go_simp
                  clear hl
                  refine hKq.out _ _ (hS.pre 2) (fun _ => ?_)
                  clear hKq Kq
                  exact R0_0_1_2.out U38 hS
            · rintro U40 hS
              refine wpAnyH_ready (rs := [2]) (by kernel_rfl) (by simp) ?_
              refine (AllReadyH.cons rfl (fun Kq hKq => ?_) AllReadyH.nil)
              · have hl := ldf (hS.get 3 rfl)
                go_simp
                clear hl
                refine hKq.out _ _ (hS.pre 2) (fun _ => ?_)
                clear hKq Kq
                exact R0_0_1_2.out U40 hS
          · rintro U42 hS
            refine wpAnyH_ready (rs := [4]) (by kernel_rfl) (by simp) ?_
            refine (AllReadyH.cons rfl (fun Kq hKq => ?_) AllReadyH.nil)
            · go_simp
              refine (C52.out _ hS.bl).mono ?_
              rintro e U43 ⟨rfl, LB⟩
              have hS := hS.below LB
              clear LB
              refine hKq.out _ _ (hS.pre 2) (fun _ => ?_)
              clear hKq Kq
              exact R1_0_1_2.out U43 hS
        · rintro U44 hS
          refine wpAnyH_ready (rs := [5]) (by kernel_rfl) (by simp) ?_
          refine (AllReadyH.cons rfl (fun Kq hKq => ?_) AllReadyH.nil)
          · have hl := ldf (hS.get 3 rfl)
            go_simp
            clear hl
            refine hKq.out _ _ (hS.pre 2) (fun _ => ?_)
            clear hKq Kq
            exact R1_0_1_2.out U44 hS
      · rintro U46 hS
        refine wpAnyH_ready (rs := [6]) (by kernel_rfl) (by simp) ?_
        refine (AllReadyH.cons rfl (fun Kq hKq => ?_) AllReadyH.nil)
        · go_simp
          refine (C54.out _ hS.bl).mono ?_
          rintro e U47 ⟨rfl, LB⟩
          have hS := hS.below LB
          clear LB
          refine hKq.out _ _ (hS.pre 2) (fun _ => ?_)
          clear hKq Kq
          exact R2_0_1_2.out U47 hS
    · rintro U48 hS
      have hst := stf (hS.get 3 rfl) rfl v54
      refine wpAnyH_ready (rs := [7]) (by kernel_rfl) (by simp) ?_
      refine AllReadyH.cons rfl (fun Kq hKq => ?_) AllReadyH.nil
      go_simp
      have hS' : Bx w [(w.heap.size, 92, (j3 x y z)), (g5, 80, (fL v35)), (w.heap.size + 1, 92, z24), (g6, 80, (fL v54))] (U48.setCells g6 0 (fL v54)) := hS.setAt 3 (fL v54) rfl rfl
      refine hKq.out _ _ (hS'.pre 2) (fun _ => ?_)
      clear hKq Kq hst hS
      have hS := hS'
      clear hS'
      generalize U48.setCells g6 0 (fL v54) = U49 at hS ⊢
      refine wpAnyH_done (by kernel_rfl) ?_ _
      have hl2 := (ldj3 (hS.get 0 rfl)).2.1
      have hl4 := (ldj3 (hS.get 0 rfl)).2.1
      go_wp2_with fail
      refine (C60.out _ hS.bl).mono ?_
      rintro e U50 ⟨rfl, LB⟩
      have hS := hS.below LB
      clear LB
      clear hl2
      clear hl4
      have hst := stfn U50 v60
      have hS' : Bx w [(w.heap.size, 92, (j3 x y z)), (g5, 80, (fL v35)), (U50.heap.size, 80, (fL v60)), (w.heap.size + 1, 92, z24), (g6, 80, (fL v54))] (U50.alloc (.cells (fL v60).toArray 80)) := hS.newAt 2 U50.heap.size rfl 80 (fL v60) _ rfl
      clear hS
      have hS := hS'
      clear hS'
      go_upto_region 7 with fail
      generalize U50.alloc (.cells (fL v60).toArray 80) = U51 at hS ⊢
      generalize U50.heap.size = g7 at hS ⊢
      clear hst
      have hl2 := (ldj3 (hS.get 0 rfl)).1
      have hl3 := ldf (hS.get 2 rfl)
      go_wp2_with fail
      refine (C65.out _ hS.bl).mono ?_
      rintro e U52 ⟨rfl, LB⟩
      have hS := hS.below LB
      clear LB
      clear hl2
      clear hl3
      have hst := stfn U52 v65
      have hS' : Bx w [(w.heap.size, 92, (j3 x y z)), (g5, 80, (fL v35)), (g7, 80, (fL v60)), (U52.heap.size, 80, (fL v65)), (w.heap.size + 1, 92, z24), (g6, 80, (fL v54))] (U52.alloc (.cells (fL v65).toArray 80)) := hS.newAt 3 U52.heap.size rfl 80 (fL v65) _ rfl
      clear hS
      have hS := hS'
      clear hS'
      go_upto_region 8 with fail
      generalize U52.alloc (.cells (fL v65).toArray 80) = U53 at hS ⊢
      generalize U52.heap.size = g8 at hS ⊢
      clear hst
      have hl1 := ldf (hS.get 3 rfl)
      have hl2 := ldf (hS.get 3 rfl)
      go_wp2_with fail
      refine (C69.out _ hS.bl).mono ?_
      rintro e U54 ⟨rfl, LB⟩
      have hS := hS.below LB
      clear LB
      clear hl1
      clear hl2
      have hst := stf (hS.get 3 rfl) rfl v69
      have hS' : Bx w [(w.heap.size, 92, (j3 x y z)), (g5, 80, (fL v35)), (g7, 80, (fL v60)), (g8, 80, (fL v69)), (w.heap.size + 1, 92, z24), (g6, 80, (fL v54))] (U54.setCells g8 0 (fL v69)) := hS.setAt 3 (fL v69) rfl rfl
      clear hS
      have hS := hS'
      clear hS'
      go_upto_region 9 with fail
      generalize U54.setCells g8 0 (fL v69) = U55 at hS ⊢
      clear hst
      have hl1 := ldf (hS.get 3 rfl)
      have hl2 := ldf (hS.get 3 rfl)
      go_wp2_with fail
      refine (C73.out _ hS.bl).mono ?_
      rintro e U56 ⟨rfl, LB⟩
      have hS := hS.below LB
      clear LB
      clear hl1
      clear hl2
      have hst := stf (hS.get 3 rfl) rfl v73
      have hS' : Bx w [(w.heap.size, 92, (j3 x y z)), (g5, 80, (fL v35)), (g7, 80, (fL v60)), (g8, 80, (fL v73)), (w.heap.size + 1, 92, z24), (g6, 80, (fL v54))] (U56.setCells g8 0 (fL v73)) := hS.setAt 3 (fL v73) rfl rfl
      clear hS
      have hS := hS'
      clear hS'
      go_upto_region 10 with fail
      generalize U56.setCells g8 0 (fL v73) = U57 at hS ⊢
      clear hst
      have hS := hS.drew
      refine wp_region_held_drew (S := Bx w [(w.heap.size, 92, (j3 x y z)), (g5, 80, (fL v35)), (g7, 80, (fL v60)), (g8, 80, (fL v73))]) (by kernel_rfl) (hS.pre 4) (fun _ => ?_)
      generalize U57.drew = U58 at hS ⊢
      have hP : Bx w [(w.heap.size, 92, (j3 x y z)), (g5, 80, (fL v35)), (g7, 80, (fL v60)), (g8, 80, (fL v73))] U58 := hS.pre 4
      refine wpAnyH_take (i := 0) (v := ?_) rfl (by kernel_rfl) (by kernel_rfl) (by kernel_rfl) (fun _ _ _ h => h) (Or.inl ⟨by rfl, ?_⟩) (by assumption) ?_
      rotate_left
      · intro wq hSq
        go_simp
        try with_reducible rfl
      simp only [List.getElem_toArray, List.getElem_cons_zero, Act.put, List.setIfInBounds_toArray, List.set_cons_zero, List.set_cons_succ]
      refine wpAnyH_take (i := 1) (v := ?_) rfl (by kernel_rfl) (by kernel_rfl) (by kernel_rfl) (fun _ _ _ h => h) (Or.inl ⟨by rfl, ?_⟩) (by assumption) ?_
      rotate_left
      · intro wq hSq
        go_simp
        try with_reducible rfl
      simp only [List.getElem_toArray, List.getElem_cons_succ, List.getElem_cons_zero, Act.put, List.setIfInBounds_toArray, List.set_cons_zero, List.set_cons_succ]
      refine wpAnyH_take (i := 5) (v := ?_) rfl (by kernel_rfl) (by kernel_rfl) (by kernel_rfl) (fun _ _ _ h => h) (Or.inl ⟨by rfl, ?_⟩) (by assumption) ?_
      rotate_left
      · intro wq hSq
        go_simp
        try with_reducible rfl
      simp only [List.getElem_toArray, List.getElem_cons_succ, List.getElem_cons_zero, Act.put, List.setIfInBounds_toArray, List.set_cons_zero, List.set_cons_succ]
      refine wpAnyH_take (i := 6) (v := ?_) rfl (by kernel_rfl) (by kernel_rfl) (by kernel_rfl) (fun _ _ _ h => h) (Or.inl ⟨by rfl, ?_⟩) (by assumption) ?_
      rotate_left
      · intro wq hSq
        have hl := ldf (hSq.get 3 rfl)
        go_simp
        try with_reducible rfl
      simp only [List.getElem_toArray, List.getElem_cons_succ, List.getElem_cons_zero, Act.put, List.setIfInBounds_toArray, List.set_cons_zero, List.set_cons_succ]
      refine wpAnyH_take (i := 7) (v := ?_) rfl (by kernel_rfl) (by kernel_rfl) (by kernel_rfl) (fun _ _ _ h => h) (Or.inl ⟨by rfl, ?_⟩) (by assumption) ?_
      rotate_left
      · intro wq hSq
        have hl := ldf (hSq.get 3 rfl)
        go_simp
        try with_reducible rfl
      simp only [List.getElem_toArray, List.getElem_cons_succ, List.getElem_cons_zero, Act.put, List.setIfInBounds_toArray, List.set_cons_zero, List.set_cons_succ]
      clear hP
      refine' mk_restN (K := fun W g9 => Bx w [(w.heap.size, 92, (j3 x y z)), (g5, 80, (fL v35)), (g7, 80, (fL v60)), (g8, 80, (fL v73)), (g9, 80, zF), (w.heap.size + 1, 92, z24), (g6, 80, (fL v54))] W) (fun R3a_0_1 => ?_) ?_
      rotate_left
      · skip
        refine' mk_restW (K := fun W => Bx w [(w.heap.size, 92, (j3 x y z)), (g5, 80, (fL v35)), (g7, 80, (fL v60)), (g8, 80, (fL v73)), (w.heap.size + 1, 92, z24), (g6, 80, (fL v54))] W) (fun R3_0_1 => ?_) ?_
        rotate_left
        · skip
          refine' mk_restN (K := fun W g9 => Bx w [(w.heap.size, 92, (j3 x y z)), (g5, 80, (fL v35)), (g7, 80, (fL v60)), (g8, 80, (fL v73)), (g9, 80, zF), (w.heap.size + 1, 92, z24), (g6, 80, (fL v54))] W) (fun R2a_0_1 => ?_) ?_
          rotate_left
          · skip
            refine' mk_restW (K := fun W => Bx w [(w.heap.size, 92, (j3 x y z)), (g5, 80, (fL v35)), (g7, 80, (fL v60)), (g8, 80, (fL v73)), (w.heap.size + 1, 92, z24), (g6, 80, (fL v54))] W) (fun R2_0_1 => ?_) ?_
            rotate_left
            · skip
              refine' mk_restN (K := fun W g9 => Bx w [(w.heap.size, 92, (j3 x y z)), (g5, 80, (fL v35)), (g7, 80, (fL v60)), (g8, 80, (fL v73)), (g9, 80, zF), (w.heap.size + 1, 92, z24), (g6, 80, (fL v54))] W) (fun R1a_0_1 => ?_) ?_
              rotate_left
              · skip
                refine' mk_restW (K := fun W => Bx w [(w.heap.size, 92, (j3 x y z)), (g5, 80, (fL v35)), (g7, 80, (fL v60)), (g8, 80, (fL v73)), (w.heap.size + 1, 92, z24), (g6, 80, (fL v54))] W) (fun R1_0_1 => ?_) ?_
                rotate_left
                · skip
                  refine' mk_restN (K := fun W g9 => Bx w [(w.heap.size, 92, (j3 x y z)), (g5, 80, (fL v35)), (g7, 80, (fL v60)), (g8, 80, (fL v73)), (g9, 80, zF), (w.heap.size + 1, 92, z24), (g6, 80, (fL v54))] W) (fun R0a_0_1 => ?_) ?_
                  rotate_left
                  · skip
                    refine' mk_restN (K := fun W g9 => Bx w [(w.heap.size, 92, (j3 x y z)), (g5, 80, (fL v35)), (g7, 80, (fL v60)), (g8, 80, (fL v73)), (g9, 80, zF), (w.heap.size + 1, 92, z24), (g6, 80, (fL v54))] W) (fun R0a_1 => ?_) ?_
                    rotate_left
                    · skip
                      refine' mk_restN (K := fun W g9 => Bx w [(w.heap.size, 92, (j3 x y z)), (g5, 80, (fL v35)), (g7, 80, (fL v60)), (g8, 80, (fL v73)), (g9, 80, zF), (w.heap.size + 1, 92, z24), (g6, 80, (fL v54))] W) (fun R0a_0 => ?_) ?_
                      rotate_left
                      · skip
                        refine' mk_restW (K := fun W => Bx w [(w.heap.size, 92, (j3 x y z)), (g5, 80, (fL v35)), (g7, 80, (fL v60)), (g8, 80, (fL v73)), (w.heap.size + 1, 92, z24), (g6, 80, (fL v54))] W) (fun R0_0_1 => ?_) ?_
                        rotate_left
                        · skip
                          refine' mk_restN (K := fun W g9 => Bx w [(w.heap.size, 92, (j3 x y z)), (g5, 80, (fL v35)), (g7, 80, (fL v60)), (g8, 80, (fL v73)), (g9, 80, zF), (w.heap.size + 1, 92, z24), (g6, 80, (fL v54))] W) (fun R0a => ?_) ?_
                          rotate_left
                          · skip
                            refine' mk_restW (K := fun W => Bx w [(w.heap.size, 92, (j3 x y z)), (g5, 80, (fL v35)), (g7, 80, (fL v60)), (g8, 80, (fL v73)), (w.heap.size + 1, 92, z24), (g6, 80, (fL v54))] W) (fun R0_1 => ?_) ?_
                            rotate_left
                            · skip
                              refine' mk_restW (K := fun W => Bx w [(w.heap.size, 92, (j3 x y z)), (g5, 80, (fL v35)), (g7, 80, (fL v60)), (g8, 80, (fL v73)), (w.heap.size + 1, 92, z24), (g6, 80, (fL v54))] W) (fun R0_0 => ?_) ?_
                              rotate_left
                              · skip
                                refine wpAnyH_ready (rs := [2, 3, 10]) (by kernel_rfl) (by simp) ?_
                                refine (AllReadyH.cons rfl (fun Kq hKq => ?_) (AllReadyH.cons rfl (fun Kq hKq => ?_) (AllReadyH.cons rfl (fun Kq hKq => ?_) AllReadyH.nil)))
                                · have hl := ldf (hS.get 5 rfl)
                                  go_simp
                                  clear hl
                                  refine hKq.out _ _ (hS.pre 4) (fun _ => ?_)
                                  clear hKq Kq
                                  exact R0_0.out U58 hS
                                · have hl := ldf (hS.get 5 rfl)
                                  go_simp
                                  clear hl
                                  refine hKq.out _ _ (hS.pre 4) (fun _ => ?_)
                                  clear hKq Kq
                                  exact R0_1.out U58 hS
                                · go_simp
                                  have hS' := hS.newAt 4 U58.heap.size rfl 80 zF #[.int .u64 0, .int .u64 0, .int .u64 0, .int .u64 0, .int .u64 0, .int .u64 0, .int .u64 0, .int .u64 0] rfl
                                  refine hKq.out _ _ (hS'.pre 4) (fun _ => ?_)
                                  clear hKq Kq
                                  generalize U58.alloc (.cells #[.int .u64 0, .int .u64 0, .int .u64 0, .int .u64 0, .int .u64 0, .int .u64 0, .int .u64 0, .int .u64 0] 80) = U61 at hS' ⊢
                                  generalize U58.heap.size = g9 at hS' ⊢
                                  exact R0a.out U61 g9 hS'
                              · rintro U62 hS
                                refine wpAnyH_ready (rs := [3, 10]) (by kernel_rfl) (by simp) ?_
                                refine (AllReadyH.cons rfl (fun Kq hKq => ?_) (AllReadyH.cons rfl (fun Kq hKq => ?_) AllReadyH.nil))
                                · have hl := ldf (hS.get 5 rfl)
                                  go_simp
                                  clear hl
                                  refine hKq.out _ _ (hS.pre 4) (fun _ => ?_)
                                  clear hKq Kq
                                  exact R0_0_1.out U62 hS
                                · go_simp
                                  have hS' := hS.newAt 4 U62.heap.size rfl 80 zF #[.int .u64 0, .int .u64 0, .int .u64 0, .int .u64 0, .int .u64 0, .int .u64 0, .int .u64 0, .int .u64 0] rfl
                                  refine hKq.out _ _ (hS'.pre 4) (fun _ => ?_)
                                  clear hKq Kq
                                  generalize U62.alloc (.cells #[.int .u64 0, .int .u64 0, .int .u64 0, .int .u64 0, .int .u64 0, .int .u64 0, .int .u64 0, .int .u64 0] 80) = U64 at hS' ⊢
                                  generalize U62.heap.size = g9 at hS' ⊢
                                  exact R0a_0.out U64 g9 hS'
                            · rintro U65 hS
                              refine wpAnyH_ready (rs := [2, 10]) (by kernel_rfl) (by simp) ?_
                              refine (AllReadyH.cons rfl (fun Kq hKq => ?_) (AllReadyH.cons rfl (fun Kq hKq => ?_) AllReadyH.nil))
                              · have hl := ldf (hS.get 5 rfl)
                                go_simp
                                clear hl
                                refine hKq.out _ _ (hS.pre 4) (fun _ => ?_)
                                clear hKq Kq
                                exact R0_0_1.out U65 hS
                              · go_simp
                                have hS' := hS.newAt 4 U65.heap.size rfl 80 zF #[.int .u64 0, .int .u64 0, .int .u64 0, .int .u64 0, .int .u64 0, .int .u64 0, .int .u64 0, .int .u64 0] rfl
                                refine hKq.out _ _ (hS'.pre 4) (fun _ => ?_)
                                clear hKq Kq
                                generalize U65.alloc (.cells #[.int .u64 0, .int .u64 0, .int .u64 0, .int .u64 0, .int .u64 0, .int .u64 0, .int .u64 0, .int .u64 0] 80) = U67 at hS' ⊢
                                generalize U65.heap.size = g9 at hS' ⊢
                                exact R0a_1.out U67 g9 hS'
                          · rintro U68 g9 hS
                            refine wpAnyH_ready (rs := [2, 3]) (by kernel_rfl) (by simp) ?_
                            refine (AllReadyH.cons rfl (fun Kq hKq => ?_) (AllReadyH.cons rfl (fun Kq hKq => ?_) AllReadyH.nil))
                            · have hl := ldf (hS.get 6 rfl)
                              go_simp
                              clear hl
                              refine hKq.out _ _ (hS.pre 4) (fun _ => ?_)
                              clear hKq Kq
                              exact R0a_0.out U68 g9 hS
                            · have hl := ldf (hS.get 6 rfl)
                              go_simp
                              clear hl
                              refine hKq.out _ _ (hS.pre 4) (fun _ => ?_)
                              clear hKq Kq
                              exact R0a_1.out U68 g9 hS
                        · rintro U71 hS
                          refine wpAnyH_ready (rs := [4, 10]) (by kernel_rfl) (by simp) ?_
                          refine (AllReadyH.cons rfl (fun Kq hKq => ?_) (AllReadyH.cons rfl (fun Kq hKq => ?_) AllReadyH.nil))
                          · go_simp
                            refine (C78.out _ hS.bl).mono ?_
                            rintro e U72 ⟨rfl, LB⟩
                            have hS := hS.below LB
                            clear LB
                            refine hKq.out _ _ (hS.pre 4) (fun _ => ?_)
                            clear hKq Kq
                            exact R1_0_1.out U72 hS
                          · go_simp
                            have hS' := hS.newAt 4 U71.heap.size rfl 80 zF #[.int .u64 0, .int .u64 0, .int .u64 0, .int .u64 0, .int .u64 0, .int .u64 0, .int .u64 0, .int .u64 0] rfl
                            refine hKq.out _ _ (hS'.pre 4) (fun _ => ?_)
                            clear hKq Kq
                            generalize U71.alloc (.cells #[.int .u64 0, .int .u64 0, .int .u64 0, .int .u64 0, .int .u64 0, .int .u64 0, .int .u64 0, .int .u64 0] 80) = U73 at hS' ⊢
                            generalize U71.heap.size = g9 at hS' ⊢
                            exact R0a_0_1.out U73 g9 hS'
                      · rintro U74 g9 hS
                        refine wpAnyH_ready (rs := [3]) (by kernel_rfl) (by simp) ?_
                        refine (AllReadyH.cons rfl (fun Kq hKq => ?_) AllReadyH.nil)
                        · have hl := ldf (hS.get 6 rfl)
                          go_simp
                          clear hl
                          refine hKq.out _ _ (hS.pre 4) (fun _ => ?_)
                          clear hKq Kq
                          exact R0a_0_1.out U74 g9 hS
                    · rintro U76 g9 hS
                      refine wpAnyH_ready (rs := [2]) (by kernel_rfl) (by simp) ?_
                      refine (AllReadyH.cons rfl (fun Kq hKq => ?_) AllReadyH.nil)
                      · have hl := ldf (hS.get 6 rfl)
                        go_simp
                        clear hl
                        refine hKq.out _ _ (hS.pre 4) (fun _ => ?_)
                        clear hKq Kq
                        exact R0a_0_1.out U76 g9 hS
                  · rintro U78 g9 hS
                    refine wpAnyH_ready (rs := [4]) (by kernel_rfl) (by simp) ?_
                    refine (AllReadyH.cons rfl (fun Kq hKq => ?_) AllReadyH.nil)
                    · go_simp
                      refine (C78.out _ hS.bl).mono ?_
                      rintro e U79 ⟨rfl, LB⟩
                      have hS := hS.below LB
                      clear LB
                      refine hKq.out _ _ (hS.pre 4) (fun _ => ?_)
                      clear hKq Kq
                      exact R1a_0_1.out U79 g9 hS
                · rintro U80 hS
                  refine wpAnyH_ready (rs := [8, 10]) (by kernel_rfl) (by simp) ?_
                  refine (AllReadyH.cons rfl (fun Kq hKq => ?_) (AllReadyH.cons rfl (fun Kq hKq => ?_) AllReadyH.nil))
                  · go_simp
                    refine (C82.out _ hS.bl).mono ?_
                    rintro e U81 ⟨rfl, LB⟩
                    have hS := hS.below LB
                    clear LB
                    refine hKq.out _ _ (hS.pre 4) (fun _ => ?_)
                    clear hKq Kq
                    exact R2_0_1.out U81 hS
                  · go_simp
                    have hS' := hS.newAt 4 U80.heap.size rfl 80 zF #[.int .u64 0, .int .u64 0, .int .u64 0, .int .u64 0, .int .u64 0, .int .u64 0, .int .u64 0, .int .u64 0] rfl
                    refine hKq.out _ _ (hS'.pre 4) (fun _ => ?_)
                    clear hKq Kq
                    generalize U80.alloc (.cells #[.int .u64 0, .int .u64 0, .int .u64 0, .int .u64 0, .int .u64 0, .int .u64 0, .int .u64 0, .int .u64 0] 80) = U82 at hS' ⊢
                    generalize U80.heap.size = g9 at hS' ⊢
                    exact R1a_0_1.out U82 g9 hS'
              · rintro U83 g9 hS
                refine wpAnyH_ready (rs := [8]) (by kernel_rfl) (by simp) ?_
                refine (AllReadyH.cons rfl (fun Kq hKq => ?_) AllReadyH.nil)
                · go_simp
                  refine (C82.out _ hS.bl).mono ?_
                  rintro e U84 ⟨rfl, LB⟩
                  have hS := hS.below LB
                  clear LB
                  refine hKq.out _ _ (hS.pre 4) (fun _ => ?_)
                  clear hKq Kq
                  exact R2a_0_1.out U84 g9 hS
            · rintro U85 hS
              refine wpAnyH_ready (rs := [9, 10]) (by kernel_rfl) (by simp) ?_
              refine (AllReadyH.cons rfl (fun Kq hKq => ?_) (AllReadyH.cons rfl (fun Kq hKq => ?_) AllReadyH.nil))
              · go_simp
                refine (C83.out _ hS.bl).mono ?_
                rintro e U86 ⟨rfl, LB⟩
                have hS := hS.below LB
                clear LB
                refine hKq.out _ _ (hS.pre 4) (fun _ => ?_)
                clear hKq Kq
                exact R3_0_1.out U86 hS
              · go_simp
                have hS' := hS.newAt 4 U85.heap.size rfl 80 zF #[.int .u64 0, .int .u64 0, .int .u64 0, .int .u64 0, .int .u64 0, .int .u64 0, .int .u64 0, .int .u64 0] rfl
                refine hKq.out _ _ (hS'.pre 4) (fun _ => ?_)
                clear hKq Kq
                generalize U85.alloc (.cells #[.int .u64 0, .int .u64 0, .int .u64 0, .int .u64 0, .int .u64 0, .int .u64 0, .int .u64 0, .int .u64 0] 80) = U87 at hS' ⊢
                generalize U85.heap.size = g9 at hS' ⊢
                exact R2a_0_1.out U87 g9 hS'
          · rintro U88 g9 hS
            refine wpAnyH_ready (rs := [9]) (by kernel_rfl) (by simp) ?_
            refine (AllReadyH.cons rfl (fun Kq hKq => ?_) AllReadyH.nil)
            · go_simp
              refine (C83.out _ hS.bl).mono ?_
              rintro e U89 ⟨rfl, LB⟩
              have hS := hS.below LB
              clear LB
              refine hKq.out _ _ (hS.pre 4) (fun _ => ?_)
              clear hKq Kq
              exact R3a_0_1.out U89 g9 hS
        · rintro U90 hS
          refine wpAnyH_ready (rs := [10]) (by kernel_rfl) (by simp) ?_
          refine (AllReadyH.cons rfl (fun Kq hKq => ?_) AllReadyH.nil)
          · go_simp
            have hS' := hS.newAt 4 U90.heap.size rfl 80 zF #[.int .u64 0, .int .u64 0, .int .u64 0, .int .u64 0, .int .u64 0, .int .u64 0, .int .u64 0, .int .u64 0] rfl
            refine hKq.out _ _ (hS'.pre 4) (fun _ => ?_)
            clear hKq Kq
            generalize U90.alloc (.cells #[.int .u64 0, .int .u64 0, .int .u64 0, .int .u64 0, .int .u64 0, .int .u64 0, .int .u64 0, .int .u64 0] 80) = U91 at hS' ⊢
            generalize U90.heap.size = g9 at hS' ⊢
            exact R3a_0_1.out U91 g9 hS'
      · rintro U92 g9 hS
        have hst := stf (hS.get 4 rfl) rfl v83
        refine wpAnyH_ready (rs := [11]) (by kernel_rfl) (by simp) ?_
        refine AllReadyH.cons rfl (fun Kq hKq => ?_) AllReadyH.nil
        go_simp
        have hS' : Bx w [(w.heap.size, 92, (j3 x y z)), (g5, 80, (fL v35)), (g7, 80, (fL v60)), (g8, 80, (fL v73)), (g9, 80, (fL v83)), (w.heap.size + 1, 92, z24), (g6, 80, (fL v54))] (U92.setCells g9 0 (fL v83)) := hS.setAt 4 (fL v83) rfl rfl
        refine hKq.out _ _ (hS'.pre 4) (fun _ => ?_)
        clear hKq Kq hst hS
        have hS := hS'
        clear hS'
        generalize U92.setCells g9 0 (fL v83) = U93 at hS ⊢
        refine wpAnyH_done (by kernel_rfl) ?_ _
        have hl2 := (ldj3 (hS.get 0 rfl)).2.1
        have hl4 := (ldj3 (hS.get 0 rfl)).2.2
        go_wp2_with fail
        refine (C89.out _ hS.bl).mono ?_
        rintro e U94 ⟨rfl, LB⟩
        have hS := hS.below LB
        clear LB
        clear hl2
        clear hl4
        have hst := stfn U94 v89
        have hS' : Bx w [(w.heap.size, 92, (j3 x y z)), (g5, 80, (fL v35)), (g7, 80, (fL v60)), (g8, 80, (fL v73)), (g9, 80, (fL v83)), (U94.heap.size, 80, (fL v89)), (w.heap.size + 1, 92, z24), (g6, 80, (fL v54))] (U94.alloc (.cells (fL v89).toArray 80)) := hS.newAt 5 U94.heap.size rfl 80 (fL v89) _ rfl
        clear hS
        have hS := hS'
        clear hS'
        go_upto_region 12 with fail
        generalize U94.alloc (.cells (fL v89).toArray 80) = U95 at hS ⊢
        generalize U94.heap.size = g10 at hS ⊢
        clear hst
        have hl1 := ldf (hS.get 2 rfl)
        have hl2 := ldf (hS.get 2 rfl)
        go_wp2_with fail
        refine (C93.out _ hS.bl).mono ?_
        rintro e U96 ⟨rfl, LB⟩
        have hS := hS.below LB
        clear LB
        clear hl1
        clear hl2
        have hst := stfn U96 v93
        have hS' : Bx w [(w.heap.size, 92, (j3 x y z)), (g5, 80, (fL v35)), (g7, 80, (fL v60)), (g8, 80, (fL v73)), (g9, 80, (fL v83)), (g10, 80, (fL v89)), (U96.heap.size, 80, (fL v93)), (w.heap.size + 1, 92, z24), (g6, 80, (fL v54))] (U96.alloc (.cells (fL v93).toArray 80)) := hS.newAt 6 U96.heap.size rfl 80 (fL v93) _ rfl
        clear hS
        have hS := hS'
        clear hS'
        go_upto_region 13 with fail
        generalize U96.alloc (.cells (fL v93).toArray 80) = U97 at hS ⊢
        generalize U96.heap.size = g11 at hS ⊢
        clear hst
        have hl1 := ldf (hS.get 6 rfl)
        have hl2 := ldf (hS.get 6 rfl)
        go_wp2_with fail
        refine (C97.out _ hS.bl).mono ?_
        rintro e U98 ⟨rfl, LB⟩
        have hS := hS.below LB
        clear LB
        clear hl1
        clear hl2
        have hst := stf (hS.get 6 rfl) rfl v97
        have hS' : Bx w [(w.heap.size, 92, (j3 x y z)), (g5, 80, (fL v35)), (g7, 80, (fL v60)), (g8, 80, (fL v73)), (g9, 80, (fL v83)), (g10, 80, (fL v89)), (g11, 80, (fL v97)), (w.heap.size + 1, 92, z24), (g6, 80, (fL v54))] (U98.setCells g11 0 (fL v97)) := hS.setAt 6 (fL v97) rfl rfl
        clear hS
        have hS := hS'
        clear hS'
        go_upto_region 14 with fail
        generalize U98.setCells g11 0 (fL v97) = U99 at hS ⊢
        clear hst
        have hl1 := ldf (hS.get 6 rfl)
        have hl2 := ldf (hS.get 6 rfl)
        go_wp2_with fail
        refine (C101.out _ hS.bl).mono ?_
        rintro e U100 ⟨rfl, LB⟩
        have hS := hS.below LB
        clear LB
        clear hl1
        clear hl2
        have hst := stf (hS.get 6 rfl) rfl v101
        have hS' : Bx w [(w.heap.size, 92, (j3 x y z)), (g5, 80, (fL v35)), (g7, 80, (fL v60)), (g8, 80, (fL v73)), (g9, 80, (fL v83)), (g10, 80, (fL v89)), (g11, 80, (fL v101)), (w.heap.size + 1, 92, z24), (g6, 80, (fL v54))] (U100.setCells g11 0 (fL v101)) := hS.setAt 6 (fL v101) rfl rfl
        clear hS
        have hS := hS'
        clear hS'
        go_upto_region 15 with fail
        generalize U100.setCells g11 0 (fL v101) = U101 at hS ⊢
        clear hst
        have hl1 := ldf (hS.get 6 rfl)
        have hl2 := ldf (hS.get 6 rfl)
        go_wp2_with fail
        refine (C105.out _ hS.bl).mono ?_
        rintro e U102 ⟨rfl, LB⟩
        have hS := hS.below LB
        clear LB
        clear hl1
        clear hl2
        have hst := stf (hS.get 6 rfl) rfl v105
        have hS' : Bx w [(w.heap.size, 92, (j3 x y z)), (g5, 80, (fL v35)), (g7, 80, (fL v60)), (g8, 80, (fL v73)), (g9, 80, (fL v83)), (g10, 80, (fL v89)), (g11, 80, (fL v105)), (w.heap.size + 1, 92, z24), (g6, 80, (fL v54))] (U102.setCells g11 0 (fL v105)) := hS.setAt 6 (fL v105) rfl rfl
        clear hS
        have hS := hS'
        clear hS'
        go_upto_region 16 with fail
        generalize U102.setCells g11 0 (fL v105) = U103 at hS ⊢
        clear hst
        have hS := hS.drew
        refine wp_region_held_drew (S := Bx w [(w.heap.size, 92, (j3 x y z)), (g5, 80, (fL v35)), (g7, 80, (fL v60)), (g8, 80, (fL v73)), (g9, 80, (fL v83)), (g10, 80, (fL v89)), (g11, 80, (fL v105))]) (by kernel_rfl) (hS.pre 7) (fun _ => ?_)
        generalize U103.drew = U104 at hS ⊢
        have hP : Bx w [(w.heap.size, 92, (j3 x y z)), (g5, 80, (fL v35)), (g7, 80, (fL v60)), (g8, 80, (fL v73)), (g9, 80, (fL v83)), (g10, 80, (fL v89)), (g11, 80, (fL v105))] U104 := hS.pre 7
        refine wpAnyH_take (i := 0) (v := ?_) rfl (by kernel_rfl) (by kernel_rfl) (by kernel_rfl) (fun _ _ _ h => h) (Or.inl ⟨by rfl, ?_⟩) (by assumption) ?_
        rotate_left
        · intro wq hSq
          have hl := ldf (hSq.get 4 rfl)
          go_simp
          try with_reducible rfl
        simp only [List.getElem_toArray, List.getElem_cons_zero, Act.put, List.setIfInBounds_toArray, List.set_cons_zero, List.set_cons_succ]
        refine wpAnyH_take (i := 1) (v := ?_) rfl (by kernel_rfl) (by kernel_rfl) (by kernel_rfl) (fun _ _ _ h => h) (Or.inl ⟨by rfl, ?_⟩) (by assumption) ?_
        rotate_left
        · intro wq hSq
          go_simp
          try with_reducible rfl
        simp only [List.getElem_toArray, List.getElem_cons_succ, List.getElem_cons_zero, Act.put, List.setIfInBounds_toArray, List.set_cons_zero, List.set_cons_succ]
        refine wpAnyH_take (i := 2) (v := ?_) rfl (by kernel_rfl) (by kernel_rfl) (by kernel_rfl) (fun _ _ _ h => h) (Or.inl ⟨by rfl, ?_⟩) (by assumption) ?_
        rotate_left
        · intro wq hSq
          go_simp
          try with_reducible rfl
        simp only [List.getElem_toArray, List.getElem_cons_succ, List.getElem_cons_zero, Act.put, List.setIfInBounds_toArray, List.set_cons_zero, List.set_cons_succ]
        refine wpAnyH_take (i := 4) (v := ?_) rfl (by kernel_rfl) (by kernel_rfl) (by kernel_rfl) (fun _ _ _ h => h) (Or.inl ⟨by rfl, ?_⟩) (by assumption) ?_
        rotate_left
        · intro wq hSq
          go_simp
          try with_reducible rfl
        simp only [List.getElem_toArray, List.getElem_cons_succ, List.getElem_cons_zero, Act.put, List.setIfInBounds_toArray, List.set_cons_zero, List.set_cons_succ]
        refine wpAnyH_take (i := 5) (v := ?_) rfl (by kernel_rfl) (by kernel_rfl) (by kernel_rfl) (fun _ _ _ h => h) (Or.inl ⟨by rfl, ?_⟩) (by assumption) ?_
        rotate_left
        · intro wq hSq
          have hl := ldf (hSq.get 3 rfl)
          go_simp
          try with_reducible rfl
        simp only [List.getElem_toArray, List.getElem_cons_succ, List.getElem_cons_zero, Act.put, List.setIfInBounds_toArray, List.set_cons_zero, List.set_cons_succ]
        refine wpAnyH_take (i := 6) (v := ?_) rfl (by kernel_rfl) (by kernel_rfl) (by kernel_rfl) (fun _ _ _ h => h) (Or.inl ⟨by rfl, ?_⟩) (by assumption) ?_
        rotate_left
        · intro wq hSq
          have hl := ldf (hSq.get 4 rfl)
          go_simp
          try with_reducible rfl
        simp only [List.getElem_toArray, List.getElem_cons_succ, List.getElem_cons_zero, Act.put, List.setIfInBounds_toArray, List.set_cons_zero, List.set_cons_succ]
        refine wpAnyH_take (i := 9) (v := ?_) rfl (by kernel_rfl) (by kernel_rfl) (by kernel_rfl) (fun _ _ _ h => h) (Or.inl ⟨by rfl, ?_⟩) (by assumption) ?_
        rotate_left
        · intro wq hSq
          have hl := ldf (hSq.get 6 rfl)
          go_simp
          try with_reducible rfl
        simp only [List.getElem_toArray, List.getElem_cons_succ, List.getElem_cons_zero, Act.put, List.setIfInBounds_toArray, List.set_cons_zero, List.set_cons_succ]
        refine wpAnyH_take (i := 11) (v := ?_) rfl (by kernel_rfl) (by kernel_rfl) (by kernel_rfl) (fun _ _ _ h => h) (Or.inl ⟨by rfl, ?_⟩) (by assumption) ?_
        rotate_left
        · intro wq hSq
          go_simp
          try with_reducible rfl
        simp only [List.getElem_toArray, List.getElem_cons_succ, List.getElem_cons_zero, Act.put, List.setIfInBounds_toArray, List.set_cons_zero, List.set_cons_succ]
        refine wpAnyH_take (i := 12) (v := ?_) rfl (by kernel_rfl) (by kernel_rfl) (by kernel_rfl) (fun _ _ _ h => h) (Or.inl ⟨by rfl, ?_⟩) (by assumption) ?_
        rotate_left
        · intro wq hSq
          have hl := ldf (hSq.get 5 rfl)
          go_simp
          try with_reducible rfl
        simp only [List.getElem_toArray, List.getElem_cons_succ, List.getElem_cons_zero, Act.put, List.setIfInBounds_toArray, List.set_cons_zero, List.set_cons_succ]
        refine wpAnyH_take (i := 13) (v := ?_) rfl (by kernel_rfl) (by kernel_rfl) (by kernel_rfl) (fun _ _ _ h => h) (Or.inl ⟨by rfl, ?_⟩) (by assumption) ?_
        rotate_left
        · intro wq hSq
          have hl := ldf (hSq.get 5 rfl)
          go_simp
          try with_reducible rfl
        simp only [List.getElem_toArray, List.getElem_cons_succ, List.getElem_cons_zero, Act.put, List.setIfInBounds_toArray, List.set_cons_zero, List.set_cons_succ]
        clear hP
        refine' mk_restW (K := fun W => Bx w [(w.heap.size, 92, (j3 x y z)), (g5, 80, (fL v35)), (g7, 80, (fL v60)), (g8, 80, (fL v73)), (g9, 80, (fL v83)), (g10, 80, (fL v89)), (g11, 80, (fL v105)), (w.heap.size + 1, 92, z24), (g6, 80, (fL v54))] W) (fun R4_0 => ?_) ?_
        rotate_left
        · skip
          refine' mk_restW (K := fun W => Bx w [(w.heap.size, 92, (j3 x y z)), (g5, 80, (fL v35)), (g7, 80, (fL v60)), (g8, 80, (fL v73)), (g9, 80, (fL v83)), (g10, 80, (fL v89)), (g11, 80, (fL v105)), (w.heap.size + 1, 92, z24), (g6, 80, (fL v54))] W) (fun R3_0 => ?_) ?_
          rotate_left
          · skip
            refine' mk_restW (K := fun W => Bx w [(w.heap.size, 92, (j3 x y z)), (g5, 80, (fL v35)), (g7, 80, (fL v60)), (g8, 80, (fL v73)), (g9, 80, (fL v83)), (g10, 80, (fL v89)), (g11, 80, (fL v105)), (w.heap.size + 1, 92, z24), (g6, 80, (fL v54))] W) (fun R2_0 => ?_) ?_
            rotate_left
            · skip
              refine' mk_restW (K := fun W => Bx w [(w.heap.size, 92, (j3 x y z)), (g5, 80, (fL v35)), (g7, 80, (fL v60)), (g8, 80, (fL v73)), (g9, 80, (fL v83)), (g10, 80, (fL v89)), (g11, 80, (fL v105)), (w.heap.size + 1, 92, z24), (g6, 80, (fL v54))] W) (fun R1_0 => ?_) ?_
              rotate_left
              · skip
                refine' mk_restW (K := fun W => Bx w [(w.heap.size, 92, (j3 x y z)), (g5, 80, (fL v35)), (g7, 80, (fL v60)), (g8, 80, (fL v73)), (g9, 80, (fL v83)), (g10, 80, (fL v89)), (g11, 80, (fL v105)), (w.heap.size + 1, 92, z24), (g6, 80, (fL v54))] W) (fun R1 => ?_) ?_
                rotate_left
                · skip
                  refine' mk_restW (K := fun W => Bx w [(w.heap.size, 92, (j3 x y z)), (g5, 80, (fL v35)), (g7, 80, (fL v60)), (g8, 80, (fL v73)), (g9, 80, (fL v83)), (g10, 80, (fL v89)), (g11, 80, (fL v105)), (w.heap.size + 1, 92, z24), (g6, 80, (fL v54))] W) (fun R0_0 => ?_) ?_
                  rotate_left
                  · skip
                    refine wpAnyH_ready (rs := [3, 7]) (by kernel_rfl) (by simp) ?_
                    refine (AllReadyH.cons rfl (fun Kq hKq => ?_) (AllReadyH.cons rfl (fun Kq hKq => ?_) AllReadyH.nil))
                    · have hl := ldf (hS.get 8 rfl)
                      go_simp
                      clear hl
                      refine hKq.out _ _ (hS.pre 7) (fun _ => ?_)
                      clear hKq Kq
                      exact R0_0.out U104 hS
                    · go_simp
                      refine (C113.out _ hS.bl).mono ?_
                      rintro e U106 ⟨rfl, LB⟩
                      have hS := hS.below LB
                      clear LB
                      refine hKq.out _ _ (hS.pre 7) (fun _ => ?_)
                      clear hKq Kq
                      exact R1.out U106 hS
                  · rintro U107 hS
                    refine wpAnyH_ready (rs := [7]) (by kernel_rfl) (by simp) ?_
                    refine (AllReadyH.cons rfl (fun Kq hKq => ?_) AllReadyH.nil)
                    · go_simp
                      refine (C113.out _ hS.bl).mono ?_
                      rintro e U108 ⟨rfl, LB⟩
                      have hS := hS.below LB
                      clear LB
                      refine hKq.out _ _ (hS.pre 7) (fun _ => ?_)
                      clear hKq Kq
                      exact R1_0.out U108 hS
                · rintro U109 hS
                  refine wpAnyH_ready (rs := [3]) (by kernel_rfl) (by simp) ?_
                  refine (AllReadyH.cons rfl (fun Kq hKq => ?_) AllReadyH.nil)
                  · have hl := ldf (hS.get 8 rfl)
                    go_simp
                    clear hl
                    refine hKq.out _ _ (hS.pre 7) (fun _ => ?_)
                    clear hKq Kq
                    exact R1_0.out U109 hS
              · rintro U111 hS
                refine wpAnyH_ready (rs := [8]) (by kernel_rfl) (by simp) ?_
                refine (AllReadyH.cons rfl (fun Kq hKq => ?_) AllReadyH.nil)
                · go_simp
                  refine (C114.out _ hS.bl).mono ?_
                  rintro e U112 ⟨rfl, LB⟩
                  have hS := hS.below LB
                  clear LB
                  refine hKq.out _ _ (hS.pre 7) (fun _ => ?_)
                  clear hKq Kq
                  exact R2_0.out U112 hS
            · rintro U113 hS
              refine wpAnyH_ready (rs := [10]) (by kernel_rfl) (by simp) ?_
              refine (AllReadyH.cons rfl (fun Kq hKq => ?_) AllReadyH.nil)
              · go_simp
                refine (C116.out _ hS.bl).mono ?_
                rintro e U114 ⟨rfl, LB⟩
                have hS := hS.below LB
                clear LB
                refine hKq.out _ _ (hS.pre 7) (fun _ => ?_)
                clear hKq Kq
                exact R3_0.out U114 hS
          · rintro U115 hS
            refine wpAnyH_ready (rs := [14]) (by kernel_rfl) (by simp) ?_
            refine (AllReadyH.cons rfl (fun Kq hKq => ?_) AllReadyH.nil)
            · go_simp
              refine (C120.out _ hS.bl).mono ?_
              rintro e U116 ⟨rfl, LB⟩
              have hS := hS.below LB
              clear LB
              refine hKq.out _ _ (hS.pre 7) (fun _ => ?_)
              clear hKq Kq
              exact R4_0.out U116 hS
        · rintro U117 hS
          have hP : Bx w [(w.heap.size, 92, (j3 x y z)), (g5, 80, (fL v35)), (g7, 80, (fL v60)), (g8, 80, (fL v73)), (g9, 80, (fL v83)), (g10, 80, (fL v89)), (g11, 80, (fL v105))] U117 := hS.pre 7
          refine wpAnyH_take (i := 15) (v := ?_) rfl (by kernel_rfl) (by kernel_rfl) (by kernel_rfl) (fun _ _ _ h => h) (Or.inl ⟨by rfl, ?_⟩) (by assumption) ?_
          rotate_left
          · intro wq hSq
            have hl := bdj3 v83 v116 v120 wq
            go_simp
            try with_reducible rfl
          simp only [List.getElem_toArray, List.getElem_cons_succ, List.getElem_cons_zero, Act.put, List.setIfInBounds_toArray, List.set_cons_zero, List.set_cons_succ]
          clear hP
          have hst := stj (hS.get 7 rfl) rfl v83 v116 v120
          refine wpAnyH_ready (rs := [16]) (by kernel_rfl) (by simp) ?_
          refine AllReadyH.cons rfl (fun Kq hKq => ?_) AllReadyH.nil
          go_simp
          have hS' : Bx w [(w.heap.size, 92, (j3 x y z)), (g5, 80, (fL v35)), (g7, 80, (fL v60)), (g8, 80, (fL v73)), (g9, 80, (fL v83)), (g10, 80, (fL v89)), (g11, 80, (fL v105)), (w.heap.size + 1, 92, (j3 v83 v116 v120)), (g6, 80, (fL v54))] (U117.setCells (w.heap.size + 1) 0 (j3 v83 v116 v120)) := hS.setAt 7 (j3 v83 v116 v120) rfl rfl
          refine hKq.out _ _ (hS'.pre 7) (fun _ => ?_)
          clear hKq Kq hst hS
          have hS := hS'
          clear hS'
          generalize U117.setCells (w.heap.size + 1) 0 (j3 v83 v116 v120) = U118 at hS ⊢
          refine wpAnyH_done (by kernel_rfl) ?_ _
          go_wp2
          refine bodyPost_ret (v := .agg (j3 v83 v116 v120).toArray) ?_ rfl ⟨rfl, hS.bl⟩
          exact res_one (T := 92) (p := 4) (ty := 92) (X := j3 v83 v116 v120) (by kernel_rfl) _ _ rfl Tryd.underlying92 rfl (by kernel_rfl) (hS.get 7 rfl)

end Go.Proofs.YtcijjmncilciiaaDoor
