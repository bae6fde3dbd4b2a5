/-
  sign.Public and the document's: a key's point. What the statements of package sign ask besides.
-/
import Derived.Test.YtnabmdpgibnkaaaDoorZSgRMayToCvPr
import Derived.Test.YtnabmdpgibnkaaaDoorZCvMl
import Derived.Test.YtnabmdpgibnkaaaDoorZCrMl
import Derived.Test.YtnabmdpgibnkaaaDoorZCvBase
namespace Go.Proofs.YtnabmdpgibnkaaaDoor
open Go.RowKit Go.IntWalk
attribute [local go_sem ↓] ld_num st_num ld_pln st_pln ld_ops st_ops ld_pnt st_pnt ld_dig st_dig ld_tri st_tri eq_num ne_num eq_pnt ne_pnt bd_pnt ld_F st_F eq_F ld_a32 st_a32 ld_rpt st_rpt eq_rpt bd_rpt ne_dgs bd_dgs

theorem base_on : onP (be GX) (be GY) false = true := by decide +kernel
/-- A key's point. -/
def pubQ (D : List Int) : Option (Int × Int) := pmul (kbit D) (ptOf (be GX) (be GY) false) 256

set_option maxRecDepth 100000 in
set_option maxHeartbeats 1000000 in
theorem point11_any (X Y : List Int) (f : Bool) (hX : X.length = 32) (hY : Y.length = 32) (w : World) :
    Calls Tryd.prog 9 #[.agg (pL X Y f).toArray] w fun e w' => e = .returned (.agg (pL X Y f).toArray) ∧ Below w.heap.size w w' := by
  have K0 := hide ((Blk.new (T := 25) w (pL X Y f) _ _ rfl rfl).alloc (.cells Tryd.zeroCells33 33))
  have Z0 := hide (Blk.new (T := 33) (w.alloc (.cells (pL X Y f).toArray 25)) PZ Tryd.zeroCells33 (w.heap.size + 1) zc_rpt (by simp))
  have U0 := hide (below2 w (.cells (pL X Y f).toArray 25) (.cells Tryd.zeroCells33 33))
  obtain ⟨_, l1, l2, _⟩ := pnt_ld hX hY K0.out
  have c0 : (pL X Y f)[64]? = some (.bool f) := by simp [pL, hX, hY]
  have hbd := bd_the X Y f hX hY
  have hst := stRp (f := f) hX hY Z0.out rfl
  have hlen := pL_len hX hY f
  have HB := hide (blk_all (vs := pL X Y f) Z0.out (by rw [hlen]; rfl))
  have hone := pL_one X Y f
  have HLn := hide hlen
  generalize pL X Y f = L at *
  clear hX hY hlen
  go_enter Tryd.func9, Tryd.ntmps9
  go_wp2
  refine bodyPost_ret (v := .agg L.toArray) ?_ rfl ⟨rfl, below_sets U0.out (by omega) U0.out.size _ _⟩
  exact res_one (T := 33) (p := 2) (ty := 33) (g := w.heap.size + 1) (X := L) (by kernel_rfl) _ _ rfl Tryd.underlying33 rfl (by rw [HLn.out]; exact info_rpt) HB.out


set_option maxRecDepth 100000 in
set_option maxHeartbeats 2000000 in
theorem public_yes (D : List Int) (hD : D.length = 32) (dD : Dg 256 D) (hm : mayS D = true) (w : World) (hC : Cv w) (hN : Cn w) :
    Calls Tryd.prog 5 #[.agg (bV D).toArray] w (Ans (.tuple #[.agg (pL (encX (pubQ D)) (encY (pubQ D)) (encF (pubQ D))).toArray, .int .i64 0]) w) := by
  have HD := hide hD
  have HC := hide hC
  have HN := hide hN
  have o1 : ∀ v ∈ bV D, v.oneCell' = true := ints_one _ _
  have hS : Bx w [(w.heap.size, 23, bV D), (w.heap.size + 1, 25, PZ)] ((w.alloc (.cells (bV D).toArray 23)).alloc (.cells Tryd.zeroCells25 25)) := ((Bx.nil w).newAt 0 (w.heap.size) (by simp) 23 (bV D) _ rfl).newAt 1 (w.heap.size + 1) (by simp) 25 PZ _ zc_pnt
  have HMA : Hid (∀ W, Cn W → Calls Tryd.prog 7 #[.agg (bV D).toArray] W (Ans (.bool true) W)) := fun W hW => by rw [← hm]; exact may_any D hD dD W hW
  have HB : Hid (∀ W, Cn W → Calls Tryd.prog 16 #[] W (Ans (.agg (pL (be GX) (be GY) false).toArray) W)) := fun W hW => base_any W hW
  have HMU : Hid (∀ W, Cv W → Calls Tryd.prog 15 #[.agg (bV D).toArray, .agg (pL (be GX) (be GY) false).toArray] W (Ans (.tuple #[.agg (pL (encX (pubQ D)) (encY (pubQ D)) (encF (pubQ D))).toArray, .int .i64 0]) W)) := fun W hW => mul_yes D (be GX) (be GY) false hD dD (be_len _) (be_len _) (be_dg _) (be_dg _) base_on W hW
  generalize pubQ D = Q at *
  generalize pL (be GX) (be GY) false = LG at *
  have HQX := hide (encX_len Q)
  have HQY := hide (encY_len Q)
  clear hD dD hm hC hN
  go_enter Tryd.func5, Tryd.ntmps5
  have hl := ldDd HD.out (hS.get 0 rfl)
  go_wp2_with fail
  refine (HMA.out _ (HN.out.below hS.bl)).mono ?_
  rintro e U1 ⟨rfl, LB⟩
  have hS := hS.below LB
  clear LB o1 hl
  go_wp2
  have hS := hS.drew
  refine wp_region_held_drew (S := Bx w [(w.heap.size, 23, bV D)]) (by kernel_rfl) (hS.pre 1) (fun _ => ?_)
  generalize U1.drew = U1 at hS ⊢
  have hP : Bx w [(w.heap.size, 23, bV D)] U1 := hS.pre 1
  refine wpAnyH_take (i := 0) (v := ?_) rfl (by kernel_rfl) (by kernel_rfl) (by kernel_rfl) (fun _ _ _ h => h) (Or.inl ⟨by rfl, ?_⟩) (by assumption) ?_
  rotate_left
  · intro wq hSq
    have hl := ldDd HD.out (hSq.get 0 rfl)
    go_simp
    try with_reducible rfl
  simp only [List.getElem_toArray, List.getElem_cons_zero, Act.put, List.setIfInBounds_toArray, List.set_cons_zero, List.set_cons_succ]
  clear hP
  refine wpAnyH_ready (rs := [1]) (by kernel_rfl) (by simp) ?_
  refine AllReadyH.cons rfl (fun Kq hKq => ?_) AllReadyH.nil
  go_simp
  refine (HB.out _ (HN.out.below hS.bl)).mono ?_
  rintro e U2 ⟨rfl, LB⟩
  have hS := hS.below LB
  clear LB
  refine hKq.out _ _ (hS.pre 1) (fun _ => ?_)
  clear hKq Kq
  have hP : Bx w [(w.heap.size, 23, bV D)] U2 := hS.pre 1
  clear hP
  refine wpAnyH_ready (rs := [2]) (by kernel_rfl) (by simp) ?_
  refine AllReadyH.cons rfl (fun Kq hKq => ?_) AllReadyH.nil
  go_simp
  refine (HMU.out _ (HC.out.below hS.bl)).mono ?_
  rintro e U3 ⟨rfl, LB⟩
  have hS := hS.below LB
  clear LB
  refine hKq.out _ _ (hS.pre 1) (fun _ => ?_)
  clear hKq Kq
  have hP : Bx w [(w.heap.size, 23, bV D)] U3 := hS.pre 1
  refine wpAnyH_take (i := 3) (v := ?_) rfl (by kernel_rfl) (by kernel_rfl) (by kernel_rfl) (fun _ _ _ h => h) (Or.inl ⟨by rfl, ?_⟩) (by assumption) ?_
  rotate_left
  · intro wq hSq
    go_simp
    try with_reducible rfl
  simp only [List.getElem_toArray, List.getElem_cons_succ, List.getElem_cons_zero, Act.put, List.setIfInBounds_toArray, List.set_cons_zero, List.set_cons_succ]
  refine wpAnyH_take (i := 4) (v := ?_) rfl (by kernel_rfl) (by kernel_rfl) (by kernel_rfl) (fun _ _ _ h => h) (Or.inl ⟨by rfl, ?_⟩) (by assumption) ?_
  rotate_left
  · intro wq hSq
    go_simp
    try with_reducible rfl
  simp only [List.getElem_toArray, List.getElem_cons_succ, List.getElem_cons_zero, Act.put, List.setIfInBounds_toArray, List.set_cons_zero, List.set_cons_succ]
  clear hP
  have hst := stPt (X := encX Q) (Y := encY Q) (f := encF Q) HQX.out HQY.out (hS.get 1 rfl) rfl
  refine wpAnyH_ready (rs := [5]) (by kernel_rfl) (by simp) ?_
  refine AllReadyH.cons rfl (fun Kq hKq => ?_) AllReadyH.nil
  go_simp
  have hS' : Bx w [(w.heap.size, 23, bV D), (w.heap.size + 1, 25, (pL (encX Q) (encY Q) (encF Q)))] (U3.setCells (w.heap.size + 1) 0 (pL (encX Q) (encY Q) (encF Q))) := hS.setAt 1 (pL (encX Q) (encY Q) (encF Q)) rfl (by rw [pL_len HQX.out HQY.out]; rfl)
  refine hKq.out _ _ (hS'.pre 1) (fun _ => ?_)
  clear hKq Kq hst hS
  have hS := hS'
  clear hS'
  generalize U3.setCells (w.heap.size + 1) 0 (pL (encX Q) (encY Q) (encF Q)) = U4 at hS ⊢
  have hP : Bx w [(w.heap.size, 23, bV D)] U4 := hS.pre 1
  refine wpAnyH_ready (rs := [6]) (by kernel_rfl) (by simp) ?_
  refine AllReadyH.cons rfl (fun Kq hKq => ?_) AllReadyH.nil
  go_simp
  refine hKq.out _ _ (hS.pre 1) (fun _ => ?_)
  clear hKq Kq
  clear hP
  refine wpAnyH_done (by kernel_rfl) ?_ _
  go_wp2
  refine bodyPost_ret (v := .tuple #[.agg (pL (encX Q) (encY Q) (encF Q)).toArray, .int .i64 0]) ?_ rfl ⟨rfl, hS.bl⟩
  exact res_two (T := 25) (p := 2) (q := 3) (ty := 25) (X := pL (encX Q) (encY Q) (encF Q)) (by kernel_rfl) _ _ rfl Tryd.underlying25 rfl (by rw [pL_len HQX.out HQY.out]; exact info_pnt) (hS.get 1 rfl)

set_option maxRecDepth 100000 in
set_option maxHeartbeats 2000000 in
theorem public_no (D : List Int) (hD : D.length = 32) (dD : Dg 256 D) (hm : mayS D = false) (w : World) (hN : Cn w) :
    Calls Tryd.prog 5 #[.agg (bV D).toArray] w (Ans (.tuple #[.agg PZ.toArray, .int .i64 110]) w) := by
  have HD := hide hD
  have HN := hide hN
  have o1 : ∀ v ∈ bV D, v.oneCell' = true := ints_one _ _
  have hS : Bx w [(w.heap.size, 23, bV D), (w.heap.size + 1, 25, PZ)] ((w.alloc (.cells (bV D).toArray 23)).alloc (.cells Tryd.zeroCells25 25)) := ((Bx.nil w).newAt 0 (w.heap.size) (by simp) 23 (bV D) _ rfl).newAt 1 (w.heap.size + 1) (by simp) 25 PZ _ zc_pnt
  have HMA : Hid (∀ W, Cn W → Calls Tryd.prog 7 #[.agg (bV D).toArray] W (Ans (.bool false) W)) := fun W hW => by rw [← hm]; exact may_any D hD dD W hW
  clear hD dD hm hN
  go_enter Tryd.func5, Tryd.ntmps5
  have hl := ldDd HD.out (hS.get 0 rfl)
  go_wp2_with fail
  refine (HMA.out _ (HN.out.below hS.bl)).mono ?_
  rintro e U1 ⟨rfl, LB⟩
  have hS := hS.below LB
  clear LB o1 hl
  have hbz : ∀ W : World, (bdA 25 #[]).run Tryd.prog W = .ok (.agg PZ.toArray) W := fun W => by kernel_rfl
  have hsz : (stA 25 (.pointer (some ⟨w.heap.size + 1, 0, none⟩)) (.agg PZ.toArray)).run Tryd.prog U1 = .ok () (U1.setCells (w.heap.size + 1) 0 PZ) := stPt (f := false) (X := z32) (Y := z32) rfl rfl (hS.get 1 rfl) rfl
  have hS' : Bx w [(w.heap.size, 23, bV D), (w.heap.size + 1, 25, PZ)] (U1.setCells (w.heap.size + 1) 0 PZ) := hS.setAt 1 PZ rfl rfl
  have HPI : Hid ((Tryd.prog.info? 25).map (·.size) = some PZ.length) := info_pnt
  clear hS
  generalize PZ = LZ at *
  go_wp2
  generalize U1.setCells (w.heap.size + 1) 0 LZ = U5 at hS' ⊢
  refine bodyPost_ret (v := .tuple #[.agg LZ.toArray, .int .i64 110]) ?_ rfl ⟨rfl, hS'.bl⟩
  exact res_two (T := 25) (p := 2) (q := 3) (ty := 25) (X := LZ) (by kernel_rfl) _ _ rfl Tryd.underlying25 rfl HPI.out (hS'.get 1 rfl)

set_option maxRecDepth 100000 in
set_option maxHeartbeats 2000000 in
theorem rpublic_any (D : List Int) (hD : D.length = 32) (dD : Dg 256 D) (w : World) :
    Calls Tryd.prog 10 #[.agg (bV D).toArray] w (Ans (.agg (pL (encX (pubQ D)) (encY (pubQ D)) (encF (pubQ D))).toArray) w) := by
  have HD := hide hD
  have o1 : ∀ v ∈ bV D, v.oneCell' = true := ints_one _ _
  have hS : Bx w [(w.heap.size, 22, bV D), (w.heap.size + 1, 33, PZ)] ((w.alloc (.cells (bV D).toArray 22)).alloc (.cells Tryd.zeroCells33 33)) := ((Bx.nil w).newAt 0 (w.heap.size) (by simp) 22 (bV D) _ rfl).newAt 1 (w.heap.size + 1) (by simp) 33 PZ _ zc_rpt
  have HMU : Hid (∀ W, Calls Tryd.prog 24 #[.agg (bV D).toArray, .agg (pL (be GX) (be GY) false).toArray] W (Ans (.agg (pL (encX (pubQ D)) (encY (pubQ D)) (encF (pubQ D))).toArray) W)) := fun W => rmul_rep D (be GX) (be GY) false hD dD (be_len _) (be_len _) (be_dg _) (be_dg _) base_on W
  generalize pubQ D = Q at *
  have HQX := hide (encX_len Q)
  have HQY := hide (encY_len Q)
  clear hD dD
  go_enter Tryd.func10, Tryd.ntmps10
  go_wp2
  clear o1
  generalize ((w.alloc (.cells (bV D).toArray 22)).alloc (.cells Tryd.zeroCells33 33)) = U0 at hS ⊢
  have hS := hS.drew
  refine wp_region_held_drew (S := Bx w [(w.heap.size, 22, bV D)]) (by kernel_rfl) (hS.pre 1) (fun _ => ?_)
  generalize U0.drew = U1 at hS ⊢
  have hP : Bx w [(w.heap.size, 22, bV D)] U1 := hS.pre 1
  refine wpAnyH_take (i := 0) (v := ?_) rfl (by kernel_rfl) (by kernel_rfl) (by kernel_rfl) (fun _ _ _ h => h) (Or.inl ⟨by rfl, ?_⟩) (by assumption) ?_
  rotate_left
  · intro wq hSq
    have hl := ldA32 HD.out (hSq.get 0 rfl)
    go_simp
    try with_reducible rfl
  simp only [List.getElem_toArray, List.getElem_cons_zero, Act.put, List.setIfInBounds_toArray, List.set_cons_zero, List.set_cons_succ]
  clear hP
  refine wpAnyH_ready (rs := [1]) (by kernel_rfl) (by simp) ?_
  refine AllReadyH.cons rfl (fun Kq hKq => ?_) AllReadyH.nil
  go_simp
  refine (rbase_any _).mono ?_
  rintro e U2 ⟨rfl, LB⟩
  have hS := hS.below LB
  clear LB
  refine hKq.out _ _ (hS.pre 1) (fun _ => ?_)
  clear hKq Kq
  have hP : Bx w [(w.heap.size, 22, bV D)] U2 := hS.pre 1
  clear hP
  refine wpAnyH_ready (rs := [2]) (by kernel_rfl) (by simp) ?_
  refine AllReadyH.cons rfl (fun Kq hKq => ?_) AllReadyH.nil
  go_simp
  refine (HMU.out _).mono ?_
  rintro e U3 ⟨rfl, LB⟩
  have hS := hS.below LB
  clear LB
  refine hKq.out _ _ (hS.pre 1) (fun _ => ?_)
  clear hKq Kq
  have hP : Bx w [(w.heap.size, 22, bV D)] U3 := hS.pre 1
  clear hP
  have hst := stR (X := encX Q) (Y := encY Q) (f := encF Q) (hS.get 1 rfl) rfl HQX.out HQY.out
  refine wpAnyH_ready (rs := [3]) (by kernel_rfl) (by simp) ?_
  refine AllReadyH.cons rfl (fun Kq hKq => ?_) AllReadyH.nil
  go_simp
  have hS' : Bx w [(w.heap.size, 22, bV D), (w.heap.size + 1, 33, (pL (encX Q) (encY Q) (encF Q)))] (U3.setCells (w.heap.size + 1) 0 (pL (encX Q) (encY Q) (encF Q))) := hS.setAt 1 (pL (encX Q) (encY Q) (encF Q)) rfl (by rw [pL_len HQX.out HQY.out]; rfl)
  refine hKq.out _ _ (hS'.pre 1) (fun _ => ?_)
  clear hKq Kq hst hS
  have hS := hS'
  clear hS'
  generalize U3.setCells (w.heap.size + 1) 0 (pL (encX Q) (encY Q) (encF Q)) = U4 at hS ⊢
  have hP : Bx w [(w.heap.size, 22, bV D)] U4 := hS.pre 1
  clear hP
  refine wpAnyH_done (by kernel_rfl) ?_ _
  go_wp2
  refine bodyPost_ret (v := .agg (pL (encX Q) (encY Q) (encF Q)).toArray) ?_ rfl ⟨rfl, hS.bl⟩
  exact res_one (T := 33) (p := 2) (ty := 33) (X := pL (encX Q) (encY Q) (encF Q)) (by kernel_rfl) _ _ rfl Tryd.underlying33 rfl (by rw [pL_len HQX.out HQY.out]; exact info_rpt) (hS.get 1 rfl)

theorem may_one : mayS one32 = true := by decide +kernel
theorem may_zero : mayS z32 = false := by decide +kernel
theorem dg_one : Dg 256 one32 := by intro x hx; simp [one32] at hx; omega
theorem dg_zero : Dg 256 z32 := by intro x hx; simp [z32] at hx; omega
theorem names11_any (w : World) : Calls Tryd.prog 23 #[] w (Ans (.bool true) w) := by
  go_enter Tryd.func23, Tryd.ntmps23
  go_wp2
  go_ret
  exact ⟨rfl, Below.refl _ _⟩

set_option maxRecDepth 100000 in
theorem works11_any (w : World) (hN : Cn w) : Calls Tryd.prog 8 #[] w (Ans (.bool true) w) := by
  have HN := hide hN
  have H1 : Hid (∀ W, Cn W → Calls Tryd.prog 7 #[.agg (bV one32).toArray] W (Ans (.bool true) W)) := fun W hW => by rw [← may_one]; exact may_any one32 rfl dg_one W hW
  have H0 : Hid (∀ W, Cn W → Calls Tryd.prog 7 #[.agg (bV z32).toArray] W (Ans (.bool false) W)) := fun W hW => by rw [← may_zero]; exact may_any z32 rfl dg_zero W hW
  have hb1 := bdd1
  have hb0 := bdd0
  generalize bV one32 = L1 at *
  generalize bV z32 = L0 at *
  clear hN
  go_enter Tryd.func8, Tryd.ntmps8
  go_wp2_with fail
  refine (H1.out _ HN.out).mono ?_
  rintro e U1 ⟨rfl, LB⟩
  have U1b := hide LB
  clear LB
  go_wp2_with fail
  refine (H0.out _ (HN.out.below U1b.out)).mono ?_
  rintro e U2 ⟨rfl, LB⟩
  have U2b := hide (below_then U1b.out LB)
  clear LB
  go_wp2_with fail
  refine (names11_any _).mono ?_
  rintro e U3 ⟨rfl, LB⟩
  have U3b := hide (below_then U2b.out LB)
  clear LB
  go_wp2
  go_ret
  exact ⟨rfl, U3b.out⟩

end Go.Proofs.YtnabmdpgibnkaaaDoor
