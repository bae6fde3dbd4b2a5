/-
  The law's names.
-/
import Derived.Test.YtejfbamijjddgaaDoorCvBase
namespace Go.Proofs.YtejfbamijjddgaaDoor
open Go.RowKit Go.IntWalk
attribute [local go_sem ↓] ld_num st_num ld_pln st_pln ld_ops st_ops ld_pnt st_pnt ld_dig st_dig ld_tri st_tri eq_num ne_num eq_pnt ne_pnt bd_pnt ld_F st_F eq_F ld_a32 st_a32 ld_rpt st_rpt eq_rpt bd_rpt eq_dgs

theorem eqDg (X Y : List Int) (hX : X.length = 32) (hY : Y.length = 32) (w : World) : (eqA 23 (.agg (bV X).toArray) (.agg (bV Y).toArray)).run Tryd.prog w = .ok (.bool (decide (X = Y))) w := by
  obtain ⟨inf, hinf⟩ := info_u8
  exact eqA_arr Tryd.underlying23 Tryd.underlying5 hinf (by kernel_rfl) X Y hX hY w
theorem eqDs (X : List Int) (hX : X.length = 32) (w : World) : (eqA 23 (.agg (bV X).toArray) (.agg (bV X).toArray)).run Tryd.prog w = .ok (.bool true) w := by
  rw [eqDg X X hX hX w, decide_eq_true rfl]

theorem same_self (X Y : List Int) (f : Bool) (hX : X.length = 32) (hY : Y.length = 32) (w : World) :
    Calls Tryd.prog 16 #[.agg (pL X Y f).toArray, .agg (pL X Y f).toArray] w fun e w' => e = .returned (.bool true) ∧ Below w.heap.size w w' := by
  refine (same_any X Y X Y f f hX hY hX hY w).mono ?_
  rintro e w1 ⟨rfl, LB⟩
  exact ⟨by rw [decide_eq_true ⟨rfl, rfl, rfl⟩], LB⟩

set_option maxRecDepth 100000 in
set_option maxHeartbeats 1000000 in
theorem names_any (w : World) (hC : Cn w) :
    Calls Tryd.prog 15 #[] w fun e w' => e = .returned (.bool true) ∧ Below w.heap.size w w' := by
  have HF : Hid (∀ W, Calls Tryd.prog 42 #[] W fun e w' => e = .returned (.agg (bV (be PP)).toArray) ∧ Below W.heap.size W w') := field_any
  have HO : Hid (∀ W, Cn W → Calls Tryd.prog 26 #[] W fun e w' => e = .returned (.agg (bV (be NN)).toArray) ∧ Below W.heap.size W w') := order_any
  have HP : Hid (∀ W, Calls Tryd.prog 33 #[] W fun e w' => e = .returned (.agg (fV pW).toArray) ∧ Below W.heap.size W w') := rpW_any
  have HN : Hid (∀ W, Calls Tryd.prog 44 #[] W fun e w' => e = .returned (.agg (fV nW).toArray) ∧ Below W.heap.size W w') := rnW_any
  have HTP : Hid (∀ W, Calls Tryd.prog 43 #[.agg (fV pW).toArray] W fun e w' => e = .returned (.agg (bV (be PP)).toArray) ∧ Below W.heap.size W w') := fun W => rto_any pW PP fw_pW W
  have HTN : Hid (∀ W, Calls Tryd.prog 43 #[.agg (fV nW).toArray] W fun e w' => e = .returned (.agg (bV (be NN)).toArray) ∧ Below W.heap.size W w') := fun W => rto_any nW NN fw_nW W
  have HB : Hid (∀ W, Cn W → Calls Tryd.prog 25 #[] W fun e w' => e = .returned (.agg (pL (be GX) (be GY) false).toArray) ∧ Below W.heap.size W w') := base_any
  have HRB : Hid (∀ W, Calls Tryd.prog 45 #[] W fun e w' => e = .returned (.agg (pL (be GX) (be GY) false).toArray) ∧ Below W.heap.size W w') := rbase_any
  have HSM : Hid (∀ W, Calls Tryd.prog 16 #[.agg (pL (be GX) (be GY) false).toArray, .agg (pL (be GX) (be GY) false).toArray] W fun e w' => e = .returned (.bool true) ∧ Below W.heap.size W w') := fun W => same_self _ _ _ (be_len GX) (be_len GY) W
  have e1 := eqDs (be PP) (be_len PP)
  have e2 := eqDs (be NN) (be_len NN)
  generalize bV (be PP) = DP at *
  generalize bV (be NN) = DN at *
  generalize pL (be GX) (be GY) false = LG at *
  generalize fV pW = LP at *
  generalize fV nW = LN at *
  have HC := hide hC
  clear hC
  go_enter Tryd.func15, Tryd.ntmps15
  go_wp2_with (first | (go_at_call 42; refine (HF.out _).mono ?_; rintro e w1 ⟨rfl, LB⟩; have U1 := hide LB; have C1 := hide (HC.out.below LB); clear LB) | (go_at_call 33; refine (HP.out _).mono ?_; rintro e w2 ⟨rfl, LB⟩; have U2 := hide (below_then U1.out LB); have C2 := hide (C1.out.below LB); clear LB) | (go_at_call_of 43 LP; refine (HTP.out _).mono ?_; rintro e w3 ⟨rfl, LB⟩; have U3 := hide (below_then U2.out LB); have C3 := hide (C2.out.below LB); clear LB) | (go_at_call 26; refine (HO.out _ C3.out).mono ?_; rintro e w4 ⟨rfl, LB⟩; have U4 := hide (below_then U3.out LB); have C4 := hide (C3.out.below LB); clear LB) | (go_at_call 44; refine (HN.out _).mono ?_; rintro e w5 ⟨rfl, LB⟩; have U5 := hide (below_then U4.out LB); have C5 := hide (C4.out.below LB); clear LB) | (go_at_call_of 43 LN; refine (HTN.out _).mono ?_; rintro e w6 ⟨rfl, LB⟩; have U6 := hide (below_then U5.out LB); have C6 := hide (C5.out.below LB); clear LB) | (go_at_call 25; refine (HB.out _ C6.out).mono ?_; rintro e w7 ⟨rfl, LB⟩; have U7 := hide (below_then U6.out LB); clear LB) | (go_at_call 45; refine (HRB.out _).mono ?_; rintro e w8 ⟨rfl, LB⟩; have U8 := hide (below_then U7.out LB); clear LB) | (go_at_call 16; refine (HSM.out _).mono ?_; rintro e w9 ⟨rfl, LB⟩; have U9 := hide (below_then U8.out LB); clear LB))
  go_ret
  exact ⟨rfl, U9.out⟩

end Go.Proofs.YtejfbamijjddgaaDoor
