/-
  What a time's content is read as: the time. Plain.
-/
import Derived.Test.YtnpimjfdidbdfabDoorCTake
import Derived.Test.YtnpimjfdidbdfabDoorCivN
namespace Go.Proofs.YtnpimjfdidbdfabDoor
open Go.RowKit

theorem CivN.ok {t : Int} {y m q h i s : Nat} (c : CivN t y m q h i s) : Okc y m q h i s := by
  have b := c.bd
  have a := c.at_
  exact ⟨a.y1, a.y2, a.m1, a.m2, a.q1, a.q2, by omega, by omega, by omega, by omega, by omega, by omega⟩

theorem CivN.sec {t : Int} {y m q h i s : Nat} (c : CivN t y m q h i s) : secV y m q h i s = t := by
  have e := c.at_.eq
  have h1 := c.h_
  have h2 := c.i_
  have h3 := c.s_
  unfold secV
  unfold dayOf at e
  unfold secOf at h1 h2 h3
  omega

theorem num_dg2 (n : Nat) (h : n < 100) : numB (dg 2 n) = n := by
  simp only [dg, numB, List.foldl_cons, List.foldl_nil, Nat.reducePow]
  omega

theorem num_dg2' (n : Nat) : numB (dg 2 n) = ((n % 100 : Nat) : Int) := by
  simp only [dg, numB, List.foldl_cons, List.foldl_nil, Nat.reducePow]
  omega

theorem num_dg4 (n : Nat) (h : n < 10000) : numB (dg 4 n) = n := by
  simp only [dg, numB, List.foldl_cons, List.foldl_nil, Nat.reducePow]
  omega

theorem conV_form (k y m q h i s : Nat) : formB k (conV k y m q h i s) = true := by
  have hd : ∀ x ∈ (conV k y m q h i s).take (k + 10), 48 ≤ x ∧ x ≤ 57 := by
    intro x hx
    have e : (conV k y m q h i s).take (k + 10) = dg k y ++ (dg 2 m ++ (dg 2 q ++ (dg 2 h ++ (dg 2 i ++ dg 2 s)))) := by
      unfold conV
      rw [List.take_append_of_le_length (by simp [dg_len]), List.take_of_length_le (by simp [dg_len])]
    rw [e] at hx
    simp only [List.mem_append] at hx
    rcases hx with hx | hx | hx | hx | hx | hx
    all_goals exact dg_byte _ _ _ hx
  unfold formB
  simp only [Bool.and_eq_true, decide_eq_true_eq, List.all_eq_true]
  refine ⟨⟨conV_len .., ?_⟩, hd⟩
  unfold conV
  rw [List.getD, List.getElem?_append_right (by simp [dg_len])]
  simp [dg_len]

theorem seg_conV2 (y m q h i s : Nat) : seg (conV 2 y m q h i s) 0 2 = dg 2 y ∧ seg (conV 2 y m q h i s) 2 4 = dg 2 m ∧ seg (conV 2 y m q h i s) 4 6 = dg 2 q ∧ seg (conV 2 y m q h i s) 6 8 = dg 2 h ∧ seg (conV 2 y m q h i s) 8 10 = dg 2 i ∧ seg (conV 2 y m q h i s) 10 12 = dg 2 s := by
  refine ⟨?_, ?_, ?_, ?_, ?_, ?_⟩ <;> simp [seg, conV, dg]

theorem seg_conV4 (y m q h i s : Nat) : seg (conV 4 y m q h i s) 0 4 = dg 4 y ∧ seg (conV 4 y m q h i s) 4 6 = dg 2 m ∧ seg (conV 4 y m q h i s) 6 8 = dg 2 q ∧ seg (conV 4 y m q h i s) 8 10 = dg 2 h ∧ seg (conV 4 y m q h i s) 10 12 = dg 2 i ∧ seg (conV 4 y m q h i s) 12 14 = dg 2 s := by
  refine ⟨?_, ?_, ?_, ?_, ?_, ?_⟩ <;> simp [seg, conV, dg]

theorem tak_conV2 {t : Int} {y m q h i s : Nat} (c : CivN t y m q h i s) (hy : (y : Int) ≤ 2049) : takS 23 (conV 2 y m q h i s) = (t, 0) := by
  have b := c.bd
  obtain ⟨e0, e1, e2, e3, e4, e5⟩ := seg_conV2 y m q h i s
  have hfl : full (((y % 100 : Nat) : Int)) = y := by unfold full; split <;> omega
  unfold takS
  rw [if_pos rfl, if_pos (conV_form 2 y m q h i s), e0, e1, e2, e3, e4, e5, num_dg2', num_dg2 m (by omega), num_dg2 q (by omega), num_dg2 h (by omega), num_dg2 i (by omega), num_dg2 s (by omega)]
  rw [tkV_ok (by rw [tkY_23, hfl]; exact c.ok) (by omega), tkY_23, hfl, c.sec]

theorem tak_conV4 {t : Int} {y m q h i s : Nat} (c : CivN t y m q h i s) (hy : 2049 < (y : Int)) : takS 24 (conV 4 y m q h i s) = (t, 0) := by
  have b := c.bd
  obtain ⟨e0, e1, e2, e3, e4, e5⟩ := seg_conV4 y m q h i s
  unfold takS
  rw [if_neg (by omega), if_pos rfl, if_pos (conV_form 4 y m q h i s), e0, e1, e2, e3, e4, e5, num_dg4 y (by omega), num_dg2 m (by omega), num_dg2 q (by omega), num_dg2 h (by omega), num_dg2 i (by omega), num_dg2 s (by omega)]
  rw [tkV_ok (by rw [tkY_24]; exact c.ok) (by rw [tkY_24]; omega), tkY_24, c.sec]

end Go.Proofs.YtnpimjfdidbdfabDoor
