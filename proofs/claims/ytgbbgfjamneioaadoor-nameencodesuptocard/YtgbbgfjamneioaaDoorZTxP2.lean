/-
  Which characters a PrintableString and an IA5String may have; a text all of whose characters may be there.
-/
import Derived.Test.YtgbbgfjamneioaaDoorZTxP1
namespace Go.Proofs.YtgbbgfjamneioaaDoor
open Go.RowKit Go.IntWalk

/-- Is a number one of the marks? -/
def markN (r : Nat) : Bool := [32, 39, 40, 41, 43, 44, 45, 46, 47, 58, 61, 63].contains r
/-- May a PrintableString have a character? -/
def printN (r : Nat) : Bool := decide (65 ≤ r ∧ r ≤ 90) || decide (97 ≤ r ∧ r ≤ 122) || decide (48 ≤ r ∧ r ≤ 57) || markN r

set_option maxRecDepth 100000 in
theorem marks_index : ∀ r : Nat, r < 128 → decide (0 ≤ Lib.indexByte marksB.data.toList ((r : Int).toNat.toUInt8)) = markN r := by decide

theorem markN_high (r : Nat) (h : 128 ≤ r) : markN r = false := by
  unfold markN
  simp only [List.contains_eq_mem, List.mem_cons, List.not_mem_nil, or_false, decide_eq_false_iff_not]
  omega
theorem printN_high (r : Nat) (h : 128 ≤ r) : printN r = false := by
  unfold printN
  rw [markN_high r h, decide_eq_false (by omega), decide_eq_false (by omega), decide_eq_false (by omega)]
  rfl

set_option maxRecDepth 100000 in
set_option maxHeartbeats 1000000 in
theorem isPrintable_any (r : Nat) (hr : r ≤ 2147483647) (w : World) :
    Calls Tryd.prog 83 #[.int .i32 r] w fun e w' => e = .returned (.bool (printN r)) ∧ Below w.heap.size w w' := by
  have hC : Hid (∀ W : World, Calls Tryd.prog 97 #[.string ⟨#[32, 39, 40, 41, 43, 44, 45, 46, 47, 58, 61, 63]⟩, .int .i32 r] W fun e w' => e = .returned (.bool (markN r)) ∧ Below W.heap.size W w') := by
    intro W
    by_cases h : r < 128
    · refine (Tryd.strings_ContainsRune_ascii marksB r W (by omega) (by omega)).mono ?_
      rintro e w' ⟨rfl, rfl⟩
      exact ⟨by rw [marks_index r h], Below.refl _ _⟩
    · rw [markN_high r (by omega)]
      exact containsRune_high r (by omega) hr W
  have hP : Hid (printN r = (decide (65 ≤ r ∧ r ≤ 90) || decide (97 ≤ r ∧ r ≤ 122) || decide (48 ≤ r ∧ r ≤ 57) || markN r)) := rfl
  generalize markN r = M at hC hP
  generalize printN r = R at hP ⊢
  go_enter Tryd.func83, Tryd.ntmps83
  generalize (⟨#[32, 39, 40, 41, 43, 44, 45, 46, 47, 58, 61, 63]⟩ : ByteArray) = m at hC
  go_wp2_with (first | (go_at_call 97; refine (hC.out _).mono ?_; rintro e w' ⟨rfl, hb⟩) | go_in)
  all_goals go_ret
  all_goals refine ⟨?_, by first | exact hb | exact Below.refl _ _⟩
  all_goals rw [hP.out]
  all_goals show Ending.returned (Value.bool _) = Ending.returned (Value.bool _)
  all_goals congr 2
  all_goals rw [Bool.eq_iff_iff]
  all_goals cases M <;> simp <;> omega

theorem isIA5_any (r : Nat) (w : World) :
    Calls Tryd.prog 84 #[.int .i32 r] w fun e w' => e = .returned (.bool (decide (r < 128))) ∧ Below w.heap.size w w' := by
  go_enter Tryd.func84, Tryd.ntmps84
  go_wp2
  go_ret
  refine ⟨?_, Below.refl _ _⟩
  show Ending.returned (Value.bool _) = Ending.returned (Value.bool _)
  congr 2
  rw [Bool.eq_iff_iff]
  simp
  omega

end Go.Proofs.YtgbbgfjamneioaaDoor
