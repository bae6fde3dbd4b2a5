/-
  clock.number: digits, read; clock.isForm: is a content digits and a Z?
-/
import Derived.Test.YtnpimjfdidbdfabDoorBts
import Derived.Test.YtnpimjfdidbdfabDoorCYear
namespace Go.Proofs.YtnpimjfdidbdfabDoor
open Go.RowKit

/-- The number that digits are. -/
def numB (l : List Int) : Int := l.foldl (fun n c => 10 * n + (c - 48)) 0

theorem numB_snoc (l : List Int) (c : Int) : numB (l ++ [c]) = 10 * numB l + (c - 48) := by simp [numB]

theorem numB_bd : ∀ (k : Nat) (l : List Int), l.length = k → k ≤ 4 → (∀ x ∈ l, 48 ≤ x ∧ x ≤ 57) → 0 ≤ numB l ∧ numB l < 10 ^ k
  | 0, l, hl, _, _ => by obtain rfl := List.eq_nil_of_length_eq_zero hl; simp [numB]
  | k + 1, l, hl, hk, hd => by
    have hne : l ≠ [] := by intro e; rw [e] at hl; simp at hl
    have e := List.dropLast_concat_getLast hne
    have ih := numB_bd k l.dropLast (by rw [List.length_dropLast, hl]; rfl) (by omega) (fun x hx => hd x (List.dropLast_subset l hx))
    have hx := hd _ (List.getLast_mem hne)
    rw [← e, numB_snoc]
    have hp : k = 0 ∨ k = 1 ∨ k = 2 ∨ k = 3 := by omega
    rcases hp with rfl | rfl | rfl | rfl <;> simp at ih ⊢ <;> omega

theorem numB_4 (l : List Int) (hl : l.length ≤ 4) (hd : ∀ x ∈ l, 48 ≤ x ∧ x ≤ 57) : 0 ≤ numB l ∧ numB l ≤ 9999 := by
  have h := numB_bd l.length l rfl hl hd
  have hp : l.length = 0 ∨ l.length = 1 ∨ l.length = 2 ∨ l.length = 3 ∨ l.length = 4 := by omega
  rcases hp with e | e | e | e | e <;> rw [e] at h <;> simp at h <;> omega

theorem Src.at {w : World} {ao : Option Addr} {n cap : Nat} {xs : List Int} (h : Src w ao n cap xs) (k : Nat) (hk : k < n) : ∃ b off, ao = some ⟨b, off, none⟩ ∧ w.cell? ⟨b, off + k, none⟩ = some (.int .u8 (xs.getD k 0)) := by
  have hl := h.hlen
  obtain ⟨b, off, he, hc⟩ := h.hrd (by intro e; rw [e] at hl; simp at hl; omega)
  exact ⟨b, off, he, hc k (by omega)⟩

set_option maxRecDepth 100000 in
set_option maxHeartbeats 1000000 in
theorem number_any (ao : Option Addr) (n cap : Nat) (ys : List Int) (w : World) (hs : Src w ao n cap ys) (hn : n ≤ 4) (hd : ∀ x ∈ ys, 48 ≤ x ∧ x ≤ 57) :
    Calls Tryd.prog 24 #[.slice ao n cap] w fun e w' => e = .returned (.int .i64 (numB ys)) ∧ w' = w := by
  have HS := hide hs
  have HD := hide hd
  have HL := hide hs.hlen
  have hn4 : (n : Int) ≤ 4 := by omega
  clear hs hd
  go_enter Tryd.func24, Tryd.ntmps24
  go_wp2
  go_loop [3, 8] (fun a i => ∃ I : Nat, I ≤ n ∧ i = .int .i64 I ∧ a = .int .i64 (numB (ys.take I))) (fun _ i => n - (intOf i).toNat)
  case atStart => exact ⟨0, Nat.zero_le _, rfl, rfl⟩
  case round =>
    obtain ⟨I, hI, rfl, rfl⟩ := hrel
    by_cases hlt : I < n
    · obtain ⟨b, off, hA, hc⟩ := HS.out.at I hlt
      subst hA
      have hx : 48 ≤ ys.getD I 0 ∧ ys.getD I 0 ≤ 57 := by
        rw [List.getD, List.getElem?_eq_getElem (by rw [HL.out]; exact hlt)]
        exact HD.out _ (List.getElem_mem _)
      have hb := numB_4 (ys.take I) (by rw [List.length_take, HL.out]; omega) (fun x hx => HD.out x (List.mem_of_mem_take hx))
      have hnx : Hid (numB (ys.take (I + 1)) = 10 * numB (ys.take I) + (ys.getD I 0 - 48)) := by
        unfold Hid
        rw [← numB_snoc, List.take_add_one]
        simp [List.getD, show I < ys.length by rw [HL.out]; exact hlt]
      generalize ys.getD I 0 = x at hc hx hnx
      generalize numB (ys.take I) = N at *
      have kI : (I : Int) < (n : Int) := by omega
      go_wp2
      go_round
      case rel => exact ⟨I + 1, by omega, by go_num, by rw [hnx.out]⟩
      case measure => simp [intOf]; omega
    · have kI : ¬ (I : Int) < (n : Int) := by omega
      have e : Hid (ys.take I = ys) := by unfold Hid; rw [List.take_of_length_le (by rw [HL.out]; omega)]
      go_wp2
      go_ret
      exact ⟨by rw [e.out]; rfl, rfl⟩

/-- Is a content so many digits and a Z? -/
def formB (k : Nat) (xs : List Int) : Bool := decide (xs.length = k + 11) && decide (xs.getD (k + 10) 0 = 90) && (xs.take (k + 10)).all fun c => decide (48 ≤ c ∧ c ≤ 57)

theorem formB_parts {k : Nat} {xs : List Int} (h : formB k xs = true) : xs.length = k + 11 ∧ xs.getD (k + 10) 0 = 90 ∧ ∀ x ∈ xs.take (k + 10), 48 ≤ x ∧ x ≤ 57 := by
  unfold formB at h
  simp only [Bool.and_eq_true, decide_eq_true_eq, List.all_eq_true] at h
  exact ⟨h.1.1, h.1.2, h.2⟩

theorem formB_no1 {k : Nat} {xs : List Int} (h : xs.length ≠ k + 11) : formB k xs = false := by simp [formB, h]
theorem formB_no2 {k : Nat} {xs : List Int} (h : xs.getD (k + 10) 0 ≠ 90) : formB k xs = false := by
  unfold formB
  rw [decide_eq_false h, Bool.and_false, Bool.false_and]
theorem formB_no3 {k : Nat} {xs : List Int} (I : Nat) (hI : I < k + 10) (hl : xs.length = k + 11) (h : ¬ (48 ≤ xs.getD I 0 ∧ xs.getD I 0 ≤ 57)) : formB k xs = false := by
  cases hf : formB k xs with
  | false => rfl
  | true =>
    obtain ⟨_, _, ha⟩ := formB_parts hf
    exact absurd (ha (xs.getD I 0) (by
      rw [List.getD, List.getElem?_eq_getElem (by omega), Option.getD_some, List.mem_iff_getElem]
      exact ⟨I, by rw [List.length_take]; omega, by simp⟩)) h
theorem formB_yes {k : Nat} {xs : List Int} (hl : xs.length = k + 11) (hz : xs.getD (k + 10) 0 = 90) (ha : ∀ I, I < k + 10 → 48 ≤ xs.getD I 0 ∧ xs.getD I 0 ≤ 57) : formB k xs = true := by
  unfold formB
  simp only [Bool.and_eq_true, decide_eq_true_eq, List.all_eq_true]
  refine ⟨⟨hl, hz⟩, fun x hx => ?_⟩
  obtain ⟨I, hI, rfl⟩ := List.mem_iff_getElem.1 hx
  rw [List.length_take] at hI
  have := ha I (by omega)
  rw [List.getD, List.getElem?_eq_getElem (by omega)] at this
  simpa using this

end Go.Proofs.YtnpimjfdidbdfabDoor
