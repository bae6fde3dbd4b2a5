/-
  TextTwice and TextBlanks answer true, and write nothing that was there.
  Rows of attributes; how many at their beginnings are the same; whether one begins with the other. Contracts of name.shared, Begins, Same.
  A name that may be: chancerylaw12.there answers true.
-/
import Derived.Test.YtgbbgfjamneioaaZTxF1ToTxT
import Derived.RegionTactic
import Derived.Deep.RegionHeld3
namespace Go.Proofs.Ytgbbgfjamneioaa
open Go.RowKit Go.Shelf Go.IntWalk

theorem foldS_size (s : ByteArray) : (foldS s).size ≤ s.size := by
  have h := fold_len s.data.toList
  rw [size_len] at h
  exact h

theorem foldS_twice (s : ByteArray) : foldS (foldS s) = foldS s := by
  unfold foldS
  rw [fold_fold]

theorem text_eq (A B : ByteArray) : (A.toList == B.toList) = decide (A = B) := by
  by_cases h : A = B
  · subst h; simp
  · rw [decide_eq_false h, beq_eq_false_iff_ne, ByteArray.toList_eq, ByteArray.toList_eq]
    intro e
    exact h (ByteArray.ext (Array.ext' e))

end Go.Proofs.Ytgbbgfjamneioaa

namespace Go.Proofs.Ytgbbgfjamneioaa
open Go.RowKit Go.IntWalk Go.Shelf

/-- The slice at 'ao', of n attributes, holds these types and values. -/
structure Ats (w : World) (ao : Option Addr) (n cap : Nat) (xs : List (Int × ByteArray)) : Prop where
  hl : xs.length = n
  hcap : n ≤ cap
  hmax : cap ≤ maxLen
  hsz : ∀ x ∈ xs, x.2.size + 1 ≤ 140737488355328
  hrd : 0 < n → ∃ b off, ao = some ⟨b, off, none⟩ ∧ ∀ i, i < n → w.cell? ⟨b, off + i * 2, none⟩ = some (.int .i64 (xs.getD i (0, ByteArray.empty)).1) ∧ w.cell? ⟨b, off + i * 2 + 1, none⟩ = some (.string (xs.getD i (0, ByteArray.empty)).2)

theorem Ats.below {w w' : World} {ao : Option Addr} {n cap : Nat} {xs : List (Int × ByteArray)} (h : Ats w ao n cap xs) (hb : Below w.heap.size w w') : Ats w' ao n cap xs := by
  refine ⟨h.hl, h.hcap, h.hmax, h.hsz, fun hn => ?_⟩
  obtain ⟨b, off, he, hc⟩ := h.hrd hn
  refine ⟨b, off, he, fun i hi => ?_⟩
  obtain ⟨h1, h2⟩ := hc i hi
  have hlt := lt_of_cell h1
  exact ⟨(hb.cell (p := ⟨b, off + i * 2, none⟩) hlt).trans h1, (hb.cell (p := ⟨b, off + i * 2 + 1, none⟩) hlt).trans h2⟩

theorem Ats.heap {w w' : World} {ao : Option Addr} {n cap : Nat} {xs : List (Int × ByteArray)} (h : Ats w ao n cap xs) (hh : w'.heap = w.heap) : Ats w' ao n cap xs := by
  refine ⟨h.hl, h.hcap, h.hmax, h.hsz, fun hn => ?_⟩
  obtain ⟨b, off, he, hc⟩ := h.hrd hn
  refine ⟨b, off, he, fun i hi => ?_⟩
  have e : ∀ p, w'.cell? p = w.cell? p := fun p => by unfold World.cell?; rw [hh]
  rw [e, e]
  exact hc i hi

theorem Ats.take {w : World} {ao : Option Addr} {n cap : Nat} {xs : List (Int × ByteArray)} (h : Ats w ao n cap xs) {k : Nat} (hk : k ≤ n) : Ats w ao k cap (xs.take k) := by
  have hl := h.hl
  refine ⟨by simp; omega, by have := h.hcap; omega, h.hmax, fun x hx => h.hsz x (List.mem_of_mem_take hx), fun hn => ?_⟩
  obtain ⟨b, off, he, hc⟩ := h.hrd (by omega)
  refine ⟨b, off, he, fun i hi => ?_⟩
  have e : (xs.take k).getD i (0, ByteArray.empty) = xs.getD i (0, ByteArray.empty) := by simp [List.getD, hi]
  rw [e]
  exact hc i (by omega)

/-- What two attributes that are the same have in common. -/
def key (x : Int × ByteArray) : Int × ByteArray := (x.1, foldS x.2)
/-- Whether a begins with b. -/
def bg (A B : List (Int × ByteArray)) : Bool := decide (A.take B.length = B)
theorem bg_self (A : List (Int × ByteArray)) : bg A A = true := by unfold bg; simp
theorem bg_take (A : List (Int × ByteArray)) (n : Nat) : bg A (A.take n) = true := by
  unfold bg
  rw [List.length_take, decide_eq_true_eq]
  by_cases h : n ≤ A.length
  · rw [Nat.min_eq_left h]
  · rw [Nat.min_eq_right (by omega), List.take_of_length_le (Nat.le_refl _), List.take_of_length_le (by omega)]
theorem bg_back (A : List (Int × ByteArray)) (n : Nat) (h : n ≤ A.length) : bg (A.take n) A = decide (n = A.length) := by
  unfold bg
  rw [List.take_take, Nat.min_eq_right h]
  congr 1
  refine propext ⟨fun e => ?_, fun e => ?_⟩
  · have := congrArg List.length e
    simp at this
    omega
  · rw [e, List.take_of_length_le (Nat.le_refl _)]
theorem bg_trans {A B C : List (Int × ByteArray)} (h1 : bg A B = true) (h2 : bg B C = true) : bg A C = true := by
  unfold bg at *
  rw [decide_eq_true_eq] at *
  have hl : C.length ≤ B.length := by have := congrArg List.length h2; simp at this; omega
  rw [← h1, List.take_take, Nat.min_eq_left hl] at h2
  exact h2
theorem bg_both (A B : List (Int × ByteArray)) : decide (A = B) = (bg A B && bg B A) := by
  by_cases h : A = B
  · subst h
    rw [bg_self]
    simp
  · rw [decide_eq_false h]
    symm
    rw [Bool.and_eq_false_iff]
    by_cases h1 : bg A B = true
    · right
      rw [Bool.eq_false_iff]
      intro h2
      unfold bg at h1 h2
      rw [decide_eq_true_eq] at h1 h2
      have l1 := congrArg List.length h1
      have l2 := congrArg List.length h2
      simp at l1 l2
      have : A.length = B.length := by omega
      rw [← this, List.take_of_length_le (Nat.le_refl _)] at h1
      exact h h1
    · left
      simpa using h1
theorem sm_len (A B : List (Int × ByteArray)) (h : A.length = B.length) : bg A B = decide (A = B) := by
  unfold bg
  rw [← h, List.take_of_length_le (Nat.le_refl _)]

/-- How many at the beginning are the same. -/
def shN : List (Int × ByteArray) → List (Int × ByteArray) → Nat
  | x :: A, y :: B => if x = y then shN A B + 1 else 0
  | _, _ => 0
theorem shN_at : ∀ (A B : List (Int × ByteArray)) (i : Nat), i ≤ A.length → i ≤ B.length → (∀ j, j < i → A[j]? = B[j]?) → (i = A.length ∨ i = B.length ∨ A[i]? ≠ B[i]?) → shN A B = i
  | [], B, i, h1, _, _, _ => by simp at h1; subst h1; cases B <;> rfl
  | x :: A, [], i, _, h2, _, _ => by simp at h2; subst h2; rfl
  | x :: A, y :: B, 0, _, _, _, h4 => by
    rw [shN, if_neg]
    rintro rfl
    simp at h4
  | x :: A, y :: B, i + 1, h1, h2, h3, h4 => by
    have e := h3 0 (by omega)
    simp at e
    rw [shN, if_pos e, shN_at A B i (by simpa using h1) (by simpa using h2) (fun j hj => by simpa using h3 (j + 1) (by omega)) (by simpa using h4)]
theorem shN_le : ∀ (A B : List (Int × ByteArray)), shN A B ≤ B.length
  | [], B => by cases B <;> simp [shN]
  | x :: A, [] => by simp [shN]
  | x :: A, y :: B => by
    rw [shN]
    have := shN_le A B
    split <;> simp <;> omega
theorem shN_bg : ∀ (A B : List (Int × ByteArray)), decide (shN A B = B.length) = bg A B
  | [], [] => rfl
  | x :: A, [] => rfl
  | [], y :: B => by unfold bg; simp [shN]
  | x :: A, y :: B => by
    have h := shN_bg A B
    unfold bg at *
    rw [shN]
    by_cases e : x = y
    · subst e
      rw [if_pos rfl]
      simpa using h
    · rw [if_neg e]
      simp [e]

theorem getD_mem {xs : List (Int × ByteArray)} {i : Nat} (h : i < xs.length) : xs.getD i (0, ByteArray.empty) ∈ xs := by
  rw [List.getD, List.getElem?_eq_getElem h]
  exact List.getElem_mem _
theorem key_at {xs : List (Int × ByteArray)} {i : Nat} (h : i < xs.length) : (xs.map key)[i]? = some (key (xs.getD i (0, ByteArray.empty))) := by
  simp [h, List.getD]

theorem nbelow (W : World) (o : Obj) : Below W.heap.size W (W.alloc o) := (Below.refl _ _).alloc (Nat.le_refl _) _

end Go.Proofs.Ytgbbgfjamneioaa

namespace Go.Proofs.Ytgbbgfjamneioaa
open Go.RowKit Go.IntWalk Go.Shelf

theorem may_de (k : Int) (hk : k = 12 ∨ k = 19) : mayL k [68, 69] = true := by
  rcases hk with rfl | rfl <;> decide

theorem great_any (b : Int) (h1 : 65 ≤ b) (h2 : b ≤ 90) (w : World) :
    Calls Try.prog 65 #[.int .u8 b] w fun e w' => e = .returned (.bool true) ∧ w' = w := by
  go_enter Try.func65, Try.ntmps65
  go_wp2
  go_ret
  exact ⟨rfl, rfl⟩

set_option maxRecDepth 100000 in
theorem country_de (w : World) :
    Calls Try.prog 51 #[.string ⟨#[68, 69]⟩] w fun e w' => e = .returned (.bool true) ∧ w' = w := by
  go_enter Try.func51, Try.ntmps51
  go_wp2_with (go_at_call 65; refine (great_any _ (by decide) (by decide) _).mono ?_; rintro e w1 ⟨rfl, hw⟩; have hw2 := hw.symm; subst hw2)
  go_ret
  exact ⟨rfl, rfl⟩

set_option maxRecDepth 100000 in
theorem mayBe_de (w : World) :
    Calls Try.prog 34 #[.agg #[.int .i64 6, .string ⟨#[68, 69]⟩]] w fun e w' => e = .returned (.bool true) ∧ Below w.heap.size w w' := by
  have m1 := hide (fun W => may_any 19 ⟨#[68, 69]⟩ (by decide) W)
  have m2 := hide (fun W => may_any 12 ⟨#[68, 69]⟩ (by decide) W)
  have e1 := may_de 19 (.inr rfl)
  have e2 := may_de 12 (.inl rfl)
  have hB := nbelow w (.cells #[.int .i64 6, .string ⟨#[68, 69]⟩] 41)
  go_enter Try.func34, Try.ntmps34
  go_wp2_with (first
    | (go_at_call 51; refine (country_de _).mono ?_; rintro e w1 ⟨rfl, hw⟩; have hw2 := hw.symm; subst hw2)
    | (go_at_call_of 52 (19 : Int); refine (m1.out _).mono ?_; rintro e w1 ⟨rfl, L1⟩; have c1 := (L1.cell (p := ⟨w.heap.size, 1, none⟩) (by simp)).trans (show (w.alloc (.cells #[.int .i64 6, .string ⟨#[68, 69]⟩] 41)).cell? ⟨w.heap.size, 1, none⟩ = some (.string ⟨#[68, 69]⟩) by simp); replace hB := hB.trans (L1.mono hB.size); rw [e1])
    | (go_at_call_of 52 (12 : Int); refine (m2.out _).mono ?_; rintro e w2 ⟨rfl, L2⟩; replace hB := hB.trans (L2.mono hB.size); rw [e2]))
  go_ret
  exact ⟨rfl, hB⟩

set_option maxRecDepth 100000 in
theorem may_one (w : World) :
    Calls Try.prog 17 #[.slice (some ⟨w.heap.size, 0, none⟩) 1 1] (w.alloc (.cells #[.int .i64 6, .string ⟨#[68, 69]⟩] 41)) fun e w' => e = .returned (.bool true) ∧ Below w.heap.size w w' := by
  have hm := hide mayBe_de
  have hB := nbelow w (.cells #[.int .i64 6, .string ⟨#[68, 69]⟩] 41)
  have c0 : (w.alloc (.cells #[.int .i64 6, .string ⟨#[68, 69]⟩] 41)).cell? ⟨w.heap.size, 0, none⟩ = some (.int .i64 6) := by simp
  have c1 : (w.alloc (.cells #[.int .i64 6, .string ⟨#[68, 69]⟩] 41)).cell? ⟨w.heap.size, 1, none⟩ = some (.string ⟨#[68, 69]⟩) := by simp
  generalize (w.alloc (.cells #[.int .i64 6, .string ⟨#[68, 69]⟩] 41)) = W at hB c0 c1 ⊢
  have hs := hB.size
  generalize w.heap.size = g at hB c0 c1 hs ⊢
  go_enter Try.func17, Try.ntmps17
  go_wp2
  go_loopw [10] (fun v wr => (v = .int .i64 0 ∧ wr = W) ∨ (v = .int .i64 1 ∧ Below W.heap.size W wr)) (fun v _ => 1 - (intOf v).toNat)
  case atStart => exact .inl ⟨rfl, rfl⟩
  case round =>
    rcases hrel with ⟨rfl, rfl⟩ | ⟨rfl, hQ⟩
    · go_wp2_with (go_at_call 34; refine (hm.out _).mono ?_; rintro e w1 ⟨rfl, h1⟩)
      go_roundw
      case rel => exact .inr ⟨rfl, (nbelow _ _).trans (h1.mono (by simp))⟩
      case measure => simp [intOf]
    · go_wp2
      go_ret
      exact ⟨rfl, hB.trans (hQ.mono hs)⟩

end Go.Proofs.Ytgbbgfjamneioaa
