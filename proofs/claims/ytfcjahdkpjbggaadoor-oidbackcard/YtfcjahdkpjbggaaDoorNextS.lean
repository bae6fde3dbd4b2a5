/-
  The number with which a content begins (nextS): how great it is and how many bytes it has, or what is wrong with it first. No program.
-/
import Derived.Test.YtfcjahdkpjbggaaDoorMoreI
namespace Go.Proofs.YtfcjahdkpjbggaaDoor
open Go.RowKit Go.IntWalk

/-- Behind k bytes that make n: the number, how many bytes it has, and what is wrong (0: nothing). -/
def nextGo (n : Int) (k : Nat) : List Int → Int × Nat × Int
  | [] => (0, 0, 10)
  | x :: l => if 2147483647 < 128 * n + x % 128 then (0, 0, 31) else if x < 128 then (128 * n + x % 128, k + 1, 0) else nextGo (128 * n + x % 128) (k + 1) l

def nextS (l : List Int) : Int × Nat × Int := if l.head? = some 128 then (0, 0, 30) else nextGo 0 0 l

theorem nextGo_nil (n : Int) (k : Nat) : nextGo n k [] = (0, 0, 10) := rfl

theorem drop_at (xs : List Int) (p : Nat) (h : p < xs.length) : xs.drop p = xs.getD p 0 :: xs.drop (p + 1) := by
  rw [List.drop_eq_getElem_cons h]
  simp [List.getD, List.getElem?_eq_getElem h]

theorem nextGo_great (xs : List Int) (p : Nat) (n : Int) (k : Nat) (h : p < xs.length) (hg : 2147483647 < 128 * n + xs.getD p 0 % 128) : nextGo n k (xs.drop p) = (0, 0, 31) := by
  rw [drop_at xs p h, nextGo, if_pos hg]

theorem nextGo_last (xs : List Int) (p : Nat) (n : Int) (k : Nat) (h : p < xs.length) (hg : ¬ 2147483647 < 128 * n + xs.getD p 0 % 128) (hx : xs.getD p 0 < 128) : nextGo n k (xs.drop p) = (128 * n + xs.getD p 0 % 128, k + 1, 0) := by
  rw [drop_at xs p h, nextGo, if_neg hg, if_pos hx]

theorem nextGo_more (xs : List Int) (p : Nat) (n : Int) (k : Nat) (h : p < xs.length) (hg : ¬ 2147483647 < 128 * n + xs.getD p 0 % 128) (hx : ¬ xs.getD p 0 < 128) : nextGo n k (xs.drop p) = nextGo (128 * n + xs.getD p 0 % 128) (k + 1) (xs.drop (p + 1)) := by
  rw [drop_at xs p h, nextGo, if_neg hg, if_neg hx]

theorem nextS_pad (xs : List Int) (p : Nat) (h : p < xs.length) (hx : xs.getD p 0 = 128) : nextS (xs.drop p) = (0, 0, 30) := by
  unfold nextS
  rw [drop_at xs p h, List.head?_cons, if_pos (by rw [hx])]

theorem nextS_go (xs : List Int) (p : Nat) (h : p < xs.length) (hx : xs.getD p 0 ≠ 128) : nextS (xs.drop p) = nextGo 0 0 (xs.drop p) := by
  unfold nextS
  rw [drop_at xs p h, List.head?_cons, if_neg (by simpa using hx)]

theorem nextS_end (xs : List Int) (p : Nat) (h : ¬ p < xs.length) : nextS (xs.drop p) = (0, 0, 10) := by
  rw [List.drop_of_length_le (by omega)]
  rfl

/-- What is handed out is a number in range, of at least one byte, within the content. -/
theorem nextGo_in : ∀ (l : List Int) (n : Int) (k : Nat), 0 ≤ n → (nextGo n k l).2.2 = 0 → 0 ≤ (nextGo n k l).1 ∧ (nextGo n k l).1 ≤ 2147483647 ∧ k < (nextGo n k l).2.1 ∧ (nextGo n k l).2.1 ≤ k + l.length
  | [], n, k, _, h => by simp [nextGo] at h
  | x :: l, n, k, h0, h => by
    rw [nextGo] at h ⊢
    split at h
    · simp at h
    · rename_i hg
      rw [if_neg hg]
      split at h
      · rename_i hx
        rw [if_pos hx]
        simp only [List.length_cons]
        omega
      · rename_i hx
        rw [if_neg hx]
        have := nextGo_in l (128 * n + x % 128) (k + 1) (by omega) h
        simp only [List.length_cons]
        omega

theorem nextS_in (l : List Int) (h : (nextS l).2.2 = 0) : 0 ≤ (nextS l).1 ∧ (nextS l).1 ≤ 2147483647 ∧ 0 < (nextS l).2.1 ∧ (nextS l).2.1 ≤ l.length := by
  unfold nextS at h ⊢
  split at h
  · simp at h
  · rename_i hp
    rw [if_neg hp]
    have := nextGo_in l 0 0 (by omega) h
    omega

end Go.Proofs.YtfcjahdkpjbggaaDoor
