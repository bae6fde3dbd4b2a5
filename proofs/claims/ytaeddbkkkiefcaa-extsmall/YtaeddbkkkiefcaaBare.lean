/-
  Natural numbers as bytes, plain functions; the reference's bare.
-/
import Derived.Test.YtaeddbkkkiefcaaShort
namespace Go.Proofs.Ytaeddbkkkiefcaa
open Go.RowKit Go.IntWalk

def bareS : List Int → List Int
  | [] => []
  | x :: r => if x = 0 then bareS r else x :: r

def natS (xs : List Int) : List Int := shortS (0 :: xs)

def natR : List Int → List Int
  | [] => [0]
  | y :: r => if 128 ≤ y then 0 :: y :: r else y :: r

theorem shortS_same (x : Int) (r : List Int) (h : x ≠ 0) (h' : x ≠ 255) : shortS (x :: r) = x :: r := by
  cases r with
  | nil => rfl
  | cons y r => unfold shortS; rw [if_neg (by simp [idleS, h, h'])]

theorem natS_eq : ∀ xs : List Int, natS xs = natR (bareS xs)
  | [] => rfl
  | x :: r => by
    unfold natS shortS bareS
    by_cases h0 : x = 0
    · subst h0
      rw [if_pos (by simp [idleS]), if_pos rfl]
      exact natS_eq r
    · rw [if_neg h0]
      show _ = if 128 ≤ x then 0 :: x :: r else x :: r
      by_cases h1 : 128 ≤ x
      · rw [if_neg (by simp [idleS]; omega), if_pos h1]
      · rw [if_pos (by simp [idleS]; omega), if_neg h1, shortS_same x r h0 (by omega)]

theorem bareS_mem : ∀ (xs : List Int) (x : Int), x ∈ bareS xs → x ∈ xs
  | [], _, h => h
  | x :: r, z, h => by
    unfold bareS at h
    split at h
    · exact List.mem_cons_of_mem _ (bareS_mem r z h)
    · exact h

theorem bareS_len : ∀ xs : List Int, (bareS xs).length ≤ xs.length
  | [] => Nat.le_refl _
  | x :: r => by
    unfold bareS
    split
    · have := bareS_len r
      simp only [List.length_cons]
      omega
    · exact Nat.le_refl _

theorem natS_byte (xs : List Int) (hb : ∀ x ∈ xs, 0 ≤ x ∧ x < 256) : ∀ x ∈ natS xs, 0 ≤ x ∧ x < 256 := by
  intro x hx
  have := shortS_mem _ _ hx
  simp at this
  rcases this with rfl | h
  · omega
  · exact hb x h

theorem natS_len (xs : List Int) : (natS xs).length ≤ xs.length + 1 := by
  have := shortS_len (0 :: xs)
  simp only [List.length_cons] at this
  exact this

theorem drop_at (xs : List Int) (k : Nat) (h : k < xs.length) : xs.drop k = xs.getD k 0 :: xs.drop (k + 1) := by
  rw [List.drop_eq_getElem_cons h]
  simp [List.getD, h]

theorem Src.at {w : World} {ao : Option Addr} {n cap : Nat} {xs : List Int} (h : Src w ao n cap xs) (k : Nat) (hk : k < n) : ∃ b off, ao = some ⟨b, off, none⟩ ∧ w.cell? ⟨b, off + k, none⟩ = some (.int .u8 (xs.getD k 0)) := by
  have hl := h.hlen
  obtain ⟨b, off, he, hc⟩ := h.hrd (by intro h'; subst h'; simp at hl; omega)
  exact ⟨b, off, he, hc k (by omega)⟩

end Go.Proofs.Ytaeddbkkkiefcaa
