/-
  A number that is read has just so many bytes as its size says: the first byte says something, so none is idle. No program.
-/
import Derived.Test.YtfcjahdkpjbggaaDoorNextS
import Derived.Test.YtfcjahdkpjbggaaDoorOSize
namespace Go.Proofs.YtfcjahdkpjbggaaDoor

/-- k bytes have been read, the first of them not idle. -/
def digInv (N : Int) (k : Nat) : Prop := (k = 1 ∧ 1 ≤ N ∧ N < 128) ∨ (k = 2 ∧ 128 ≤ N ∧ N < 16384) ∨ (k = 3 ∧ 16384 ≤ N ∧ N < 2097152) ∨ (k = 4 ∧ 2097152 ≤ N ∧ N < 268435456) ∨ (k = 5 ∧ 268435456 ≤ N)

theorem digInv_next {N x : Int} {k : Nat} (h : digInv N k) (hx : ¬ 2147483647 < 128 * N + x % 128) : digInv (128 * N + x % 128) (k + 1) ∧ sizeS (128 * N + x % 128) = ((k + 1 : Nat) : Int) := by
  rcases h with ⟨rfl, h1, h2⟩ | ⟨rfl, h1, h2⟩ | ⟨rfl, h1, h2⟩ | ⟨rfl, h1, h2⟩ | ⟨rfl, h1⟩
  · exact ⟨.inr (.inl ⟨rfl, by omega, by omega⟩), by unfold sizeS; rw [if_neg (by omega), if_pos (by omega)]; rfl⟩
  · exact ⟨.inr (.inr (.inl ⟨rfl, by omega, by omega⟩)), by unfold sizeS; rw [if_neg (by omega), if_neg (by omega), if_pos (by omega)]; rfl⟩
  · exact ⟨.inr (.inr (.inr (.inl ⟨rfl, by omega, by omega⟩))), by unfold sizeS; rw [if_neg (by omega), if_neg (by omega), if_neg (by omega), if_pos (by omega)]; rfl⟩
  · exact ⟨.inr (.inr (.inr (.inr ⟨rfl, by omega⟩))), by unfold sizeS; rw [if_neg (by omega), if_neg (by omega), if_neg (by omega), if_neg (by omega)]; rfl⟩
  · omega

theorem nextGo_size : ∀ (l : List Int) (N : Int) (k : Nat), digInv N k → (nextGo N k l).2.2 = 0 → sizeS (nextGo N k l).1 = ((nextGo N k l).2.1 : Int)
  | [], N, k, _, h => by simp [nextGo] at h
  | x :: l, N, k, hi, h => by
    rw [nextGo] at h ⊢
    split at h
    · simp at h
    · rename_i hg
      rw [if_neg hg]
      obtain ⟨h1, h2⟩ := digInv_next hi hg
      split at h
      · rename_i hx
        rw [if_pos hx]
        exact h2
      · rename_i hx
        rw [if_neg hx]
        exact nextGo_size l _ _ h1 h

theorem nextS_size (l : List Int) (hb : ∀ x ∈ l, 0 ≤ x ∧ x < 256) (h : (nextS l).2.2 = 0) : sizeS (nextS l).1 = ((nextS l).2.1 : Int) := by
  unfold nextS at h ⊢
  split at h
  · simp at h
  · rename_i hp
    rw [if_neg hp]
    cases l with
    | nil => simp [nextGo] at h
    | cons x l =>
      have hx := hb x (List.mem_cons_self ..)
      have hne : x ≠ 128 := by intro e; apply hp; rw [List.head?_cons, e]
      rw [nextGo] at h ⊢
      split at h
      · simp at h
      · rename_i hg
        rw [if_neg hg]
        split at h
        · rename_i h8
          rw [if_pos h8]
          show sizeS (128 * 0 + x % 128) = ((0 + 1 : Nat) : Int)
          unfold sizeS
          rw [if_pos (by omega)]
          rfl
        · rename_i h8
          rw [if_neg h8]
          exact nextGo_size l _ _ (.inl ⟨rfl, by omega, by omega⟩) h

end Go.Proofs.YtfcjahdkpjbggaaDoor
