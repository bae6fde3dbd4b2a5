/-
  der.Take and der.One answer as the plain function of the bytes says, the content copied into new memory.
-/
import Derived.Test.YtdjlaaflmbdomaaElem
namespace Go.Proofs.Ytdjlaaflmbdomaa
open Go.RowKit Go.IntWalk

theorem takeLenS_size (xs : List Int) (h : (takeLenS xs).2.2 = 0) : 1 ≤ (takeLenS xs).2.1 := by
  unfold takeLenS at *
  split at h
  · rw [if_pos (by assumption)]; simp
  · rename_i h1
    rw [if_neg h1] 
    split at h
    · simp at h
    · rename_i h2
      rw [if_neg h2]
      split at h
      · simp at h
      · rename_i h3
        rw [if_neg h3]
        split at h
        · simp at h
        · rename_i h4
          rw [if_neg h4]
          split at h
          · simp at h
          · rename_i h5
            rw [if_neg h5]
            simp only []
            omega

theorem findS_cases (xs : List Int) (hb : ∀ x ∈ xs, 0 ≤ x ∧ x < 256) :
    (∃ err : Int, err ≠ 0 ∧ 0 < err ∧ err ≤ 12 ∧ findS xs = (0, 0, 0, err)) ∨
    ∃ (l h : Nat), findS xs = (xs.getD 0 0, (l : Int), (h : Int), 0) ∧ 2 ≤ l ∧ l ≤ 5 ∧ l ≤ h ∧ h ≤ xs.length ∧ h - l < 16777216 := by
  have hbd := takeLenS_bd (xs.drop 1) (fun x hx => hb x (List.mem_of_mem_drop hx))
  have hsz := takeLenS_size (xs.drop 1)
  unfold findS
  by_cases h1 : xs.length = 0
  · rw [if_pos h1]; exact .inl ⟨10, by decide, by decide, by decide, rfl⟩
  · rw [if_neg h1]
    by_cases h2 : isTagB (xs.getD 0 0) = false
    · rw [if_pos h2]; exact .inl ⟨11, by decide, by decide, by decide, rfl⟩
    · rw [if_neg h2]
      by_cases h3 : xs.length = 1
      · rw [if_pos h3]; exact .inl ⟨10, by decide, by decide, by decide, rfl⟩
      · rw [if_neg h3]
        by_cases h4 : (takeLenS (xs.drop 1)).2.2 ≠ 0
        · rw [if_pos h4]; exact .inl ⟨_, h4, by omega, by omega, rfl⟩
        · rw [if_neg h4]
          have hsz := hsz (by omega)
          by_cases h5 : (xs.length : Int) - (1 + (takeLenS (xs.drop 1)).2.1) < (takeLenS (xs.drop 1)).1
          · rw [if_pos h5]; exact .inl ⟨10, by decide, by decide, by decide, rfl⟩
          · rw [if_neg h5]
            refine .inr ⟨(1 + (takeLenS (xs.drop 1)).2.1).toNat, (1 + (takeLenS (xs.drop 1)).2.1 + (takeLenS (xs.drop 1)).1).toNat, ?_, by omega, by omega, by omega, by omega, by omega⟩
            rw [Int.toNat_of_nonneg (by omega), Int.toNat_of_nonneg (by omega)]

/-- The content of the element with which bytes begin; none where there is none. -/
def contS (xs : List Int) : List Int := (xs.take (findS xs).2.2.1.toNat).drop (findS xs).2.1.toNat

end Go.Proofs.Ytdjlaaflmbdomaa
