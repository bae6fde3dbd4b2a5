/-
  How long a list of arcs is that is read, and how great its numbers are. No program.
-/
import Derived.Test.YtlhibocacdjleaaDecS
namespace Go.Proofs.Ytlhibocacdjleaa

def okArcs (l : List Int) : Prop := l.length ≤ 20 ∧ ∀ x ∈ l, -9223372036854775808 ≤ x ∧ x < 9223372036854775808

theorem okArcs_nil : okArcs [] := ⟨by simp, by simp⟩

theorem decF_ok (xs : List Int) : ∀ (f : Nat) (acc : List Int) (p : Nat), okArcs acc → okArcs (decF xs f acc p).1
  | 0, acc, _, h => h
  | f + 1, acc, p, h => by
    rw [decF]
    split
    · split
      · exact okArcs_nil
      · rename_i h20
        split
        · rename_i he
          have hin := nextS_in (xs.drop p) he
          refine decF_ok xs f _ _ ⟨?_, ?_⟩
          · have := h.1
            rw [List.length_append]
            simp only [List.length_cons, List.length_nil]
            omega
          · intro x hx
            rcases List.mem_append.1 hx with hx | hx
            · exact h.2 x hx
            · simp at hx
              subst hx
              omega
        · exact okArcs_nil
    · exact h

theorem decS_ok (xs : List Int) : okArcs (decS xs).1 := by
  unfold decS
  split
  · rename_i he
    have hin := nextS_in xs he
    refine decF_ok xs _ _ _ ⟨by rw [firstS_len]; decide, ?_⟩
    intro x hx
    unfold firstS at hx
    split at hx
    · simp at hx; omega
    · split at hx
      · simp at hx; omega
      · simp at hx; omega
  · exact okArcs_nil

end Go.Proofs.Ytlhibocacdjleaa
