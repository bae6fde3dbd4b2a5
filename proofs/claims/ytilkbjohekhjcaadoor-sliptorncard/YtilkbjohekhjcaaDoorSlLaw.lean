/-
  What layer 9's statements' own helpers do: 'lent' copies bytes and lays a mark behind them; 'kept' says true of what was lent and is as it was; names, works.
-/
import Derived.Test.YtilkbjohekhjcaaDoorSlFind
import Derived.Test.YtilkbjohekhjcaaDoorSlWk
import Derived.Deep.QuietTactic
import Derived.BigQuiet
namespace Go.Proofs.YtilkbjohekhjcaaDoor
open Go.RowKit Go.IntWalk

/-- What was lent, as bytes. -/
theorem lent_src {w : World} {base g n c : Nat} {xs : List Int} (ho : OwnB w base (.slice (some ⟨g, 0, none⟩) (n + 1) c) (xs ++ [90])) (hb : ∀ x ∈ xs, 0 ≤ x ∧ x < 256) (hl : xs.length = n) : Src w (some ⟨g, 0, none⟩) n c xs := by
  have hall := ho.toSrc (by intro x hx; simp at hx; rcases hx with hx | rfl; exact hb x hx; omega)
  have := hall.head n (by omega)
  rwa [List.take_append_of_le_length (by omega), List.take_of_length_le (by omega)] at this

end Go.Proofs.YtilkbjohekhjcaaDoor
