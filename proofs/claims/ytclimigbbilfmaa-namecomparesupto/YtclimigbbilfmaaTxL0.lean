/-
  text.Fold and text.Same as calls; the statements' own call works answers true.
-/
import Derived.Test.YtclimigbbilfmaaTxF2
import Derived.Test.YtclimigbbilfmaaTxP4
namespace Go.Proofs.Ytclimigbbilfmaa
open Go.RowKit Go.Shelf Go.IntWalk

theorem Try.own5 : ownKnob Try.prog.godebug = none := by kernel_rfl

/-- A text as it is compared. -/
def foldS (s : ByteArray) : ByteArray := ⟨(foldL s.data.toList).toArray⟩

theorem fold_any (s : ByteArray) (hs : s.size + 1 ≤ 140737488355328) (w : World) :
    Calls Try.prog 64 #[.string s] w fun e w' => e = .returned (.string (foldS s)) ∧ Below w.heap.size w w' := callsIn_wide.1 (fold_in s hs w)

theorem foldS_A : foldS ⟨#[65]⟩ = ⟨#[97]⟩ := by decide

theorem may_a (k : Int) (hk : k = 12 ∨ k = 19 ∨ k = 22) : mayL k [97] = true := by
  rcases hk with rfl | rfl | rfl <;> decide

end Go.Proofs.Ytclimigbbilfmaa
