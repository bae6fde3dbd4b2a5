/-
  num.Bool lays the one byte of a truth value into new memory; the reference's Bool as well.
-/
import Derived.Test.YtmkfdfjpfinbpaaMore
namespace Go.Proofs.Ytmkfdfjpfinbpaa
open Go.RowKit Go.IntWalk

def boolS (v : Bool) : List Int := if v then [255] else [0]

theorem boolS_len (v : Bool) : (boolS v).length = 1 := by cases v <;> rfl
theorem boolS_byte (v : Bool) : ∀ x ∈ boolS v, 0 ≤ x ∧ x < 256 := by cases v <;> simp [boolS]

theorem bool_any (v : Bool) (w : World) :
    Calls Try.prog 14 #[.bool v] w fun e w' => ∃ g, e = .returned (.slice (some ⟨g, 0, none⟩) 1 1) ∧ OwnB w' w.heap.size (.slice (some ⟨g, 0, none⟩) 1 1) (boolS v) ∧ Below w.heap.size w w' := by
  cases v with
  | true =>
    go_enter Try.func14, Try.ntmps14
    go_wp2
    go_ret
    exact ⟨_, rfl, OwnB.lit _ [255] _ 1 rfl rfl (Nat.le_refl _) (by decide), (Below.refl _ _).alloc (Nat.le_refl _) _⟩
  | false =>
    go_enter Try.func14, Try.ntmps14
    go_wp2
    go_ret
    exact ⟨_, rfl, OwnB.lit _ [0] _ 1 rfl rfl (Nat.le_refl _) (by decide), (Below.refl _ _).alloc (Nat.le_refl _) _⟩

theorem str255 : strOfNums [255] = { data := #[255] } := by decide

end Go.Proofs.Ytmkfdfjpfinbpaa
