/-
  What a content is read as (decS): the arcs, or what is wrong first. No program.
-/
import Derived.Test.YtfcjahdkpjbggaaDoorNextS
namespace Go.Proofs.YtfcjahdkpjbggaaDoor
open Go.RowKit Go.IntWalk

/-- The two arcs that the first number stands for. -/
def firstS (n : Int) : List Int := if n < 40 then [0, n] else if n < 80 then [1, n - 40] else [2, n - 80]

/-- Behind the arcs acc, from the place p on; no more than so many numbers. -/
def decF (xs : List Int) : Nat → List Int → Nat → List Int × Int
  | 0, acc, _ => (acc, 0)
  | f + 1, acc, p =>
    if p < xs.length then
      if acc.length = 20 then ([], 32)
      else if (nextS (xs.drop p)).2.2 = 0 then decF xs f (acc ++ [(nextS (xs.drop p)).1]) (p + (nextS (xs.drop p)).2.1)
      else ([], (nextS (xs.drop p)).2.2)
    else (acc, 0)
def decG (xs : List Int) (acc : List Int) (p : Nat) : List Int × Int := decF xs (xs.length - p) acc p
def decS (xs : List Int) : List Int × Int := if (nextS xs).2.2 = 0 then decG xs (firstS (nextS xs).1) (nextS xs).2.1 else ([], (nextS xs).2.2)

theorem decF_any (xs : List Int) : ∀ (f g : Nat) (acc : List Int) (p : Nat), xs.length - p ≤ f → xs.length - p ≤ g → decF xs f acc p = decF xs g acc p := by
  intro f
  induction f with
  | zero =>
    intro g acc p h1 _
    cases g with
    | zero => rfl
    | succ g => simp only [decF]; rw [if_neg (by omega)]
  | succ f ih =>
    intro g acc p h1 h2
    cases g with
    | zero => simp only [decF]; rw [if_neg (by omega)]
    | succ g =>
      simp only [decF]
      split
      · split
        · rfl
        · split
          · rename_i hp _ he
            have := nextS_in (xs.drop p) he
            exact ih g _ _ (by omega) (by omega)
          · rfl
      · rfl

theorem decG_end (xs acc : List Int) (p : Nat) (h : ¬ p < xs.length) : decG xs acc p = (acc, 0) := by
  rw [decG, decF_any xs _ (xs.length - p + 1) acc p (Nat.le_refl _) (by omega), decF, if_neg h]
theorem decG_many (xs acc : List Int) (p : Nat) (h : p < xs.length) (ha : acc.length = 20) : decG xs acc p = ([], 32) := by
  rw [decG, decF_any xs _ (xs.length - p + 1) acc p (Nat.le_refl _) (by omega), decF, if_pos h, if_pos ha]
theorem decG_bad (xs acc : List Int) (p : Nat) (h : p < xs.length) (ha : acc.length ≠ 20) (he : (nextS (xs.drop p)).2.2 ≠ 0) : decG xs acc p = ([], (nextS (xs.drop p)).2.2) := by
  rw [decG, decF_any xs _ (xs.length - p + 1) acc p (Nat.le_refl _) (by omega), decF, if_pos h, if_neg ha, if_neg he]
theorem decG_next (xs acc : List Int) (p : Nat) (h : p < xs.length) (ha : acc.length ≠ 20) (he : (nextS (xs.drop p)).2.2 = 0) : decG xs acc p = decG xs (acc ++ [(nextS (xs.drop p)).1]) (p + (nextS (xs.drop p)).2.1) := by
  have := nextS_in (xs.drop p) he
  rw [decG, decF_any xs _ (xs.length - p + 1) acc p (Nat.le_refl _) (by omega), decF, if_pos h, if_neg ha, if_pos he, decG]
  exact decF_any xs _ _ _ _ (by omega) (by omega)

theorem firstS_len (n : Int) : (firstS n).length = 2 := by
  unfold firstS
  split
  · rfl
  · split <;> rfl

end Go.Proofs.YtfcjahdkpjbggaaDoor
