/-
  Layer 3's statements' own helpers over numbers: 'lent' copies numbers and lays a mark behind them; the document's Compare; 'same'; 'kept'; 'names'.
-/
import Derived.Test.YtfcjahdkpjbggaaDoorMoreI
import Derived.Deep.QuietTactic
import Derived.BigQuiet
namespace Go.Proofs.YtfcjahdkpjbggaaDoor
open Go.RowKit Go.IntWalk

/-- Of two lists of numbers: which comes first. -/
def cmpS : List Int → List Int → Int
  | [], [] => 0
  | [], _ :: _ => -1
  | _ :: _, [] => 1
  | x :: xs, y :: ys => if x < y then -1 else if y < x then 1 else cmpS xs ys

theorem cmpS_refl (xs : List Int) : cmpS xs xs = 0 := by
  induction xs with
  | nil => rfl
  | cons x xs ih => simp [cmpS, ih]

theorem cmpS_eq {xs ys : List Int} (h : cmpS xs ys = 0) : xs = ys := by
  induction xs generalizing ys with
  | nil => cases ys <;> simp_all [cmpS]
  | cons x xs ih =>
    cases ys with
    | nil => simp [cmpS] at h
    | cons y ys =>
      simp only [cmpS] at h
      split at h
      · simp at h
      · split at h
        · simp at h
        · rw [ih h]; congr 1; omega

theorem cmpS_drop (xs ys : List Int) (k : Nat) (hx : k < xs.length) (hy : k < ys.length) :
    cmpS (xs.drop k) (ys.drop k) = if xs.getD k 0 < ys.getD k 0 then -1 else if ys.getD k 0 < xs.getD k 0 then 1 else cmpS (xs.drop (k + 1)) (ys.drop (k + 1)) := by
  rw [List.drop_eq_getElem_cons hx, List.drop_eq_getElem_cons hy]
  simp [cmpS, List.getD, hx, hy]

theorem cmpS_endL (xs ys : List Int) (k : Nat) (hx : xs.length ≤ k) (hy : k < ys.length) : cmpS (xs.drop k) (ys.drop k) = -1 := by
  rw [List.drop_eq_nil_of_le hx, List.drop_eq_getElem_cons hy]; rfl

theorem cmpS_endR (xs ys : List Int) (k : Nat) (hx : k < xs.length) (hy : ys.length ≤ k) : cmpS (xs.drop k) (ys.drop k) = 1 := by
  rw [List.drop_eq_nil_of_le hy, List.drop_eq_getElem_cons hx]; rfl

theorem cmpS_end (xs ys : List Int) (k : Nat) (hx : xs.length ≤ k) (hy : ys.length ≤ k) : cmpS (xs.drop k) (ys.drop k) = 0 := by
  rw [List.drop_eq_nil_of_le hx, List.drop_eq_nil_of_le hy]; rfl

end Go.Proofs.YtfcjahdkpjbggaaDoor
