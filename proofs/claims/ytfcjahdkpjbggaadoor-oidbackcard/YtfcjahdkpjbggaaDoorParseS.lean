/-
  What a text is read as: all its parts are arcs, and they may be an object identifier's. Plain.
-/
import Derived.Test.YtfcjahdkpjbggaaDoorParts
import Derived.Test.YtfcjahdkpjbggaaDoorMay
namespace Go.Proofs.YtfcjahdkpjbggaaDoor
open Go.RowKit

def arcsF : Nat → List Int → Option (List Int)
  | 0, _ => none
  | f + 1, ys => match arcT (cutI ys).1 with
    | none => none
    | some N => if (cutI ys).2.2 = true then (arcsF f (cutI ys).2.1).map (N :: ·) else some [N]
def arcsT (ys : List Int) : Option (List Int) := arcsF (ys.length + 1) ys

theorem arcsF_any : ∀ (f g : Nat) (ys : List Int), ys.length < f → ys.length < g → arcsF f ys = arcsF g ys
  | 0, _, _, h, _ => by omega
  | f + 1, 0, _, _, h => by omega
  | f + 1, g + 1, ys, h1, h2 => by
    simp only [arcsF]
    cases arcT (cutI ys).1 with
    | none => rfl
    | some N =>
      simp only
      split
      · rename_i h
        have := (cutI_len ys).2.1 h
        rw [arcsF_any f g _ (by omega) (by omega)]
      · rfl

theorem arcsT_none (ys : List Int) (h : arcT (cutI ys).1 = none) : arcsT ys = none := by
  unfold arcsT arcsF; rw [h]
theorem arcsT_more (ys : List Int) (N : Int) (h : arcT (cutI ys).1 = some N) (hf : (cutI ys).2.2 = true) : arcsT ys = (arcsT (cutI ys).2.1).map (N :: ·) := by
  have := (cutI_len ys).2.1 hf
  unfold arcsT
  rw [arcsF, h]
  simp only [hf, if_true]
  rw [arcsF_any ys.length ((cutI ys).2.1.length + 1) _ (by omega) (by omega)]
theorem arcsT_last (ys : List Int) (N : Int) (h : arcT (cutI ys).1 = some N) (hf : (cutI ys).2.2 = false) : arcsT ys = some [N] := by
  unfold arcsT arcsF; rw [h]; simp [hf]

def parseS (xs : List Int) : List Int × Int := match arcsT xs with
  | some l => if mayS l = true then (l, 0) else ([], 33)
  | none => ([], 33)

/-- The arcs acc are what the parts ahead of ys stand for. -/
def pRel (xs acc ys : List Int) : Prop := arcsT xs = (arcsT ys).map (acc ++ ·)

theorem pRel_start (xs : List Int) : pRel xs [] xs := by unfold pRel; cases arcsT xs <;> simp
theorem pRel_bad (xs acc ys : List Int) (h : pRel xs acc ys) (hn : arcT (cutI ys).1 = none) : parseS xs = ([], 33) := by
  unfold pRel at h; unfold parseS; rw [h, arcsT_none ys hn]; rfl
theorem pRel_more (xs acc ys : List Int) (N : Int) (h : pRel xs acc ys) (hn : arcT (cutI ys).1 = some N) (hf : (cutI ys).2.2 = true) : pRel xs (acc ++ [N]) (cutI ys).2.1 := by
  unfold pRel at *; rw [h, arcsT_more ys N hn hf]; cases arcsT (cutI ys).2.1 <;> simp
theorem pRel_last (xs acc ys : List Int) (N : Int) (h : pRel xs acc ys) (hn : arcT (cutI ys).1 = some N) (hf : (cutI ys).2.2 = false) : arcsT xs = some (acc ++ [N]) := by
  unfold pRel at h; rw [h, arcsT_last ys N hn hf]; rfl
theorem mayS_long (l : List Int) (h : 20 < l.length) : mayS l = false := by
  unfold mayS; simp; omega
theorem pRel_long (xs acc ys : List Int) (N : Int) (h : pRel xs acc ys) (hn : arcT (cutI ys).1 = some N) (hl : 20 < acc.length + 1) : parseS xs = ([], 33) := by
  cases hf : (cutI ys).2.2 with
  | true =>
    have h2 := pRel_more xs acc ys N h hn hf
    unfold pRel at h2
    unfold parseS
    rw [h2]
    cases arcsT (cutI ys).2.1 with
    | none => rfl
    | some l => simp only [Option.map_some]; rw [mayS_long _ (by simp; omega)]; rfl
  | false =>
    unfold parseS
    rw [pRel_last xs acc ys N h hn hf]
    simp only
    rw [mayS_long _ (by simp; omega)]; rfl
theorem parseS_of (xs l : List Int) (h : arcsT xs = some l) : parseS xs = if mayS l = true then (l, 0) else ([], 33) := by
  unfold parseS; rw [h]

theorem digGo_in : ∀ (l : List Int) (n N : Int), 0 ≤ n → n ≤ 2147483647 → digGo n l = some N → 0 ≤ N ∧ N ≤ 2147483647
  | [], n, N, h0, h1, h => by simp [digGo] at h; omega
  | c :: r, n, N, h0, h1, h => by
    rw [digGo] at h
    split at h
    · cases h
    · split at h
      · cases h
      · exact digGo_in r _ N (by omega) (by omega) h
theorem arcT_in (l : List Int) (N : Int) (h : arcT l = some N) : 0 ≤ N ∧ N ≤ 2147483647 := by
  unfold arcT at h
  split at h
  · cases h
  · exact digGo_in l 0 N (by omega) (by omega) h

end Go.Proofs.YtfcjahdkpjbggaaDoor
