/-
  SlipTorn's own reckoning: where the slips end, and which of these ends lie within the bytes that are left. No program.
-/
import Derived.Test.YtilkbjohekhjcaaDoorSlTornM
namespace Go.Proofs.YtilkbjohekhjcaaDoor
open Go.RowKit Go.IntWalk

/-- Where each of the slips ends. -/
def endsL : List Sl → Nat → List Nat
  | [], _ => []
  | s :: r, p => (p + sz s) :: endsL r (p + sz s)
/-- The last of the ends that lies within n: its number, counted from 1, and itself. -/
def scanE (n : Nat) : List Nat → Nat → Nat × Nat → Nat × Nat
  | [], _, st => st
  | e :: r, i, st => scanE n r (i + 1) (if e ≤ n then (i + 1, e) else st)

theorem endsL_len : ∀ (L : List Sl) (p : Nat), (endsL L p).length = L.length
  | [], _ => rfl
  | s :: r, p => by simp [endsL, endsL_len r]

theorem endsL_snoc : ∀ (L : List Sl) (s : Sl) (p : Nat), endsL (L ++ [s]) p = endsL L p ++ [p + (catB L).length + sz s]
  | [], s, p => by simp [endsL, catB]
  | t :: L, s, p => by
    have h := sz_len t
    simp only [List.cons_append, endsL, endsL_snoc L s, catB, List.length_append, h]
    congr 3
    omega
theorem catB_snoc : ∀ (L : List Sl) (s : Sl), catB (L ++ [s]) = catB L ++ slipB s.1 s.2
  | [], s => by simp [catB]
  | t :: L, s => by simp [catB, catB_snoc L s]

theorem scan_snoc (n : Nat) : ∀ (l : List Nat) (e i : Nat) (st : Nat × Nat), scanE n (l ++ [e]) i st = if e ≤ n then (i + l.length + 1, e) else scanE n l i st
  | [], e, i, st => by simp [scanE]
  | a :: l, e, i, st => by
    simp only [List.cons_append, scanE, scan_snoc n l, List.length_cons]
    split
    · congr 1; omega
    · rfl

theorem scan_big (n : Nat) : ∀ (l : List Nat) (i : Nat) (st : Nat × Nat), (∀ e ∈ l, n < e) → scanE n l i st = st
  | [], _, _, _ => rfl
  | a :: l, i, st, h => by
    have ha := h a (by simp)
    simp only [scanE]
    rw [if_neg (by omega)]
    exact scan_big n l _ _ (fun e he => h e (by simp [he]))
theorem endsL_ge : ∀ (L : List Sl) (p : Nat), ∀ e ∈ endsL L p, p < e
  | [], _, e, h => by simp [endsL] at h
  | s :: r, p, e, h => by
    simp only [endsL, List.mem_cons] at h
    have h7 : 7 ≤ sz s := by unfold sz; omega
    rcases h with rfl | h
    · omega
    · have := endsL_ge r (p + sz s) e h; omega

theorem scan_torn (n : Nat) : ∀ (L : List Sl) (p i : Nat), p ≤ n → scanE n (endsL L p) i (i, p) = (i + wholes L (n - p), p + endsT L (n - p))
  | [], p, i, _ => by simp [endsL, scanE, wholes, endsT]
  | s :: r, p, i, hp => by
    simp only [endsL, scanE, wholes, endsT]
    by_cases h : sz s ≤ n - p
    · rw [if_pos (by omega), if_pos h, if_pos h, scan_torn n r (p + sz s) (i + 1) (by omega), show n - (p + sz s) = n - p - sz s by omega]
      congr 1 <;> omega
    · rw [if_neg (by omega), if_neg h, if_neg h, scan_big n _ _ _ (fun e he => by have := endsL_ge r (p + sz s) e he; omega)]
      rfl
theorem scan_all (n : Nat) (L : List Sl) : scanE n (endsL L 0) 0 (0, 0) = (wholes L n, endsT L n) := by
  have := scan_torn n L 0 0 (Nat.zero_le _)
  simpa using this

/-- A slip that may be, out of any. -/
def rightS (e : Int × List Int) : Sl := (e.1 % 256, e.2.take 65535)
theorem rightS_ok (e : Int × List Int) (h : ∀ x ∈ e.2, 0 ≤ x ∧ x < 256) : Sl.ok (rightS e) :=
  ⟨by show 0 ≤ e.1 % 256 ∧ e.1 % 256 ≤ 255; omega, by show (e.2.take 65535).length ≤ 65535; simp; omega, fun x hx => h x (List.mem_of_mem_take hx)⟩

end Go.Proofs.YtilkbjohekhjcaaDoor
