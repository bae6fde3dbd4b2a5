/-
  Slips, one behind the other, torn off anywhere: just the whole ones are told. No program.
-/
import Derived.Test.YtilkbjohekhjcaaDoorSlEnd
import Derived.Test.YtilkbjohekhjcaaDoorSlEq
namespace Go.Proofs.YtilkbjohekhjcaaDoor
open Go.RowKit Go.IntWalk

/-- Slips that may be: a kind and data. -/
abbrev Sl := Int × List Int
def Sl.ok (s : Sl) : Prop := (0 ≤ s.1 ∧ s.1 ≤ 255) ∧ s.2.length ≤ 65535 ∧ ∀ x ∈ s.2, 0 ≤ x ∧ x < 256
def sz (s : Sl) : Nat := s.2.length + 7
def catB : List Sl → List Int
  | [] => []
  | s :: r => slipB s.1 s.2 ++ catB r
/-- How many of them are whole in the first m bytes, and where the last of these ends. -/
def wholes : List Sl → Nat → Nat
  | [], _ => 0
  | s :: r, m => if sz s ≤ m then wholes r (m - sz s) + 1 else 0
def endsT : List Sl → Nat → Nat
  | [], _ => 0
  | s :: r, m => if sz s ≤ m then sz s + endsT r (m - sz s) else 0

theorem sz_len (s : Sl) : (slipB s.1 s.2).length = sz s := slipB_len _ _

theorem find_torn (s : Sl) (hs : s.ok) (m : Nat) (hm : m < sz s) : findS ((slipB s.1 s.2).take m) = (0, 90) := by
  have hl : ((slipB s.1 s.2).take m).length = m := by rw [List.length_take, sz_len]; omega
  unfold findS
  rw [hl]
  by_cases h3 : m < 3
  · rw [if_pos h3]
  · rw [if_neg h3]
    have hD : dataN ((slipB s.1 s.2).take m) = (s.2.length : Int) := by
      have h := dataN_slip s.1 s.2 [] hs.2.1
      rw [List.append_nil] at h
      unfold dataN at h ⊢
      simp only [List.getD, List.getElem?_take] at h ⊢
      rw [if_pos (by omega), if_pos (by omega)]
      exact h
    rw [hD, if_pos (by unfold sz at hm; omega)]

/-- What is told from a place on, where these slips stand, torn off behind m bytes. -/
theorem torn_from (xs : List Int) : ∀ (L : List Sl) (p m : Nat), (∀ s ∈ L, Sl.ok s) → p + m = xs.length → m ≤ (catB L).length → xs.drop p = (catB L).take m →
    stopS xs p = p + endsT L m ∧ (placesS xs p).length = wholes L m ∧ (∀ i (s : Sl), L[i]? = some s → i < wholes L m → ∃ q, (placesS xs p)[i]? = some q ∧ slipK (xs.drop q) = s.1 ∧ slipD (xs.drop q) = s.2) ∧
      (endsT L m ≤ m) ∧ (endsT L m < m → findS (xs.drop (p + endsT L m)) = (0, 90))
  | [], p, m, _, hp, hm, _ => by
    have hm0 : m = 0 := by simpa [catB] using hm
    subst hm0
    refine ⟨by rw [stop_end xs p (by omega)]; rfl, by rw [places_end xs p (by omega)]; rfl, by simp, Nat.le_refl _, ?_⟩
    simp [endsT]
  | s :: L, p, m, hok, hp, hm, hd => by
    have hs := hok s (by simp)
    have hsl := sz_len s
    simp only [catB] at hm hd
    by_cases hf : sz s ≤ m
    · have hd' : xs.drop p = slipB s.1 s.2 ++ (catB L).take (m - sz s) := by rw [hd, List.take_append, hsl, List.take_of_length_le (by omega)]
      have hfind : findS (xs.drop p) = (((sz s : Nat) : Int), 0) := by rw [hd', find_slip s.1 s.2 _ hs.2.1]; unfold sz; congr 1
      have hpl : p < xs.length := by unfold sz at hf; omega
      have hnext : xs.drop (p + sz s) = (catB L).take (m - sz s) := by
        rw [← List.drop_drop, hd', ← hsl, List.drop_left]
      have hm' : m - sz s ≤ (catB L).length := by rw [List.length_append, hsl] at hm; omega
      obtain ⟨i1, i2, i3, i4, i5⟩ := torn_from xs L (p + sz s) (m - sz s) (fun t ht => hok t (by simp [ht])) (by omega) hm' hnext
      have h7 : 0 < sz s := by unfold sz; omega
      have e1 : endsT (s :: L) m = sz s + endsT L (m - sz s) := by simp only [endsT]; rw [if_pos hf]
      have e2 : wholes (s :: L) m = wholes L (m - sz s) + 1 := by simp only [wholes]; rw [if_pos hf]
      rw [e1, e2, places_ok xs p (sz s) hpl hfind h7, stop_ok xs p (sz s) hpl hfind h7]
      refine ⟨by rw [i1]; omega, by simp [i2], ?_, by omega, ?_⟩
      · intro i t ht hi
        cases i with
        | zero =>
          simp at ht
          subst ht
          exact ⟨p, by simp, by rw [hd', slipK_slip _ _ _ hs.2.1], by rw [hd', slipD_slip _ _ _ hs.2.1]⟩
        | succ i =>
          obtain ⟨q, h1, h2⟩ := i3 i t (by simpa using ht) (by omega)
          exact ⟨q, by simpa using h1, h2⟩
      · intro h
        have := i5 (by omega)
        rwa [Nat.add_assoc] at this
    · have e1 : endsT (s :: L) m = 0 := by simp only [endsT]; rw [if_neg hf]
      have e2 : wholes (s :: L) m = 0 := by simp only [wholes]; rw [if_neg hf]
      have hd' : xs.drop p = (slipB s.1 s.2).take m := by rw [hd, List.take_append_of_le_length (by rw [hsl]; omega)]
      have hfind : findS (xs.drop p) = (0, 90) := by rw [hd']; exact find_torn s hs m (by omega)
      rw [e1, e2]
      refine ⟨by rw [stop_bad xs p 90 hfind]; rfl, by rw [places_bad xs p 90 hfind]; rfl, fun i t _ h => by omega, Nat.zero_le _, fun _ => by rw [Nat.add_zero]; exact hfind⟩

/-- The whole of it: bytes that are slips, torn off behind n. -/
theorem torn_all (L : List Sl) (n : Nat) (hok : ∀ s ∈ L, Sl.ok s) (hn : n ≤ (catB L).length) :
    endS ((catB L).take n) (placesS ((catB L).take n) 0) = endsT L n ∧ endE ((catB L).take n) = (if endsT L n = n then 0 else 90) ∧ (placesS ((catB L).take n) 0).length = wholes L n ∧
      (∀ i (s : Sl), L[i]? = some s → i < wholes L n → ∃ q, (placesS ((catB L).take n) 0)[i]? = some q ∧ slipK (((catB L).take n).drop q) = s.1 ∧ slipD (((catB L).take n).drop q) = s.2) := by
  have hl : ((catB L).take n).length = n := by rw [List.length_take]; omega
  obtain ⟨i1, i2, i3, i4, i5⟩ := torn_from ((catB L).take n) L 0 n hok (by omega) hn rfl
  rw [Nat.zero_add] at i1 i5
  have he : endS ((catB L).take n) (placesS ((catB L).take n) 0) = endsT L n := by rw [end_stop, i1]
  refine ⟨he, ?_, i2, i3⟩
  unfold endE
  rw [he, hl]
  by_cases h : endsT L n = n
  · rw [if_pos h, if_pos h]
  · rw [if_neg h, if_neg h, i5 (by omega)]

end Go.Proofs.YtilkbjohekhjcaaDoor
