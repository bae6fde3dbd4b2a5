/-
  What is put is found again: the plain functions undo one another. No Go, no program.
-/
import Derived.Test.YtodhlmnjfkbocaaSpec
namespace Go.Proofs.Ytodhlmnjfkbocaa

theorem digs_form (n : Nat) (h : 0 < n) (h' : n < 16777216) : ∃ d r, digs n = d :: r ∧ d ≠ 0 ∧ numOf (d :: r) = n ∧ (d :: r).length ≤ 3 := by
  unfold digs
  rw [if_neg (by omega)]
  by_cases h1 : n < 256
  · rw [if_pos h1]; exact ⟨_, _, rfl, by omega, by simp [numOf], by simp⟩
  · rw [if_neg h1]
    by_cases h2 : n < 65536
    · rw [if_pos h2]; exact ⟨_, _, rfl, by omega, by simp [numOf]; omega, by simp⟩
    · rw [if_neg h2]; exact ⟨_, _, rfl, by omega, by simp [numOf]; omega, by simp⟩

theorem takeLen_put (n : Nat) (h : n < 16777216) (ys : List Int) : takeLenS (lenB n ++ ys) = ((n : Int), ((lenB n).length : Int), 0) := by
  unfold lenB
  by_cases h1 : n < 128
  · rw [if_pos h1]
    unfold takeLenS
    simp
    omega
  · rw [if_neg h1]
    obtain ⟨d, r, e, hd, hn, hl⟩ := digs_form n (by omega) h
    rw [e]
    generalize hk : (d :: r).length = k at *
    have hk1 : 1 ≤ k := by simp at hk; omega
    unfold takeLenS
    have g0 : ((128 + (k : Int)) :: (d :: r) ++ ys).getD 0 0 = 128 + (k : Int) := by simp
    have g1 : ((128 + (k : Int)) :: (d :: r) ++ ys).getD 1 0 = d := by simp
    have gl : (((128 + (k : Int)) :: (d :: r) ++ ys).length : Int) = 1 + (k : Int) + (ys.length : Int) := by
      have : ((128 + (k : Int)) :: (d :: r) ++ ys).length = 1 + (d :: r).length + ys.length := by simp; omega
      rw [this, hk]; omega
    have gd : (((128 + (k : Int)) :: (d :: r) ++ ys).drop 1).take k = d :: r := by
      have : ((128 + (k : Int)) :: (d :: r) ++ ys).drop 1 = (d :: r) ++ ys := by simp
      rw [this, List.take_append_of_le_length (by omega), List.take_of_length_le (by omega)]
    rw [g0, g1, if_neg (by omega), if_neg (by omega), if_neg (by omega), gl, if_neg (by omega)]
    rw [show ((128 : Int) + (k : Int) - 128).toNat = k by omega, gd, hn, if_neg (by omega)]
    simp at hk
    simp
    omega

/-- The element's bytes, and whatever behind them: its tag and its content's places. -/
theorem find_put (t : Int) (ht : isTagB t = true) (xs rest : List Int) (h : xs.length < 16777216) :
    findS ([t] ++ lenB xs.length ++ xs ++ rest) = (t, 1 + ((lenB xs.length).length : Int), 1 + ((lenB xs.length).length : Int) + (xs.length : Int), 0) := by
  have hT := takeLen_put xs.length h (xs ++ rest)
  have hpos : 1 ≤ (lenB xs.length).length := by unfold lenB; split <;> simp
  have e : [t] ++ lenB xs.length ++ xs ++ rest = t :: (lenB xs.length ++ (xs ++ rest)) := by simp
  rw [e]
  generalize lenB xs.length = lb at *
  unfold findS
  have gl : (t :: (lb ++ (xs ++ rest))).length = 1 + lb.length + xs.length + rest.length := by simp; omega
  rw [gl]
  have g0 : (t :: (lb ++ (xs ++ rest))).getD 0 0 = t := by simp
  have gd : (t :: (lb ++ (xs ++ rest))).drop 1 = lb ++ (xs ++ rest) := by simp
  rw [g0, gd, hT, if_neg (by omega), if_neg (by rw [ht]; simp), if_neg (by omega)]
  simp only []
  rw [if_neg (by simp), if_neg (by omega)]

theorem cut_put (t : Int) (lb xs rest : List Int) : (([t] ++ lb ++ xs ++ rest).take (1 + lb.length + xs.length)).drop (1 + lb.length) = xs := by
  have e : [t] ++ lb ++ xs ++ rest = ([t] ++ lb) ++ (xs ++ rest) := by simp
  have hl : ([t] ++ lb).length = 1 + lb.length := by simp; omega
  rw [e, ← hl, List.take_append, List.take_of_length_le (by omega), List.drop_append]
  simp

/-- No element's bytes begin with those of another one. -/
theorem begins (t u : Int) (ht : isTagB t = true) (hu : isTagB u = true) (xs ys : List Int) (hx : xs.length < 16777216) (hy : ys.length < 16777216) (m : Nat)
    (hm : m = min ([t] ++ lenB xs.length ++ xs).length ([u] ++ lenB ys.length ++ ys).length)
    (he : ([t] ++ lenB xs.length ++ xs).take m = ([u] ++ lenB ys.length ++ ys).take m) : t = u ∧ xs = ys := by
  have key : ∀ (t u : Int) (xs ys : List Int), isTagB t = true → isTagB u = true → xs.length < 16777216 → ys.length < 16777216 →
      ([t] ++ lenB xs.length ++ xs).length ≤ ([u] ++ lenB ys.length ++ ys).length → [t] ++ lenB xs.length ++ xs = ([u] ++ lenB ys.length ++ ys).take ([t] ++ lenB xs.length ++ xs).length → t = u ∧ xs = ys := by
    intro t u xs ys ht hu hx hy hle he
    obtain ⟨rest, hr⟩ : ∃ rest, [u] ++ lenB ys.length ++ ys = [t] ++ lenB xs.length ++ xs ++ rest := by
      generalize [t] ++ lenB xs.length ++ xs = A at he
      generalize [u] ++ lenB ys.length ++ ys = B at he
      exact ⟨B.drop A.length, by have h := List.take_append_drop A.length B; rw [← he] at h; exact h.symm⟩
    have f1 := find_put t ht xs rest hx
    have f2 := find_put u hu ys [] hy
    rw [List.append_nil] at f2
    rw [← hr, f2] at f1
    simp only [Prod.mk.injEq] at f1
    obtain ⟨e1, e2, e3, _⟩ := f1
    refine ⟨e1.symm, ?_⟩
    have c1 := cut_put t (lenB xs.length) xs rest
    have c2 := cut_put u (lenB ys.length) ys []
    rw [List.append_nil] at c2
    rw [← hr] at c1
    have k1 : (lenB ys.length).length = (lenB xs.length).length := by omega
    have k2 : ys.length = xs.length := by omega
    have c3 := c1.symm
    rw [← k1, ← k2] at c3
    exact c3.trans c2
  rcases Nat.le_total ([t] ++ lenB xs.length ++ xs).length ([u] ++ lenB ys.length ++ ys).length with h | h
  · have e : m = ([t] ++ lenB xs.length ++ xs).length := by omega
    rw [e, List.take_of_length_le (Nat.le_refl _)] at he
    exact key t u xs ys ht hu hx hy h he
  · have e : m = ([u] ++ lenB ys.length ++ ys).length := by omega
    rw [e, List.take_of_length_le (Nat.le_refl ([u] ++ lenB ys.length ++ ys).length)] at he
    obtain ⟨a, b⟩ := key u t ys xs hu ht hy hx h he.symm
    exact ⟨a.symm, b.symm⟩

end Go.Proofs.Ytodhlmnjfkbocaa
