/-
  The calendar, plainly: leap years, the days of months, the days ahead of a year and of a month, and the one place in the calendar that a day has. No Go, no program.
-/
namespace Go.Proofs.YtnpimjfdidbdfabDoor

/-- A leap year, with the remainders of Go. -/
def leapB (y : Int) : Bool := (y.tmod 4 == 0 && y.tmod 100 != 0) || y.tmod 400 == 0

/-- One day more in a leap year. -/
def lp (y : Int) : Int := if leapB y then 1 else 0

theorem tmod_zero (y k : Int) : y.tmod k = 0 ↔ y % k = 0 := by
  rw [← Int.dvd_iff_tmod_eq_zero, ← Int.dvd_iff_emod_eq_zero]

theorem leapB_iff (y : Int) : leapB y = true ↔ (y % 4 = 0 ∧ y % 100 ≠ 0) ∨ y % 400 = 0 := by
  unfold leapB
  simp [tmod_zero]

theorem lp_cases (y : Int) : (((y % 4 = 0 ∧ y % 100 ≠ 0) ∨ y % 400 = 0) ∧ lp y = 1) ∨ (¬ ((y % 4 = 0 ∧ y % 100 ≠ 0) ∨ y % 400 = 0) ∧ lp y = 0) := by
  unfold lp
  cases h : leapB y with
  | true => exact .inl ⟨(leapB_iff y).1 h, rfl⟩
  | false =>
    refine .inr ⟨fun h' => ?_, rfl⟩
    rw [(leapB_iff y).2 h'] at h
    exact Bool.noConfusion h

theorem lp_01 (y : Int) : 0 ≤ lp y ∧ lp y ≤ 1 := by
  unfold lp; split <;> omega

theorem lp_true {y : Int} (h : leapB y = true) : lp y = 1 := by unfold lp; rw [if_pos h]
theorem lp_false {y : Int} (h : leapB y = false) : lp y = 0 := by unfold lp; rw [h]; rfl

/-- The days of a month. -/
def dim (y m : Int) : Int :=
  if m = 1 then 31 else if m = 2 then 28 + lp y else if m = 3 then 31 else if m = 4 then 30 else if m = 5 then 31 else if m = 6 then 30
  else if m = 7 then 31 else if m = 8 then 31 else if m = 9 then 30 else if m = 10 then 31 else if m = 11 then 30 else if m = 12 then 31 else 0

/-- The days of a year ahead of a month. -/
def cum (y m : Int) : Int :=
  if m = 1 then 0 else if m = 2 then 31 else if m = 3 then 59 + lp y else if m = 4 then 90 + lp y else if m = 5 then 120 + lp y else if m = 6 then 151 + lp y
  else if m = 7 then 181 + lp y else if m = 8 then 212 + lp y else if m = 9 then 243 + lp y else if m = 10 then 273 + lp y else if m = 11 then 304 + lp y else if m = 12 then 334 + lp y else 365 + lp y

theorem m_cases {m : Int} (h1 : 1 ≤ m) (h2 : m ≤ 12) : m = 1 ∨ m = 2 ∨ m = 3 ∨ m = 4 ∨ m = 5 ∨ m = 6 ∨ m = 7 ∨ m = 8 ∨ m = 9 ∨ m = 10 ∨ m = 11 ∨ m = 12 := by omega

theorem dim_out (y m : Int) (h : m < 1 ∨ 12 < m) : dim y m = 0 := by
  unfold dim
  repeat rw [if_neg (by omega)]

theorem dim_in (y m : Int) (h1 : 1 ≤ m) (h2 : m ≤ 12) : 28 ≤ dim y m ∧ dim y m ≤ 31 := by
  have := lp_01 y
  rcases m_cases h1 h2 with rfl | rfl | rfl | rfl | rfl | rfl | rfl | rfl | rfl | rfl | rfl | rfl <;> simp [dim] <;> omega

theorem cum_succ (y m : Int) (h1 : 1 ≤ m) (h2 : m ≤ 12) : cum y (m + 1) = cum y m + dim y m := by
  rcases m_cases h1 h2 with rfl | rfl | rfl | rfl | rfl | rfl | rfl | rfl | rfl | rfl | rfl | rfl <;> simp [dim, cum] <;> omega

theorem cum_one (y : Int) : cum y 1 = 0 := rfl
theorem cum_13 (y : Int) : cum y 13 = 365 + lp y := rfl

theorem cum_in (y m : Int) (h1 : 1 ≤ m) (h2 : m ≤ 13) : 0 ≤ cum y m ∧ cum y m ≤ 366 := by
  have := lp_01 y
  by_cases h : m = 13
  · subst h; rw [cum_13]; omega
  · rcases m_cases h1 (by omega : m ≤ 12) with rfl | rfl | rfl | rfl | rfl | rfl | rfl | rfl | rfl | rfl | rfl | rfl <;> simp [cum] <;> omega

theorem cum_mono (y m k : Int) (h1 : 1 ≤ m) (h2 : m ≤ k) (h3 : k ≤ 13) : cum y m ≤ cum y k := by
  have hl := lp_01 y
  obtain ⟨d, rfl⟩ : ∃ d : Nat, k = m + d := ⟨(k - m).toNat, by omega⟩
  induction d with
  | zero => simp
  | succ d ih =>
    have := ih (by omega) (by omega)
    have e := cum_succ y (m + d) (by omega) (by omega)
    have := dim_in y (m + d) (by omega) (by omega)
    rw [show m + ((d + 1 : Nat) : Int) = m + d + 1 by omega, e]
    omega

/-- The days from 1950-01-01 to a year's first day. -/
def dby (y : Int) : Int := 365 * (y - 1950) + ((y - 1) / 4 - (y - 1) / 100 + (y - 1) / 400 - 472)

theorem dby_succ (y : Int) : dby (y + 1) = dby y + 365 + lp y := by
  unfold dby
  rcases lp_cases y with ⟨h, e⟩ | ⟨h, e⟩ <;> rw [e] <;> omega

theorem dby_cycle (y : Int) : dby (y + 400) = dby y + 146097 := by unfold dby; omega
theorem dby_cycles (y k : Int) : dby (y + 400 * k) = dby y + 146097 * k := by unfold dby; omega
theorem dby_1950 : dby 1950 = 0 := by decide
theorem dby_1970 : dby 1970 = 7305 := by decide
theorem dby_10000 : dby 10000 = 2940202 := by decide
theorem lp_400 (y k : Int) : lp (y + 400 * k) = lp y := by
  rcases lp_cases y with ⟨h, e⟩ | ⟨h, e⟩ <;> rcases lp_cases (y + 400 * k) with ⟨h', e'⟩ | ⟨h', e'⟩ <;> omega

theorem dby_mono (a b : Int) (h : a ≤ b) : dby a ≤ dby b := by unfold dby; omega
theorem dby_strict (a b : Int) (h : a < b) : dby a + 365 ≤ dby b := by unfold dby; omega

theorem dby_in (y : Int) (h1 : 1950 ≤ y) (h2 : y ≤ 10000) : 0 ≤ dby y ∧ dby y ≤ 2940202 := by
  have := dby_mono 1950 y h1
  have := dby_mono y 10000 h2
  rw [dby_1950] at *
  rw [dby_10000] at *
  omega

theorem year_one {y z d : Int} (h1 : dby y ≤ d) (h2 : d < dby (y + 1)) (h3 : dby z ≤ d) (h4 : d < dby (z + 1)) : y = z := by
  rcases Int.lt_trichotomy y z with h | h | h
  · have := dby_mono (y + 1) z (by omega); omega
  · exact h
  · have := dby_mono (z + 1) y (by omega); omega

theorem month_one {y m k r : Int} (m1 : 1 ≤ m) (m2 : m ≤ 12) (k1 : 1 ≤ k) (k2 : k ≤ 12) (h1 : cum y m ≤ r) (h2 : r < cum y (m + 1)) (h3 : cum y k ≤ r) (h4 : r < cum y (k + 1)) : m = k := by
  rcases Int.lt_trichotomy m k with h | h | h
  · have := cum_mono y (m + 1) k (by omega) (by omega) (by omega); omega
  · exact h
  · have := cum_mono y (k + 1) m (by omega) (by omega) (by omega); omega

/-- The place in the calendar of the day that lies so many days behind 1950-01-01. -/
structure AtDay (d y m q : Int) : Prop where
  y1 : 1950 ≤ y
  y2 : y ≤ 9999
  m1 : 1 ≤ m
  m2 : m ≤ 12
  q1 : 1 ≤ q
  q2 : q ≤ dim y m
  eq : d = dby y + cum y m + q - 1

theorem AtDay.year {d y m q : Int} (h : AtDay d y m q) : dby y ≤ d ∧ d < dby (y + 1) := by
  have c1 := cum_in y m h.m1 (by have := h.m2; omega)
  have c2 := cum_mono y (m + 1) 13 (by have := h.m1; omega) (by have := h.m2; omega) (by omega)
  have e := cum_succ y m h.m1 h.m2
  have s := dby_succ y
  have := h.q1
  have := h.q2
  have := h.eq
  rw [cum_13] at c2
  omega

theorem AtDay.one {d y m q y' m' q' : Int} (h : AtDay d y m q) (k : AtDay d y' m' q') : y = y' ∧ m = m' ∧ q = q' := by
  obtain rfl : y = y' := year_one h.year.1 h.year.2 k.year.1 k.year.2
  have e1 := cum_succ y m h.m1 h.m2
  have e2 := cum_succ y m' k.m1 k.m2
  have h1 := h.eq
  have h2 := k.eq
  have a1 := h.q1
  have a2 := h.q2
  have a3 := k.q1
  have a4 := k.q2
  obtain rfl : m = m' := month_one (y := y) (r := d - dby y) h.m1 h.m2 k.m1 k.m2 (by omega) (by omega) (by omega) (by omega)
  exact ⟨rfl, rfl, by omega⟩

theorem dim_pos (y m : Int) (h1 : 1 ≤ m) (h2 : m ≤ 12) : 1 ≤ dim y m := by have := dim_in y m h1 h2; omega

theorem month_ex (y r : Int) (h0 : 0 ≤ r) (h1 : r < 365 + lp y) : ∃ m, 1 ≤ m ∧ m ≤ 12 ∧ cum y m ≤ r ∧ r < cum y (m + 1) := by
  have key : ∀ n : Nat, n ≤ 12 → (∃ m, 1 ≤ m ∧ m ≤ 12 ∧ cum y m ≤ r ∧ r < cum y (m + 1)) ∨ cum y (1 + n) ≤ r := by
    intro n
    induction n with
    | zero => intro _; right; rw [show (1 : Int) + ((0 : Nat) : Int) = 1 by omega, cum_one]; exact h0
    | succ n ih =>
      intro hn
      rcases ih (by omega) with h | h
      · exact .inl h
      · by_cases hc : r < cum y (1 + n + 1)
        · exact .inl ⟨1 + n, by omega, by omega, h, hc⟩
        · right
          rw [show (1 : Int) + ((n + 1 : Nat) : Int) = 1 + n + 1 by omega]
          omega
  rcases key 12 (by omega) with h | h
  · exact h
  · rw [show (1 : Int) + ((12 : Nat) : Int) = 13 by omega, cum_13] at h
    omega

theorem year_ex (d : Int) (h0 : 0 ≤ d) (h1 : d < 2940202) : ∃ y, 1950 ≤ y ∧ y ≤ 9999 ∧ dby y ≤ d ∧ d < dby (y + 1) := by
  have key : ∀ n : Nat, n ≤ 8050 → (∃ y, 1950 ≤ y ∧ y ≤ 9999 ∧ dby y ≤ d ∧ d < dby (y + 1)) ∨ dby (1950 + n) ≤ d := by
    intro n
    induction n with
    | zero => intro _; right; rw [show (1950 : Int) + ((0 : Nat) : Int) = 1950 by omega, dby_1950]; exact h0
    | succ n ih =>
      intro hn
      rcases ih (by omega) with h | h
      · exact .inl h
      · by_cases hc : d < dby (1950 + n + 1)
        · exact .inl ⟨1950 + n, by omega, by omega, h, hc⟩
        · right
          rw [show (1950 : Int) + ((n + 1 : Nat) : Int) = 1950 + n + 1 by omega]
          omega
  rcases key 8050 (by omega) with h | h
  · exact h
  · rw [show (1950 : Int) + ((8050 : Nat) : Int) = 10000 by omega, dby_10000] at h
    omega

theorem day_ex (d : Int) (h0 : 0 ≤ d) (h1 : d < 2940202) : ∃ y m q, AtDay d y m q := by
  obtain ⟨y, y1, y2, a, b⟩ := year_ex d h0 h1
  have s := dby_succ y
  obtain ⟨m, m1, m2, c, e⟩ := month_ex y (d - dby y) (by omega) (by omega)
  have := cum_succ y m m1 m2
  exact ⟨y, m, d - dby y - cum y m + 1, y1, y2, m1, m2, by omega, by omega, by omega⟩

theorem AtDay.days {d y m q : Int} (h : AtDay d y m q) : 0 ≤ d ∧ d < 2940202 := by
  obtain ⟨a, b⟩ := h.year
  have := dby_in y h.y1 (by have := h.y2; omega)
  have := dby_mono (y + 1) 10000 (by have := h.y2; omega)
  rw [dby_10000] at this
  omega

end Go.Proofs.YtnpimjfdidbdfabDoor
