/-
  Numbers told by digits to a base, the lowest first: their value, sums, cuts, and that digits without noughts at the end are told by the value. Plain facts.
-/
import Derived.WalkKit
namespace Go.Proofs.YtcijjmncilciiaaDoor

/-- The number that digits to a base say. -/
def val (b : Int) : List Int → Int
  | [] => 0
  | x :: r => x + b * val b r

def pw (b : Int) : Nat → Int
  | 0 => 1
  | i + 1 => b * pw b i

def Dg (b : Int) (xs : List Int) : Prop := ∀ x ∈ xs, 0 ≤ x ∧ x < b

/-- No nought at the end. -/
def Tr (xs : List Int) : Prop := xs ≠ [] → xs.getD (xs.length - 1) 0 ≠ 0

theorem pw_pos {b : Int} (hb : 0 < b) : ∀ i, 0 < pw b i
  | 0 => by simp [pw]
  | i + 1 => by rw [pw]; exact Int.mul_pos hb (pw_pos hb i)

theorem pw_add (b : Int) : ∀ i j, pw b (i + j) = pw b i * pw b j
  | i, 0 => by simp [pw]
  | i, j + 1 => by rw [← Nat.add_assoc, pw, pw, pw_add b i j]; grind

theorem pw_mono {b : Int} (hb : 1 ≤ b) (i j : Nat) (h : i ≤ j) : pw b i ≤ pw b j := by
  obtain ⟨k, rfl⟩ := Nat.le.dest h
  rw [pw_add]
  have h1 : 1 ≤ pw b k := by have := pw_pos (show 0 < b by omega) k; omega
  have h2 := pw_pos (show 0 < b by omega) i
  have := Int.mul_le_mul_of_nonneg_left h1 (show 0 ≤ pw b i by omega)
  omega

theorem val_append (b : Int) (xs ys : List Int) : val b (xs ++ ys) = val b xs + pw b xs.length * val b ys := by
  induction xs with
  | nil => simp [val, pw]
  | cons x r ih => simp only [List.cons_append, val, List.length_cons, pw, ih]; grind

theorem val_split (b : Int) (xs : List Int) (i : Nat) (h : i ≤ xs.length) : val b xs = val b (xs.take i) + pw b i * val b (xs.drop i) := by
  have := val_append b (xs.take i) (xs.drop i)
  rwa [List.take_append_drop, List.length_take, Nat.min_eq_left h] at this

theorem val_set (b : Int) (xs : List Int) (i : Nat) (u : Int) (h : i < xs.length) : val b (xs.set i u) = val b xs + (u - xs.getD i 0) * pw b i := by
  induction xs generalizing i with
  | nil => simp at h
  | cons x r ih =>
    cases i with
    | zero => simp [val, pw]; omega
    | succ i =>
      have := ih i (by simpa using h)
      simp only [List.set_cons_succ, val, pw, List.getD_cons_succ, this]
      grind

theorem val_take_succ (b : Int) (xs : List Int) (i : Nat) : val b (xs.take (i + 1)) = val b (xs.take i) + xs.getD i 0 * pw b i := by
  induction xs generalizing i with
  | nil => simp [val]
  | cons x r ih =>
    cases i with
    | zero => simp [val, pw]
    | succ i =>
      have := ih i
      simp only [List.take_succ_cons, val, pw, List.getD_cons_succ, this]
      grind

theorem val_nonneg {b : Int} (hb : 0 < b) {xs : List Int} (h : Dg b xs) : 0 ≤ val b xs := by
  induction xs with
  | nil => simp [val]
  | cons x r ih =>
    have h1 := h x (by simp)
    have h2 := ih (fun y hy => h y (by simp [hy]))
    rw [val]
    have := Int.mul_nonneg (show 0 ≤ b by omega) h2
    omega

theorem val_lt {b : Int} (hb : 0 < b) {xs : List Int} (h : Dg b xs) : val b xs < pw b xs.length := by
  induction xs with
  | nil => simp [val, pw]
  | cons x r ih =>
    have h1 := h x (by simp)
    have h2 := ih (fun y hy => h y (by simp [hy]))
    rw [val, List.length_cons, pw]
    have := Int.mul_le_mul_of_nonneg_left (show val b r + 1 ≤ pw b r.length by omega) (show 0 ≤ b by omega)
    rw [Int.mul_add] at this
    omega

theorem Dg.take {b : Int} {xs : List Int} (h : Dg b xs) (i : Nat) : Dg b (xs.take i) := fun x hx => h x (List.mem_of_mem_take hx)
theorem Dg.drop {b : Int} {xs : List Int} (h : Dg b xs) (i : Nat) : Dg b (xs.drop i) := fun x hx => h x (List.mem_of_mem_drop hx)
theorem Dg.at {b : Int} (hb : 0 < b) {xs : List Int} (h : Dg b xs) (i : Nat) : 0 ≤ xs.getD i 0 ∧ xs.getD i 0 < b := by
  rcases Nat.lt_or_ge i xs.length with hi | hi
  · rw [List.getD, List.getElem?_eq_getElem hi]; exact h _ (List.getElem_mem _)
  · rw [List.getD, List.getElem?_eq_none hi]; exact ⟨Int.le_refl _, hb⟩
theorem Dg.set {b : Int} {xs : List Int} (h : Dg b xs) (i : Nat) (u : Int) (hu : 0 ≤ u ∧ u < b) : Dg b (xs.set i u) := by
  intro x hx
  rcases List.mem_or_eq_of_mem_set hx with hx | rfl
  · exact h x hx
  · exact hu
theorem Dg.append {b : Int} {xs ys : List Int} (h : Dg b xs) (k : Dg b ys) : Dg b (xs ++ ys) := by
  intro x hx
  rcases List.mem_append.1 hx with hx | hx
  · exact h x hx
  · exact k x hx

theorem val_inj {b : Int} (hb : 0 < b) {xs ys : List Int} (hx : Dg b xs) (hy : Dg b ys) (hl : xs.length = ys.length) (hv : val b xs = val b ys) : xs = ys := by
  induction xs generalizing ys with
  | nil => cases ys with | nil => rfl | cons y s => simp at hl
  | cons x r ih =>
    cases ys with
    | nil => simp at hl
    | cons y s =>
      have h1 := hx x (by simp)
      have h2 := hy y (by simp)
      simp only [val] at hv
      have e1 : (x + b * val b r) % b = x := by rw [Int.add_mul_emod_self_left]; exact Int.emod_eq_of_lt h1.1 h1.2
      have e2 : (y + b * val b s) % b = y := by rw [Int.add_mul_emod_self_left]; exact Int.emod_eq_of_lt h2.1 h2.2
      have e3 : x = y := by rw [← e1, ← e2, hv]
      subst e3
      have e4 : b * val b r = b * val b s := by omega
      have e5 := Int.eq_of_mul_eq_mul_left (show b ≠ 0 by omega) e4
      rw [ih (fun z hz => hx z (by simp [hz])) (fun z hz => hy z (by simp [hz])) (by simpa using hl) e5]

/-- Digits above a bound of the value are noughts. -/
theorem val_small {b : Int} (hb : 0 < b) {xs : List Int} (hx : Dg b xs) (i : Nat) (hv : val b xs < pw b i) : val b (xs.drop i) = 0 := by
  rcases Nat.le_total xs.length i with h | h
  · rw [List.drop_eq_nil_of_le h]; rfl
  · have h1 := val_split b xs i h
    have h2 := val_nonneg hb (hx.take i)
    have h3 := val_nonneg hb (hx.drop i)
    have h4 := pw_pos hb i
    rcases Int.lt_or_le 0 (val b (xs.drop i)) with h5 | h5
    · exfalso
      have := Int.mul_le_mul_of_nonneg_left (show 1 ≤ val b (xs.drop i) by omega) (show 0 ≤ pw b i by omega)
      omega
    · omega

theorem val_zero {b : Int} (hb : 0 < b) {xs : List Int} (hx : Dg b xs) (hv : val b xs = 0) : ∀ i, xs.getD i 0 = 0 := by
  induction xs with
  | nil => intro i; simp
  | cons x r ih =>
    have h1 := hx x (by simp)
    have h2 := val_nonneg hb (xs := r) (fun z hz => hx z (by simp [hz]))
    rw [val] at hv
    have h3 := Int.mul_nonneg (show 0 ≤ b by omega) h2
    have h4 : b * val b r = 0 := by omega
    have h5 : val b r = 0 := by
      rcases Int.mul_eq_zero.1 h4 with h | h
      · omega
      · exact h
    intro i
    cases i with
    | zero => simp; omega
    | succ i => simpa using ih (fun z hz => hx z (by simp [hz])) h5 i

theorem val_last (b : Int) (xs : List Int) (h : xs ≠ []) : val b xs = val b (xs.take (xs.length - 1)) + xs.getD (xs.length - 1) 0 * pw b (xs.length - 1) := by
  have h1 : 0 < xs.length := by cases xs with | nil => exact absurd rfl h | cons a r => simp
  have := val_take_succ b xs (xs.length - 1)
  rwa [show xs.length - 1 + 1 = xs.length by omega, List.take_length] at this

theorem tr_low {b : Int} (hb : 0 < b) {xs : List Int} (hx : Dg b xs) (ht : Tr xs) (h : xs ≠ []) : pw b (xs.length - 1) ≤ val b xs := by
  rw [val_last b xs h]
  have h1 := val_nonneg hb (hx.take (xs.length - 1))
  have h2 := (hx.at hb (xs.length - 1)).1
  have h3 := ht h
  have h4 := pw_pos hb (xs.length - 1)
  have := Int.mul_le_mul_of_nonneg_right (show 1 ≤ xs.getD (xs.length - 1) 0 by omega) (show 0 ≤ pw b (xs.length - 1) by omega)
  omega

theorem tr_len_lt {b : Int} (hb : 0 < b) {xs ys : List Int} (hx : Dg b xs) (hy : Dg b ys) (ht : Tr ys) (h : xs.length < ys.length) : val b xs < val b ys := by
  have h1 := val_lt hb hx
  have h2 := pw_mono (show 1 ≤ b by omega) xs.length (ys.length - 1) (by omega)
  have h3 := tr_low hb hy ht (by intro h'; subst h'; simp at h)
  omega

theorem tr_inj {b : Int} (hb : 0 < b) {xs ys : List Int} (hx : Dg b xs) (hy : Dg b ys) (tx : Tr xs) (ty : Tr ys) (hv : val b xs = val b ys) : xs = ys := by
  rcases Nat.lt_trichotomy xs.length ys.length with h | h | h
  · have := tr_len_lt hb hx hy ty h; omega
  · exact val_inj hb hx hy h hv
  · have := tr_len_lt hb hy hx tx h; omega

/-- Without the noughts at the end. -/
def trm : List Int → List Int
  | [] => []
  | x :: r => if trm r = [] ∧ x = 0 then [] else x :: trm r

theorem trm_take : ∀ xs : List Int, ∃ m, m ≤ xs.length ∧ trm xs = xs.take m
  | [] => ⟨0, Nat.le_refl _, rfl⟩
  | x :: r => by
    obtain ⟨m, hm, he⟩ := trm_take r
    rw [trm]
    split
    · exact ⟨0, Nat.zero_le _, by simp⟩
    · exact ⟨m + 1, by simpa using hm, by rw [he]; simp⟩

theorem trm_val (b : Int) : ∀ xs : List Int, val b (trm xs) = val b xs
  | [] => rfl
  | x :: r => by
    have ih := trm_val b r
    rw [trm]
    split
    · rename_i h
      show 0 = x + b * val b r
      rw [← ih, h.1, h.2]
      simp [val]
    · rw [val, val, ih]

theorem trm_dg {b : Int} {xs : List Int} (h : Dg b xs) : Dg b (trm xs) := by
  obtain ⟨m, _, he⟩ := trm_take xs
  rw [he]
  exact h.take m

theorem trm_len (xs : List Int) : (trm xs).length ≤ xs.length := by
  obtain ⟨m, _, he⟩ := trm_take xs
  rw [he, List.length_take]
  omega

theorem trm_tr : ∀ xs : List Int, Tr (trm xs)
  | [] => fun h => absurd rfl h
  | x :: r => by
    have ih := trm_tr r
    rw [trm]
    split
    · exact fun h => absurd rfl h
    · rename_i h
      intro _
      cases hr : trm r with
      | nil => simp [hr] at h ⊢; exact h
      | cons y s =>
        have := ih (by simp [hr])
        rw [hr] at this
        simpa using this

theorem trm_of {b : Int} (hb : 0 < b) {xs ys : List Int} (hx : Dg b xs) (hy : Dg b ys) (ht : Tr ys) (hv : val b ys = val b xs) : ys = trm xs :=
  tr_inj hb hy (trm_dg hx) ht (trm_tr xs) (by rw [trm_val]; exact hv)

theorem trm_self {b : Int} (hb : 0 < b) {xs : List Int} (hx : Dg b xs) (ht : Tr xs) : trm xs = xs := (trm_of hb hx hx ht rfl).symm

/-- -1, 0 or 1. -/
def cmpI (x y : Int) : Int := if x < y then -1 else if y < x then 1 else 0

theorem cmpI_top {b : Int} (hb : 0 < b) {xs ys : List Int} (hx : Dg b xs) (hy : Dg b ys) (k : Nat) (hd : xs.drop (k + 1) = ys.drop (k + 1)) (hk : k < xs.length) (hl : xs.length = ys.length) (h : xs.getD k 0 < ys.getD k 0) : val b xs < val b ys := by
  have e1 := val_split b xs (k + 1) (by omega)
  have e2 := val_split b ys (k + 1) (by omega)
  rw [hd] at e1
  have e3 := val_take_succ b xs k
  have e4 := val_take_succ b ys k
  have h1 := val_lt hb (hx.take k)
  rw [List.length_take, Nat.min_eq_left (by omega)] at h1
  have h2 := val_nonneg hb (hy.take k)
  have h3 := pw_pos hb k
  have := Int.mul_le_mul_of_nonneg_right (show xs.getD k 0 + 1 ≤ ys.getD k 0 by omega) (show 0 ≤ pw b k by omega)
  rw [Int.add_mul] at this
  omega

end Go.Proofs.YtcijjmncilciiaaDoor
