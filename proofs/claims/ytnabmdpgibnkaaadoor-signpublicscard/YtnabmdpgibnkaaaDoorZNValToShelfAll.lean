/-
  Numbers told by digits to a base, the lowest first: their value, sums, cuts, and that digits without noughts at the end are told by the value. Plain facts.
  Numbers of 256 bits as 32 bytes, the highest first, and as words. Plain facts.
  Where the library's functions lie in this program's text, as the guide's tools lay-shelf and lay-plain print it.
-/
import Derived.WalkKit
import Derived.Test.YtnabmdpgibnkaaaDoorZCvM
import Derived.Shelf.Bits.Mul64
import Derived.Test.YtnabmdpgibnkaaaDoorProg
namespace Go.Proofs.YtnabmdpgibnkaaaDoor

/-- The number that digits to a base say. -/
def val (b : Int) : List Int → Int
  | [] => 0
  | x :: r => x + b * val b r

def pw (b : Int) : Nat → Int
  | 0 => 1
  | i + 1 => b * pw b i

def Dg (b : Int) (xs : List Int) : Prop := ∀ x ∈ xs, 0 ≤ x ∧ x < b

/-- No nought at the end. -/
def Tr (xs : List Int) : Prop := xs ≠ [] → xs.getD (xs.length - 1) 0 ≠ 0

theorem pw_pos {b : Int} (hb : 0 < b) : ∀ i, 0 < pw b i
  | 0 => by simp [pw]
  | i + 1 => by rw [pw]; exact Int.mul_pos hb (pw_pos hb i)

theorem pw_add (b : Int) : ∀ i j, pw b (i + j) = pw b i * pw b j
  | i, 0 => by simp [pw]
  | i, j + 1 => by rw [← Nat.add_assoc, pw, pw, pw_add b i j]; grind

theorem pw_mono {b : Int} (hb : 1 ≤ b) (i j : Nat) (h : i ≤ j) : pw b i ≤ pw b j := by
  obtain ⟨k, rfl⟩ := Nat.le.dest h
  rw [pw_add]
  have h1 : 1 ≤ pw b k := by have := pw_pos (show 0 < b by omega) k; omega
  have h2 := pw_pos (show 0 < b by omega) i
  have := Int.mul_le_mul_of_nonneg_left h1 (show 0 ≤ pw b i by omega)
  omega

theorem val_append (b : Int) (xs ys : List Int) : val b (xs ++ ys) = val b xs + pw b xs.length * val b ys := by
  induction xs with
  | nil => simp [val, pw]
  | cons x r ih => simp only [List.cons_append, val, List.length_cons, pw, ih]; grind

theorem val_split (b : Int) (xs : List Int) (i : Nat) (h : i ≤ xs.length) : val b xs = val b (xs.take i) + pw b i * val b (xs.drop i) := by
  have := val_append b (xs.take i) (xs.drop i)
  rwa [List.take_append_drop, List.length_take, Nat.min_eq_left h] at this

theorem val_set (b : Int) (xs : List Int) (i : Nat) (u : Int) (h : i < xs.length) : val b (xs.set i u) = val b xs + (u - xs.getD i 0) * pw b i := by
  induction xs generalizing i with
  | nil => simp at h
  | cons x r ih =>
    cases i with
    | zero => simp [val, pw]; omega
    | succ i =>
      have := ih i (by simpa using h)
      simp only [List.set_cons_succ, val, pw, List.getD_cons_succ, this]
      grind

theorem val_take_succ (b : Int) (xs : List Int) (i : Nat) : val b (xs.take (i + 1)) = val b (xs.take i) + xs.getD i 0 * pw b i := by
  induction xs generalizing i with
  | nil => simp [val]
  | cons x r ih =>
    cases i with
    | zero => simp [val, pw]
    | succ i =>
      have := ih i
      simp only [List.take_succ_cons, val, pw, List.getD_cons_succ, this]
      grind

theorem val_nonneg {b : Int} (hb : 0 < b) {xs : List Int} (h : Dg b xs) : 0 ≤ val b xs := by
  induction xs with
  | nil => simp [val]
  | cons x r ih =>
    have h1 := h x (by simp)
    have h2 := ih (fun y hy => h y (by simp [hy]))
    rw [val]
    have := Int.mul_nonneg (show 0 ≤ b by omega) h2
    omega

theorem val_lt {b : Int} (hb : 0 < b) {xs : List Int} (h : Dg b xs) : val b xs < pw b xs.length := by
  induction xs with
  | nil => simp [val, pw]
  | cons x r ih =>
    have h1 := h x (by simp)
    have h2 := ih (fun y hy => h y (by simp [hy]))
    rw [val, List.length_cons, pw]
    have := Int.mul_le_mul_of_nonneg_left (show val b r + 1 ≤ pw b r.length by omega) (show 0 ≤ b by omega)
    rw [Int.mul_add] at this
    omega

theorem Dg.take {b : Int} {xs : List Int} (h : Dg b xs) (i : Nat) : Dg b (xs.take i) := fun x hx => h x (List.mem_of_mem_take hx)
theorem Dg.drop {b : Int} {xs : List Int} (h : Dg b xs) (i : Nat) : Dg b (xs.drop i) := fun x hx => h x (List.mem_of_mem_drop hx)
theorem Dg.at {b : Int} (hb : 0 < b) {xs : List Int} (h : Dg b xs) (i : Nat) : 0 ≤ xs.getD i 0 ∧ xs.getD i 0 < b := by
  rcases Nat.lt_or_ge i xs.length with hi | hi
  · rw [List.getD, List.getElem?_eq_getElem hi]; exact h _ (List.getElem_mem _)
  · rw [List.getD, List.getElem?_eq_none hi]; exact ⟨Int.le_refl _, hb⟩
theorem Dg.set {b : Int} {xs : List Int} (h : Dg b xs) (i : Nat) (u : Int) (hu : 0 ≤ u ∧ u < b) : Dg b (xs.set i u) := by
  intro x hx
  rcases List.mem_or_eq_of_mem_set hx with hx | rfl
  · exact h x hx
  · exact hu
theorem Dg.append {b : Int} {xs ys : List Int} (h : Dg b xs) (k : Dg b ys) : Dg b (xs ++ ys) := by
  intro x hx
  rcases List.mem_append.1 hx with hx | hx
  · exact h x hx
  · exact k x hx

theorem val_inj {b : Int} (hb : 0 < b) {xs ys : List Int} (hx : Dg b xs) (hy : Dg b ys) (hl : xs.length = ys.length) (hv : val b xs = val b ys) : xs = ys := by
  induction xs generalizing ys with
  | nil => cases ys with | nil => rfl | cons y s => simp at hl
  | cons x r ih =>
    cases ys with
    | nil => simp at hl
    | cons y s =>
      have h1 := hx x (by simp)
      have h2 := hy y (by simp)
      simp only [val] at hv
      have e1 : (x + b * val b r) % b = x := by rw [Int.add_mul_emod_self_left]; exact Int.emod_eq_of_lt h1.1 h1.2
      have e2 : (y + b * val b s) % b = y := by rw [Int.add_mul_emod_self_left]; exact Int.emod_eq_of_lt h2.1 h2.2
      have e3 : x = y := by rw [← e1, ← e2, hv]
      subst e3
      have e4 : b * val b r = b * val b s := by omega
      have e5 := Int.eq_of_mul_eq_mul_left (show b ≠ 0 by omega) e4
      rw [ih (fun z hz => hx z (by simp [hz])) (fun z hz => hy z (by simp [hz])) (by simpa using hl) e5]

/-- Digits above a bound of the value are noughts. -/
theorem val_small {b : Int} (hb : 0 < b) {xs : List Int} (hx : Dg b xs) (i : Nat) (hv : val b xs < pw b i) : val b (xs.drop i) = 0 := by
  rcases Nat.le_total xs.length i with h | h
  · rw [List.drop_eq_nil_of_le h]; rfl
  · have h1 := val_split b xs i h
    have h2 := val_nonneg hb (hx.take i)
    have h3 := val_nonneg hb (hx.drop i)
    have h4 := pw_pos hb i
    rcases Int.lt_or_le 0 (val b (xs.drop i)) with h5 | h5
    · exfalso
      have := Int.mul_le_mul_of_nonneg_left (show 1 ≤ val b (xs.drop i) by omega) (show 0 ≤ pw b i by omega)
      omega
    · omega

theorem val_zero {b : Int} (hb : 0 < b) {xs : List Int} (hx : Dg b xs) (hv : val b xs = 0) : ∀ i, xs.getD i 0 = 0 := by
  induction xs with
  | nil => intro i; simp
  | cons x r ih =>
    have h1 := hx x (by simp)
    have h2 := val_nonneg hb (xs := r) (fun z hz => hx z (by simp [hz]))
    rw [val] at hv
    have h3 := Int.mul_nonneg (show 0 ≤ b by omega) h2
    have h4 : b * val b r = 0 := by omega
    have h5 : val b r = 0 := by
      rcases Int.mul_eq_zero.1 h4 with h | h
      · omega
      · exact h
    intro i
    cases i with
    | zero => simp; omega
    | succ i => simpa using ih (fun z hz => hx z (by simp [hz])) h5 i

theorem val_last (b : Int) (xs : List Int) (h : xs ≠ []) : val b xs = val b (xs.take (xs.length - 1)) + xs.getD (xs.length - 1) 0 * pw b (xs.length - 1) := by
  have h1 : 0 < xs.length := by cases xs with | nil => exact absurd rfl h | cons a r => simp
  have := val_take_succ b xs (xs.length - 1)
  rwa [show xs.length - 1 + 1 = xs.length by omega, List.take_length] at this

theorem tr_low {b : Int} (hb : 0 < b) {xs : List Int} (hx : Dg b xs) (ht : Tr xs) (h : xs ≠ []) : pw b (xs.length - 1) ≤ val b xs := by
  rw [val_last b xs h]
  have h1 := val_nonneg hb (hx.take (xs.length - 1))
  have h2 := (hx.at hb (xs.length - 1)).1
  have h3 := ht h
  have h4 := pw_pos hb (xs.length - 1)
  have := Int.mul_le_mul_of_nonneg_right (show 1 ≤ xs.getD (xs.length - 1) 0 by omega) (show 0 ≤ pw b (xs.length - 1) by omega)
  omega

theorem tr_len_lt {b : Int} (hb : 0 < b) {xs ys : List Int} (hx : Dg b xs) (hy : Dg b ys) (ht : Tr ys) (h : xs.length < ys.length) : val b xs < val b ys := by
  have h1 := val_lt hb hx
  have h2 := pw_mono (show 1 ≤ b by omega) xs.length (ys.length - 1) (by omega)
  have h3 := tr_low hb hy ht (by intro h'; subst h'; simp at h)
  omega

theorem tr_inj {b : Int} (hb : 0 < b) {xs ys : List Int} (hx : Dg b xs) (hy : Dg b ys) (tx : Tr xs) (ty : Tr ys) (hv : val b xs = val b ys) : xs = ys := by
  rcases Nat.lt_trichotomy xs.length ys.length with h | h | h
  · have := tr_len_lt hb hx hy ty h; omega
  · exact val_inj hb hx hy h hv
  · have := tr_len_lt hb hy hx tx h; omega

/-- Without the noughts at the end. -/
def trm : List Int → List Int
  | [] => []
  | x :: r => if trm r = [] ∧ x = 0 then [] else x :: trm r

theorem trm_take : ∀ xs : List Int, ∃ m, m ≤ xs.length ∧ trm xs = xs.take m
  | [] => ⟨0, Nat.le_refl _, rfl⟩
  | x :: r => by
    obtain ⟨m, hm, he⟩ := trm_take r
    rw [trm]
    split
    · exact ⟨0, Nat.zero_le _, by simp⟩
    · exact ⟨m + 1, by simpa using hm, by rw [he]; simp⟩

theorem trm_val (b : Int) : ∀ xs : List Int, val b (trm xs) = val b xs
  | [] => rfl
  | x :: r => by
    have ih := trm_val b r
    rw [trm]
    split
    · rename_i h
      show 0 = x + b * val b r
      rw [← ih, h.1, h.2]
      simp [val]
    · rw [val, val, ih]

theorem trm_dg {b : Int} {xs : List Int} (h : Dg b xs) : Dg b (trm xs) := by
  obtain ⟨m, _, he⟩ := trm_take xs
  rw [he]
  exact h.take m

theorem trm_len (xs : List Int) : (trm xs).length ≤ xs.length := by
  obtain ⟨m, _, he⟩ := trm_take xs
  rw [he, List.length_take]
  omega

theorem trm_tr : ∀ xs : List Int, Tr (trm xs)
  | [] => fun h => absurd rfl h
  | x :: r => by
    have ih := trm_tr r
    rw [trm]
    split
    · exact fun h => absurd rfl h
    · rename_i h
      intro _
      cases hr : trm r with
      | nil => simp [hr] at h ⊢; exact h
      | cons y s =>
        have := ih (by simp [hr])
        rw [hr] at this
        simpa using this

theorem trm_of {b : Int} (hb : 0 < b) {xs ys : List Int} (hx : Dg b xs) (hy : Dg b ys) (ht : Tr ys) (hv : val b ys = val b xs) : ys = trm xs :=
  tr_inj hb hy (trm_dg hx) ht (trm_tr xs) (by rw [trm_val]; exact hv)

theorem trm_self {b : Int} (hb : 0 < b) {xs : List Int} (hx : Dg b xs) (ht : Tr xs) : trm xs = xs := (trm_of hb hx hx ht rfl).symm

/-- -1, 0 or 1. -/
def cmpI (x y : Int) : Int := if x < y then -1 else if y < x then 1 else 0

theorem cmpI_top {b : Int} (hb : 0 < b) {xs ys : List Int} (hx : Dg b xs) (hy : Dg b ys) (k : Nat) (hd : xs.drop (k + 1) = ys.drop (k + 1)) (hk : k < xs.length) (hl : xs.length = ys.length) (h : xs.getD k 0 < ys.getD k 0) : val b xs < val b ys := by
  have e1 := val_split b xs (k + 1) (by omega)
  have e2 := val_split b ys (k + 1) (by omega)
  rw [hd] at e1
  have e3 := val_take_succ b xs k
  have e4 := val_take_succ b ys k
  have h1 := val_lt hb (hx.take k)
  rw [List.length_take, Nat.min_eq_left (by omega)] at h1
  have h2 := val_nonneg hb (hy.take k)
  have h3 := pw_pos hb k
  have := Int.mul_le_mul_of_nonneg_right (show xs.getD k 0 + 1 ≤ ys.getD k 0 by omega) (show 0 ≤ pw b k by omega)
  rw [Int.add_mul] at this
  omega

end Go.Proofs.YtnabmdpgibnkaaaDoor

namespace Go.Proofs.YtnabmdpgibnkaaaDoor

theorem cpw_eq (b : Int) : ∀ i, pw b i = b ^ i
  | 0 => by simp [pw]
  | i + 1 => by rw [pw, cpw_eq b i, Int.pow_succ, Int.mul_comm]

theorem cval_dropAt (b : Int) (xs : List Int) (m : Nat) : val b (xs.drop m) = xs.getD m 0 + b * val b (xs.drop (m + 1)) := by
  rcases Nat.lt_or_ge m xs.length with h | h
  · rw [List.drop_eq_getElem_cons h, val]
    simp [List.getD, h]
  · rw [List.drop_eq_nil_of_le h, List.drop_eq_nil_of_le (by omega)]
    simp [val, List.getD, h]

theorem cval_div {b : Int} (hb : 0 < b) {xs : List Int} (hx : Dg b xs) (q : Nat) : val b xs / pw b q = val b (xs.drop q) := by
  have hp := pw_pos hb q
  rcases Nat.le_total q xs.length with h | h
  · have h1 := val_lt hb (hx.take q)
    rw [List.length_take, Nat.min_eq_left h] at h1
    rw [val_split b xs q h, Int.add_mul_ediv_left _ _ (by omega), Int.ediv_eq_zero_of_lt (val_nonneg hb (hx.take q)) h1, Int.zero_add]
  · have h1 := val_lt hb hx
    have h2 := pw_mono (show 1 ≤ b by omega) _ _ h
    rw [List.drop_eq_nil_of_le h, Int.ediv_eq_zero_of_lt (val_nonneg hb hx) (by omega)]
    rfl

/-- A digit to a lesser base is in one word. -/
theorem cdig_at (b β : Int) (hβ : 1 < β) (m : Nat) (hm : pw β m = b) {X : List Int} (hX : Dg b X) (q t : Nat) (ht : t < m) : val b X / (pw b q * pw β t) % β = X.getD q 0 / pw β t % β := by
  have hb : 0 < b := by rw [← hm]; exact pw_pos (by omega) m
  have hp := pw_pos hb q
  have hq := pw_pos (b := β) (by omega) t
  rw [← Int.ediv_ediv_of_nonneg (by omega), cval_div hb hX, cval_dropAt]
  obtain ⟨k, hk⟩ : ∃ k, m = t + (k + 1) := ⟨m - t - 1, by omega⟩
  have e : b = pw β t * (β * pw β k) := by rw [← hm, hk, pw_add]; rfl
  have e2 : b * val b (X.drop (q + 1)) = pw β t * (β * (pw β k * val b (X.drop (q + 1)))) := by
    generalize val b (X.drop (q + 1)) = V
    rw [e, Int.mul_assoc, Int.mul_assoc]
  rw [e2, Int.add_mul_ediv_left _ _ (by omega), Int.add_mul_emod_self_left]

theorem cpw_8 (i : Nat) : pw 256 (8 * i) = pw 18446744073709551616 i := by
  induction i with
  | zero => rfl
  | succ i ih =>
    rw [show 8 * (i + 1) = 8 * i + 8 by omega, pw_add, ih, show pw 256 8 = 18446744073709551616 by decide, show pw 18446744073709551616 (i + 1) = 18446744073709551616 * pw 18446744073709551616 i from rfl, Int.mul_comm]

theorem cpw_4 (i : Nat) : pw 256 (4 * i) = pw 4294967296 i := by
  induction i with
  | zero => rfl
  | succ i ih =>
    rw [show 4 * (i + 1) = 4 * i + 4 by omega, pw_add, ih, show pw 256 4 = 4294967296 by decide, show pw 4294967296 (i + 1) = 4294967296 * pw 4294967296 i from rfl, Int.mul_comm]

theorem cpw_b (i : Nat) : pw 2 (8 * i) = pw 256 i := by
  induction i with
  | zero => rfl
  | succ i ih =>
    rw [show 8 * (i + 1) = 8 * i + 8 by omega, pw_add, ih, show pw 2 8 = 256 by decide, show pw 256 (i + 1) = 256 * pw 256 i from rfl, Int.mul_comm]

theorem cemod_step (V P b : Int) (hP : 0 < P) (hb : 0 < b) : V % (b * P) = V % P + (V / P % b) * P := by
  have h1 := Int.emod_add_mul_ediv V P
  have h2 := Int.emod_add_mul_ediv (V / P) b
  have hv : V = V % P + (V / P % b) * P + (b * P) * (V / P / b) := by
    have e : P * (V / P) = (V / P % b) * P + (b * P) * (V / P / b) := by
      conv => lhs; rw [← h2]
      grind
    omega
  have b1 := Int.emod_nonneg V (show P ≠ 0 by omega)
  have b2 := Int.emod_lt_of_pos V hP
  have b3 := Int.emod_nonneg (V / P) (show b ≠ 0 by omega)
  have b4 := Int.emod_lt_of_pos (V / P) hb
  have b5 : (V / P % b) * P ≤ (b - 1) * P := Int.mul_le_mul_of_nonneg_right (by omega) (by omega)
  have b6 := Int.mul_nonneg b3 (show 0 ≤ P by omega)
  have b7 : (b - 1) * P = b * P - P := by grind
  conv => lhs; rw [hv]
  rw [Int.add_mul_emod_self_left]
  exact Int.emod_eq_of_lt (by omega) (by omega)

/-- The number that bytes say, the highest first; a number's 32 bytes. -/
def dn (D : List Int) : Int := val 256 D.reverse
def be (V : Int) : List Int := (List.range 32).map fun j => V / pw 256 (31 - j) % 256

theorem be_len (V : Int) : (be V).length = 32 := by simp [be]
theorem be_dg (V : Int) : Dg 256 (be V) := by
  intro x hx
  simp only [be, List.mem_map] at hx
  obtain ⟨j, _, rfl⟩ := hx
  omega
theorem be_at (V : Int) (j : Nat) (hj : j < 32) : (be V).getD j 0 = V / pw 256 (31 - j) % 256 := by simp [be, List.getD, hj]

theorem dn_bd {D : List Int} (hd : Dg 256 D) (hl : D.length = 32) : 0 ≤ dn D ∧ dn D < RR := by
  have hr : Dg 256 D.reverse := fun x hx => hd x (by simpa using hx)
  refine ⟨val_nonneg (by decide) hr, ?_⟩
  have := val_lt (b := 256) (by decide) hr
  rw [List.length_reverse, hl, show pw 256 32 = RR by decide] at this
  exact this

theorem ext_getD {xs ys : List Int} {n : Nat} (hx : xs.length = n) (hy : ys.length = n) (h : ∀ i, i < n → xs.getD i 0 = ys.getD i 0) : xs = ys := by
  refine List.ext_getElem (by omega) fun i h1 h2 => ?_
  have := h i (by omega)
  simpa [List.getD, h1, h2] using this

theorem be_dn {D : List Int} (hd : Dg 256 D) (hl : D.length = 32) : be (dn D) = D := by
  have hr : Dg 256 D.reverse := fun x hx => hd x (by simpa using hx)
  refine ext_getD (be_len _) hl fun j hj => ?_
  have hx := hd.at (by decide) j
  have hrj : D.reverse.getD (31 - j) 0 = D.getD j 0 := by
    have e : 31 - (31 - j) = j := by omega
    simp [List.getD, hl, show 31 - j < 32 by omega, e, hj]
  rw [be_at _ _ hj, dn, cval_div (by decide) hr, cval_dropAt, hrj, Int.add_mul_emod_self_left]
  exact Int.emod_eq_of_lt hx.1 hx.2

theorem val_digits (V : Int) : ∀ n, val 256 ((List.range n).map fun p => V / pw 256 p % 256) = V % pw 256 n
  | 0 => by simp [val, pw, Int.emod_one]
  | n + 1 => by
    rw [List.range_succ, List.map_append, val_append, val_digits V n, List.length_map, List.length_range]
    rw [show pw 256 (n + 1) = 256 * pw 256 n from rfl, cemod_step V (pw 256 n) 256 (pw_pos (by decide) n) (by decide)]
    simp [val]
    rw [Int.mul_comm]

theorem dn_be {V : Int} (h0 : 0 ≤ V) (h1 : V < RR) : dn (be V) = V := by
  unfold dn be
  rw [← List.map_reverse, List.range_eq_range', List.reverse_range', List.map_map]
  have e : List.map ((fun j => V / pw 256 (31 - j) % 256) ∘ fun x => 0 + 32 - 1 - x) (List.range 32) = (List.range 32).map fun p => V / pw 256 p % 256 := by
    apply List.map_congr_left
    intro p hp
    have : p < 32 := by simpa using hp
    simp only [Function.comp]
    rw [show 31 - (0 + 32 - 1 - p) = p by omega]
  rw [e, val_digits, show pw 256 32 = RR by decide]
  exact Int.emod_eq_of_lt h0 h1

/-- Bytes laid below a word's higher ones. -/
theorem or_low (m d : Int) (t : Nat) (T : Int) (hT : T = 8 * (t : Int)) (ht : t < 8) (hm : 0 ≤ m) (hb : m * pw 256 (t + 1) < 18446744073709551616) (hd0 : 0 ≤ d) (hd1 : d < 256) :
    Go.IntKind.u64.wrap (d * 2 ^ T.toNat) = d * pw 256 t ∧ Go.bits .or .u64 (m * pw 256 (t + 1)) (d * pw 256 t) = m * pw 256 (t + 1) + d * pw 256 t ∧ 0 ≤ m * pw 256 (t + 1) + d * pw 256 t ∧ m * pw 256 (t + 1) + d * pw 256 t < 18446744073709551616 := by
  have hp := pw_pos (b := 256) (by decide) t
  have h1 := Int.mul_le_mul_of_nonneg_right (show d + 1 ≤ 256 by omega) (show 0 ≤ pw 256 t by omega)
  rw [Int.add_mul, Int.one_mul] at h1
  have h0 := Int.mul_nonneg hd0 (show 0 ≤ pw 256 t by omega)
  have e1 : (2 : Int) ^ T.toNat = pw 256 t := by rw [← cpw_b, cpw_eq, hT, show (8 * (t : Int)).toNat = 8 * t by omega]
  have h2 := pw_mono (b := 256) (by decide) (t + 1) 8 (by omega)
  rw [show pw 256 8 = 18446744073709551616 by decide, show pw 256 (t + 1) = 256 * pw 256 t from rfl] at h2
  obtain ⟨M, rfl⟩ := Int.eq_ofNat_of_zero_le hm
  obtain ⟨D, rfl⟩ := Int.eq_ofNat_of_zero_le hd0
  have hE : pw 256 t = ((2 ^ (8 * t) : Nat) : Int) := by rw [← cpw_b, cpw_eq, Int.natCast_pow]; rfl
  have hE1 : pw 256 (t + 1) = ((2 ^ (8 * (t + 1)) : Nat) : Int) := by rw [← cpw_b, cpw_eq, Int.natCast_pow]; rfl
  have hlt : D * 2 ^ (8 * t) < 2 ^ (8 * (t + 1)) := by
    rw [show 8 * (t + 1) = 8 * t + 8 by omega, Nat.pow_add, Nat.mul_comm (2 ^ (8 * t))]
    exact Nat.mul_lt_mul_of_pos_right (show D < 2 ^ 8 by omega) (Nat.two_pow_pos _)
  have hle : M * 2 ^ (8 * (t + 1)) + D * 2 ^ (8 * t) < 2 ^ 64 := by
    obtain ⟨k, hk⟩ : ∃ k, 64 = 8 * (t + 1) + k := ⟨64 - 8 * (t + 1), by omega⟩
    rw [hE1, ← Int.natCast_mul] at hb
    have hb' : M * 2 ^ (8 * (t + 1)) < 2 ^ 64 := by omega
    rw [hk, Nat.pow_add, Nat.mul_comm (2 ^ (8 * (t + 1)))] at hb' ⊢
    have hM : M < 2 ^ k := Nat.lt_of_mul_lt_mul_right hb'
    have := Nat.mul_le_mul_right (2 ^ (8 * (t + 1))) (show M + 1 ≤ 2 ^ k by omega)
    rw [Nat.add_mul, Nat.one_mul] at this
    omega
  refine ⟨by rw [e1, Go.IntKind.wrap_u64]; omega, ?_, ?_, ?_⟩
  · rw [hE1, hE, ← Int.natCast_mul, ← Int.natCast_mul]
    have h3 := Go.bits_or_u64_nat (M * 2 ^ (8 * (t + 1))) (D * 2 ^ (8 * t)) (by omega) (by omega)
    rw [h3]
    have h4 := Nat.two_pow_add_eq_or_of_lt hlt M
    rw [Nat.mul_comm (2 ^ (8 * (t + 1)))] at h4
    rw [← h4]
    omega
  · have := Int.mul_nonneg (show (0 : Int) ≤ (M : Int) by omega) (Int.le_of_lt (pw_pos (b := 256) (by decide) (t + 1)))
    omega
  · rw [hE1, hE, ← Int.natCast_mul, ← Int.natCast_mul]
    omega

end Go.Proofs.YtnabmdpgibnkaaaDoor

namespace Go.Proofs
open Go.Shelf
def Tryd.lays264_ren : Go.Shelf.Ren := ⟨fun | 264 => 90 | n => n, fun | 53 => 50 | 46 => 137 | n => n, fun | n => n⟩
theorem Tryd.lays264 : Go.Proofs.Lays.n264 Tryd.prog Tryd.lays264_ren := {
  mixed := by kernel_rfl
  f264 := Tryd.func90.trans (congrArg some (by kernel_rfl))
  t46 := Tryd.underlying137
  a46 := Tryd.isAgg137
  z46 := Tryd.sizeOf137
  v46 := Tryd.zeroValue137
  t53 := Tryd.underlying50
  a53 := Tryd.isAgg50
  z53 := Tryd.sizeOf50
  v53 := Tryd.zeroValue50 }
open Go.RowKit Go.Lib in
theorem Tryd.bits_Mul64 (x y : Nat) (hx : x < 18446744073709551616) (hy : y < 18446744073709551616) (w : World) :
    Calls Tryd.prog 90 #[.int .u64 x, .int .u64 y] w fun e w' => e = .returned (.tuple #[.int .u64 ((x * y / 18446744073709551616 : Nat) : Int), .int .u64 ((x * y % 18446744073709551616 : Nat) : Int)]) ∧ w' = w := Any.bits_Mul64 Tryd.lays264 x y hx hy w
end Go.Proofs
