/-
  The curve's two numbers p and n are prime (by Lucas, down to trial division), and Fermat of them. Plain facts.
-/
import Derived.WalkKit
namespace Go.Proofs.YtcijjmncilciiaaDoor

/-- As many unlike numbers below n as there are: each number below n is among them. -/
theorem pigeon : ∀ (n : Nat) (f : Nat → Nat), (∀ i, i < n → f i < n) → (∀ i j, i < n → j < n → f i = f j → i = j) → ∀ a, a < n → ∃ i, i < n ∧ f i = a
  | 0, _, _, _, a, ha => absurd ha (Nat.not_lt_zero a)
  | n + 1, f, hb, hi, a, ha => by
    by_cases hl : f n = a
    · exact ⟨n, by omega, hl⟩
    -- the numbers ahead of the last one, with n put where the last one's would be
    have IH := pigeon n (fun i => if f i = n then f n else f i)
      (by
        intro i hin
        have h1 := hb i (by omega)
        have h2 := hb n (by omega)
        have h3 : f i ≠ f n := fun e => by have := hi i n (by omega) (by omega) e; omega
        show (if f i = n then f n else f i) < n
        split <;> omega)
      (by
        intro i j hin hjn e
        have h1 := hb i (by omega)
        have h2 := hb j (by omega)
        have h3 : f i ≠ f n := fun e => by have := hi i n (by omega) (by omega) e; omega
        have h4 : f j ≠ f n := fun e => by have := hi j n (by omega) (by omega) e; omega
        have e' : (if f i = n then f n else f i) = (if f j = n then f n else f j) := e
        split at e' <;> split at e'
        · exact hi i j (by omega) (by omega) (by omega)
        · omega
        · omega
        · exact hi i j (by omega) (by omega) e')
    by_cases han : a = n
    · -- n itself: it is the last one's, or some f i
      subst han
      -- f n ≠ a; f n < a; so some i of IH has value f n
      have h2 := hb a (by omega)
      obtain ⟨i, hin, e⟩ := IH (f a) (by omega)
      have e' : (if f i = a then f a else f i) = f a := e
      split at e'
      · rename_i h; exact ⟨i, by omega, h⟩
      · have := hi i a (by omega) (by omega) e'; omega
    · obtain ⟨i, hin, e⟩ := IH a (by omega)
      have e' : (if f i = n then f n else f i) = a := e
      split at e'
      · exact absurd e' hl
      · exact ⟨i, by omega, e'⟩

/-- A prime number: what divides it is 1 or itself. -/
def Pr (q : Nat) : Prop := 1 < q ∧ ∀ d, d ∣ q → d = 1 ∨ d = q

theorem Pr.cop {q m : Nat} (h : Pr q) (hm : ¬ q ∣ m) : Nat.Coprime m q := by
  have h1 : Nat.gcd m q ∣ q := Nat.gcd_dvd_right _ _
  rcases h.2 _ h1 with e | e
  · exact e
  · exact absurd (e ▸ Nat.gcd_dvd_left m q) hm

theorem some_dvd (m : Nat) (hm : 1 < m) : ∀ fs : List Nat, (∀ q, q ∈ fs → Pr q) → m ∣ fs.foldr (· * ·) 1 → ∃ q, q ∈ fs ∧ q ∣ m
  | [], _, h => by
    have : m ∣ 1 := h
    have := Nat.le_of_dvd (by decide) this
    omega
  | q :: t, hp, h => by
    by_cases hq : q ∣ m
    · exact ⟨q, by simp, hq⟩
    · have hc := (hp q (by simp)).cop hq
      have h' : m ∣ q * t.foldr (· * ·) 1 := h
      have h2 : m ∣ t.foldr (· * ·) 1 := hc.dvd_of_dvd_mul_left h'
      obtain ⟨r, hr, hd⟩ := some_dvd m hm t (fun q hq => hp q (by simp [hq])) h2
      exact ⟨r, by simp [hr], hd⟩

theorem pow_one_mul {p g k : Nat} (hp : 1 < p) (h : g ^ k % p = 1) (t : Nat) : g ^ (k * t) % p = 1 := by
  rw [Nat.pow_mul, Nat.pow_mod, h, Nat.one_pow, Nat.mod_eq_of_lt hp]

theorem pow_one_add {p g k : Nat} (h : g ^ k % p = 1) (i : Nat) : g ^ (k + i) % p = g ^ i % p := by
  rw [Nat.pow_add, Nat.mul_mod, h, Nat.one_mul, Nat.mod_mod]

/-- The least power that is 1. -/
theorem least (P : Nat → Prop) [DecidablePred P] : ∀ n, P n → ∃ o, o ≤ n ∧ P o ∧ ∀ k, k < o → ¬ P k := by
  intro n
  induction n using Nat.strongRecOn with
  | _ n ih =>
    intro h
    by_cases hh : ∃ k, k < n ∧ P k
    · obtain ⟨k, hk, pk⟩ := hh
      obtain ⟨o, ho, po, hl⟩ := ih k hk pk
      exact ⟨o, by omega, po, hl⟩
    · exact ⟨n, Nat.le_refl _, h, fun k hk pk => hh ⟨k, hk, pk⟩⟩

structure Gen (p g : Nat) : Prop where
  two : 1 < p
  one : g ^ (p - 1) % p = 1
  all : ∀ a, 0 < a → a < p → ∃ i, i < p - 1 ∧ g ^ i % p = a

/-- Lucas: where g to the power p - 1 is 1, and to no such part of it, all numbers below p are g's powers. -/
theorem lucas (p g : Nat) (fs : List Nat) (hp : 1 < p) (hprod : fs.foldr (· * ·) 1 = p - 1) (hpr : ∀ q, q ∈ fs → Pr q) (h1 : g ^ (p - 1) % p = 1)
    (hn : ∀ q, q ∈ fs → g ^ ((p - 1) / q) % p ≠ 1) : Gen p g := by
  have ex := least (fun k => 0 < k ∧ g ^ k % p = 1) (p - 1) ⟨by omega, h1⟩
  obtain ⟨o, ho, ⟨o0, oe⟩, hl⟩ := ex
  -- o divides p - 1
  have hdvd : (p - 1) % o = 0 := by
    have hd := Nat.div_add_mod (p - 1) o
    have h2 : g ^ ((p - 1) % o) % p = 1 := by
      have e := pow_one_add (pow_one_mul hp oe ((p - 1) / o)) ((p - 1) % o)
      rw [hd, h1] at e
      exact e.symm
    have hlt := Nat.mod_lt (p - 1) o0
    by_cases hz : 0 < (p - 1) % o
    · exact absurd ⟨hz, h2⟩ (hl _ hlt)
    · omega
  have hom : p - 1 = o * ((p - 1) / o) := by have := Nat.div_add_mod (p - 1) o; omega
  have hop : o = p - 1 := by
    by_cases hlt : o < p - 1
    · have hm : 1 < (p - 1) / o := by
        rcases Nat.lt_or_ge 1 ((p - 1) / o) with h | h
        · exact h
        · have : o * ((p - 1) / o) ≤ o * 1 := Nat.mul_le_mul_left _ h
          omega
      obtain ⟨q, hq, t, ht⟩ := some_dvd _ hm fs hpr (by rw [hprod]; exact ⟨o, by rw [Nat.mul_comm]; exact hom⟩)
      have hq0 : 0 < q := by have := (hpr q hq).1; omega
      have e : (p - 1) / q = o * t := by
        rw [hom, ht, ← Nat.mul_assoc, Nat.mul_comm o q, Nat.mul_assoc, Nat.mul_div_cancel_left _ hq0]
      exact absurd (by rw [e]; exact pow_one_mul hp oe t) (hn q hq)
    · omega
  subst hop
  have inv : ∀ i, i ≤ p - 1 → g ^ i % p * (g ^ (p - 1 - i)) % p = 1 := by
    intro i hi
    rw [Nat.mod_mul_mod, ← Nat.pow_add, show i + (p - 1 - i) = p - 1 by omega]
    exact h1
  have pos : ∀ i, i ≤ p - 1 → 0 < g ^ i % p := by
    intro i hi
    rcases Nat.eq_zero_or_pos (g ^ i % p) with e | e
    · have := inv i hi
      rw [e, Nat.zero_mul, Nat.zero_mod] at this
      omega
    · exact e
  have inj : ∀ i j, i < j → j < p - 1 → g ^ i % p ≠ g ^ j % p := by
    intro i j hij hj e
    have h2 := inv i (by omega)
    rw [e, Nat.mod_mul_mod, ← Nat.pow_add, show j + (p - 1 - i) = (p - 1) + (j - i) by omega, pow_one_add h1] at h2
    exact hl (j - i) (by omega) ⟨by omega, h2⟩
  refine ⟨hp, h1, ?_⟩
  intro a ha hap
  have PG := pigeon (p - 1) (fun i => g ^ i % p - 1)
    (fun i hi => by have := Nat.mod_lt (g ^ i) (show 0 < p by omega); have := pos i (by omega); show g ^ i % p - 1 < p - 1; omega)
    (fun i j hi hj e => by
      have h1 := pos i (by omega)
      have h2 := pos j (by omega)
      have e' : g ^ i % p - 1 = g ^ j % p - 1 := e
      rcases Nat.lt_trichotomy i j with h | h | h
      · exact absurd (by omega) (inj i j h hj)
      · exact h
      · exact absurd (by omega) (inj j i h hi))
    (a - 1) (by omega)
  obtain ⟨i, hi, e⟩ := PG
  have e' : g ^ i % p - 1 = a - 1 := e
  exact ⟨i, hi, by have := pos i (by omega); omega⟩

/-- Each number below p, and not 0, gives 1 with another one; its power p - 1 is 1. -/
theorem Gen.inv {p g : Nat} (h : Gen p g) (a : Nat) (h0 : 0 < a) (ha : a < p) : ∃ b, a * b % p = 1 := by
  obtain ⟨i, hi, e⟩ := h.all a h0 ha
  refine ⟨g ^ (p - 1 - i), ?_⟩
  rw [← e, Nat.mod_mul_mod, ← Nat.pow_add, show i + (p - 1 - i) = p - 1 by omega]
  exact h.one

theorem Gen.fermat {p g : Nat} (h : Gen p g) (a : Nat) (h0 : 0 < a) (ha : a < p) : a ^ (p - 1) % p = 1 := by
  obtain ⟨i, hi, e⟩ := h.all a h0 ha
  rw [← e, ← Nat.pow_mod, ← Nat.pow_mul, Nat.mul_comm]
  exact pow_one_mul h.two h.one i

theorem Gen.pr {p g : Nat} (h : Gen p g) : Pr p := by
  refine ⟨h.two, fun d hd => ?_⟩
  have h2 := h.two
  have hle := Nat.le_of_dvd (by omega) hd
  by_cases e : d = p
  · exact .inr e
  · have hd0 : 0 < d := by
      rcases Nat.eq_zero_or_pos d with z | z
      · subst z; have := Nat.eq_zero_of_zero_dvd hd; omega
      · exact z
    obtain ⟨b, hb⟩ := h.inv d hd0 (by omega)
    obtain ⟨c, hc⟩ := hd
    have hdd := Nat.div_add_mod (d * b) p
    rw [hb] at hdd
    have : d ∣ 1 := by
      have h3 : d ∣ p * (d * b / p) := ⟨c * (d * b / p), by rw [hc]; exact Nat.mul_assoc _ _ _⟩
      have h4 : d ∣ p * (d * b / p) + 1 := ⟨b, hdd⟩
      exact (Nat.dvd_add_right h3).1 h4
    have := Nat.le_of_dvd (by decide) this
    exact .inl (by omega)

/-- A power, by squares. -/
def pwm (p : Nat) : Nat → Nat → Nat → Nat
  | 0, _, _ => 1 % p
  | f + 1, e, b => (pwm p f (e / 2) (b * b % p) * (if e % 2 = 1 then b else 1)) % p

theorem pwm_eq (p : Nat) : ∀ f e b, e < 2 ^ f → pwm p f e b = b ^ e % p
  | 0, e, b, h => by
    have : e = 0 := by rw [Nat.pow_zero] at h; omega
    subst this
    rfl
  | f + 1, e, b, h => by
    have h2 : e / 2 < 2 ^ f := by rw [Nat.pow_succ] at h; omega
    rw [pwm, pwm_eq p f (e / 2) _ h2, Nat.mod_mul_mod]
    have hd := Nat.div_add_mod e 2
    by_cases h1 : e % 2 = 1
    · rw [if_pos h1, Nat.mul_mod, ← Nat.pow_mod, ← Nat.mul_mod]
      congr 1
      rw [← Nat.pow_two, ← Nat.pow_mul, ← Nat.pow_succ]
      congr 1
      omega
    · rw [if_neg h1, Nat.mul_one, ← Nat.pow_mod, ← Nat.pow_two, ← Nat.pow_mul]
      congr 2
      omega

/-- Whether no number from d on, so many, divides n. -/
def tri (n : Nat) : Nat → Nat → Bool
  | 0, _ => true
  | f + 1, d => match n % d with
    | 0 => false
    | _ + 1 => tri n f (d + 1)

theorem tri_at (n : Nat) : ∀ f d, tri n f d = true → ∀ e, d ≤ e → e < d + f → n % e ≠ 0
  | 0, d, _, e, h1, h2 => by omega
  | f + 1, d, h, e, h1, h2 => by
    rw [tri] at h
    split at h
    · exact absurd h (by decide)
    · rename_i k hk
      by_cases ed : e = d
      · subst ed; omega
      · exact tri_at n f (d + 1) h e (by omega) (by omega)

theorem small (n f : Nat) (hn : 1 < n) (ht : tri n f 2 = true) (hf : n < (f + 2) * (f + 2)) : Pr n := by
  refine ⟨hn, fun d hd => ?_⟩
  obtain ⟨c, hc⟩ := hd
  have h0 : ∀ e, 2 ≤ e → e < 2 + f → ¬ e ∣ n := fun e h1 h2 hd => tri_at n f 2 ht e h1 h2 (Nat.mod_eq_zero_of_dvd hd)
  have hd0 : 0 < d := by rcases Nat.eq_zero_or_pos d with z | z; (subst z; omega); exact z
  have hc0 : 0 < c := by rcases Nat.eq_zero_or_pos c with z | z; (subst z; omega); exact z
  have d1 : d = 1 ∨ f + 2 ≤ d := by
    by_cases e : d = 1
    · exact .inl e
    · right
      rcases Nat.lt_or_ge d (2 + f) with h | h
      · exact absurd ⟨c, hc⟩ (h0 d (by omega) h)
      · omega
  have c1 : c = 1 ∨ f + 2 ≤ c := by
    by_cases e : c = 1
    · exact .inl e
    · right
      rcases Nat.lt_or_ge c (2 + f) with h | h
      · exact absurd ⟨d, by rw [hc]; exact Nat.mul_comm _ _⟩ (h0 c (by omega) h)
      · omega
  rcases d1 with e | h1
  · exact .inl e
  · rcases c1 with e | h2
    · right; rw [hc, e, Nat.mul_one]
    · have := Nat.mul_le_mul h1 h2
      omega

/-- Lucas, as it is reckoned. -/
theorem gen_of (p g f : Nat) (fs : List Nat) (hp : 1 < p) (hprod : fs.foldr (· * ·) 1 = p - 1) (hpr : ∀ q, q ∈ fs → Pr q) (hf : p ≤ 2 ^ f)
    (h1 : pwm p f (p - 1) g = 1) (hn : fs.all (fun q => pwm p f ((p - 1) / q) g != 1) = true) : Gen p g := by
  refine lucas p g fs hp hprod hpr ?_ ?_
  · rw [← pwm_eq p f _ _ (by omega)]; exact h1
  · intro q hq
    have h := List.all_eq_true.1 hn q hq
    have hl : (p - 1) / q ≤ p - 1 := Nat.div_le_self _ _
    rw [pwm_eq p f _ _ (by omega)] at h
    simpa using h
def PN : Nat := 115792089210356248762697446949407573530086143415290314195533631308867097853951
def NNat : Nat := 115792089210356248762697446949407573529996955224135760342422259061068512044369
theorem pr2 : Pr 2 := small 2 0 (by decide) (by decide +kernel) (by decide)
theorem pr3 : Pr 3 := small 3 0 (by decide) (by decide +kernel) (by decide)
theorem pr5 : Pr 5 := small 5 1 (by decide) (by decide +kernel) (by decide)
theorem pr17 : Pr 17 := small 17 3 (by decide) (by decide +kernel) (by decide)
theorem pr257 : Pr 257 := small 257 15 (by decide) (by decide +kernel) (by decide)
theorem pr641 : Pr 641 := small 641 24 (by decide) (by decide +kernel) (by decide)
theorem pr1531 : Pr 1531 := small 1531 38 (by decide) (by decide +kernel) (by decide)
theorem pr65537 : Pr 65537 := small 65537 255 (by decide) (by decide +kernel) (by decide)
theorem pr490463 : Pr 490463 := small 490463 699 (by decide) (by decide +kernel) (by decide)
theorem pr6700417 : Pr 6700417 := small 6700417 2587 (by decide) (by decide +kernel) (by decide)
theorem pr2411 : Pr 2411 := small 2411 48 (by decide) (by decide +kernel) (by decide)
theorem pr7 : Pr 7 := small 7 1 (by decide) (by decide +kernel) (by decide)
theorem pr11 : Pr 11 := small 11 2 (by decide) (by decide +kernel) (by decide)
theorem pr23 : Pr 23 := small 23 3 (by decide) (by decide +kernel) (by decide)
theorem pr107 : Pr 107 := small 107 9 (by decide) (by decide +kernel) (by decide)
theorem pr3769 : Pr 3769 := small 3769 60 (by decide) (by decide +kernel) (by decide)
theorem pr204061199 : Pr 204061199 := (gen_of 204061199 11 28 [2, 11, 23, 107, 3769] (by decide) (by decide +kernel) (by
    intro q hq
    simp only [List.mem_cons, List.not_mem_nil, or_false] at hq
    rcases hq with rfl | rfl | rfl | rfl | rfl
    · exact pr2
    · exact pr11
    · exact pr23
    · exact pr107
    · exact pr3769) (by decide +kernel) (by decide +kernel) (by decide +kernel)).pr
theorem pr34282281433 : Pr 34282281433 := (gen_of 34282281433 17 35 [2, 2, 2, 3, 7, 204061199] (by decide) (by decide +kernel) (by
    intro q hq
    simp only [List.mem_cons, List.not_mem_nil, or_false] at hq
    rcases hq with rfl | rfl | rfl | rfl | rfl | rfl
    · exact pr2
    · exact pr2
    · exact pr2
    · exact pr3
    · exact pr7
    · exact pr204061199) (by decide +kernel) (by decide +kernel) (by decide +kernel)).pr
theorem pr53 : Pr 53 := small 53 6 (by decide) (by decide +kernel) (by decide)
theorem pr173 : Pr 173 := small 173 12 (by decide) (by decide +kernel) (by decide)
theorem pr197 : Pr 197 := small 197 13 (by decide) (by decide +kernel) (by decide)
theorem pr3677 : Pr 3677 := small 3677 59 (by decide) (by decide +kernel) (by decide)
theorem pr66417393611 : Pr 66417393611 := (gen_of 66417393611 6 36 [2, 5, 53, 173, 197, 3677] (by decide) (by decide +kernel) (by
    intro q hq
    simp only [List.mem_cons, List.not_mem_nil, or_false] at hq
    rcases hq with rfl | rfl | rfl | rfl | rfl | rfl
    · exact pr2
    · exact pr5
    · exact pr53
    · exact pr173
    · exact pr197
    · exact pr3677) (by decide +kernel) (by decide +kernel) (by decide +kernel)).pr
theorem pr11290956913871 : Pr 11290956913871 := (gen_of 11290956913871 13 44 [2, 5, 17, 66417393611] (by decide) (by decide +kernel) (by
    intro q hq
    simp only [List.mem_cons, List.not_mem_nil, or_false] at hq
    rcases hq with rfl | rfl | rfl | rfl
    · exact pr2
    · exact pr5
    · exact pr17
    · exact pr66417393611) (by decide +kernel) (by decide +kernel) (by decide +kernel)).pr
theorem pr18169 : Pr 18169 := small 18169 133 (by decide) (by decide +kernel) (by decide)
theorem pr78283 : Pr 78283 := small 78283 278 (by decide) (by decide +kernel) (by decide)
theorem pr704251 : Pr 704251 := small 704251 838 (by decide) (by decide +kernel) (by decide)
theorem pr46076956964474543 : Pr 46076956964474543 := (gen_of 46076956964474543 5 56 [2, 23, 18169, 78283, 704251] (by decide) (by decide +kernel) (by
    intro q hq
    simp only [List.mem_cons, List.not_mem_nil, or_false] at hq
    rcases hq with rfl | rfl | rfl | rfl | rfl
    · exact pr2
    · exact pr23
    · exact pr18169
    · exact pr78283
    · exact pr704251) (by decide +kernel) (by decide +kernel) (by decide +kernel)).pr
theorem pr774023187263532362759620327192479577272145303 : Pr 774023187263532362759620327192479577272145303 := (gen_of 774023187263532362759620327192479577272145303 3 150 [2, 3, 3, 2411, 34282281433, 11290956913871, 46076956964474543] (by decide) (by decide +kernel) (by
    intro q hq
    simp only [List.mem_cons, List.not_mem_nil, or_false] at hq
    rcases hq with rfl | rfl | rfl | rfl | rfl | rfl | rfl
    · exact pr2
    · exact pr3
    · exact pr3
    · exact pr2411
    · exact pr34282281433
    · exact pr11290956913871
    · exact pr46076956964474543) (by decide +kernel) (by decide +kernel) (by decide +kernel)).pr
theorem pr835945042244614951780389953367877943453916927241 : Pr 835945042244614951780389953367877943453916927241 := (gen_of 835945042244614951780389953367877943453916927241 11 160 [2, 2, 2, 3, 3, 3, 5, 774023187263532362759620327192479577272145303] (by decide) (by decide +kernel) (by
    intro q hq
    simp only [List.mem_cons, List.not_mem_nil, or_false] at hq
    rcases hq with rfl | rfl | rfl | rfl | rfl | rfl | rfl | rfl
    · exact pr2
    · exact pr2
    · exact pr2
    · exact pr3
    · exact pr3
    · exact pr3
    · exact pr5
    · exact pr774023187263532362759620327192479577272145303) (by decide +kernel) (by decide +kernel) (by decide +kernel)).pr
theorem genP : Gen PN 6 := gen_of PN 6 256 [2, 3, 5, 5, 17, 257, 641, 1531, 65537, 490463, 6700417, 835945042244614951780389953367877943453916927241] (by decide) (by decide +kernel) (by
    intro q hq
    simp only [List.mem_cons, List.not_mem_nil, or_false] at hq
    rcases hq with rfl | rfl | rfl | rfl | rfl | rfl | rfl | rfl | rfl | rfl | rfl | rfl
    · exact pr2
    · exact pr3
    · exact pr5
    · exact pr5
    · exact pr17
    · exact pr257
    · exact pr641
    · exact pr1531
    · exact pr65537
    · exact pr490463
    · exact pr6700417
    · exact pr835945042244614951780389953367877943453916927241) (by decide +kernel) (by decide +kernel) (by decide +kernel)
theorem pr71 : Pr 71 := small 71 7 (by decide) (by decide +kernel) (by decide)
theorem pr131 : Pr 131 := small 131 10 (by decide) (by decide +kernel) (by decide)
theorem pr373 : Pr 373 := small 373 18 (by decide) (by decide +kernel) (by decide)
theorem pr3407 : Pr 3407 := small 3407 57 (by decide) (by decide +kernel) (by decide)
theorem pr17449 : Pr 17449 := small 17449 131 (by decide) (by decide +kernel) (by decide)
theorem pr38189 : Pr 38189 := small 38189 194 (by decide) (by decide +kernel) (by decide)
theorem pr9350987 : Pr 9350987 := small 9350987 3056 (by decide) (by decide +kernel) (by decide)
theorem pr187019741 : Pr 187019741 := (gen_of 187019741 2 28 [2, 2, 5, 9350987] (by decide) (by decide +kernel) (by
    intro q hq
    simp only [List.mem_cons, List.not_mem_nil, or_false] at hq
    rcases hq with rfl | rfl | rfl | rfl
    · exact pr2
    · exact pr2
    · exact pr5
    · exact pr9350987) (by decide +kernel) (by decide +kernel) (by decide +kernel)).pr
theorem pr29 : Pr 29 := small 29 4 (by decide) (by decide +kernel) (by decide)
theorem pr311 : Pr 311 := small 311 16 (by decide) (by decide +kernel) (by decide)
theorem pr311245691 : Pr 311245691 := (gen_of 311245691 2 29 [2, 5, 7, 17, 29, 29, 311] (by decide) (by decide +kernel) (by
    intro q hq
    simp only [List.mem_cons, List.not_mem_nil, or_false] at hq
    rcases hq with rfl | rfl | rfl | rfl | rfl | rfl | rfl
    · exact pr2
    · exact pr5
    · exact pr7
    · exact pr17
    · exact pr29
    · exact pr29
    · exact pr311) (by decide +kernel) (by decide +kernel) (by decide +kernel)).pr
theorem pr622491383 : Pr 622491383 := (gen_of 622491383 5 30 [2, 311245691] (by decide) (by decide +kernel) (by
    intro q hq
    simp only [List.mem_cons, List.not_mem_nil, or_false] at hq
    rcases hq with rfl | rfl
    · exact pr2
    · exact pr311245691) (by decide +kernel) (by decide +kernel) (by decide +kernel)).pr
theorem pr126241 : Pr 126241 := small 126241 354 (by decide) (by decide +kernel) (by decide)
theorem pr3969899 : Pr 3969899 := small 3969899 1991 (by decide) (by decide +kernel) (by decide)
theorem pr1002328039319 : Pr 1002328039319 := (gen_of 1002328039319 19 40 [2, 126241, 3969899] (by decide) (by decide +kernel) (by
    intro q hq
    simp only [List.mem_cons, List.not_mem_nil, or_false] at hq
    rcases hq with rfl | rfl | rfl
    · exact pr2
    · exact pr126241
    · exact pr3969899) (by decide +kernel) (by decide +kernel) (by decide +kernel)).pr
theorem pr1297 : Pr 1297 := small 1297 35 (by decide) (by decide +kernel) (by decide)
theorem pr16879 : Pr 16879 := small 16879 128 (by decide) (by decide +kernel) (by decide)
theorem pr43 : Pr 43 := small 43 5 (by decide) (by decide +kernel) (by decide)
theorem pr127 : Pr 127 := small 127 10 (by decide) (by decide +kernel) (by decide)
theorem pr3023 : Pr 3023 := small 3023 53 (by decide) (by decide +kernel) (by decide)
theorem pr41 : Pr 41 := small 41 5 (by decide) (by decide +kernel) (by decide)
theorem pr155317 : Pr 155317 := small 155317 393 (by decide) (by decide +kernel) (by decide)
theorem pr191039911 : Pr 191039911 := (gen_of 191039911 3 28 [2, 3, 5, 41, 155317] (by decide) (by decide +kernel) (by
    intro q hq
    simp only [List.mem_cons, List.not_mem_nil, or_false] at hq
    rcases hq with rfl | rfl | rfl | rfl | rfl
    · exact pr2
    · exact pr3
    · exact pr5
    · exact pr41
    · exact pr155317) (by decide +kernel) (by decide +kernel) (by decide +kernel)).pr
theorem pr208150935158385979 : Pr 208150935158385979 := (gen_of 208150935158385979 2 58 [2, 3, 11, 43, 127, 3023, 191039911] (by decide) (by decide +kernel) (by
    intro q hq
    simp only [List.mem_cons, List.not_mem_nil, or_false] at hq
    rcases hq with rfl | rfl | rfl | rfl | rfl | rfl | rfl
    · exact pr2
    · exact pr3
    · exact pr11
    · exact pr43
    · exact pr127
    · exact pr3023
    · exact pr191039911) (by decide +kernel) (by decide +kernel) (by decide +kernel)).pr
theorem pr2624747550333869278416773953 : Pr 2624747550333869278416773953 := (gen_of 2624747550333869278416773953 7 92 [2, 2, 2, 2, 2, 2, 3, 3, 1297, 16879, 208150935158385979] (by decide) (by decide +kernel) (by
    intro q hq
    simp only [List.mem_cons, List.not_mem_nil, or_false] at hq
    rcases hq with rfl | rfl | rfl | rfl | rfl | rfl | rfl | rfl | rfl | rfl | rfl
    · exact pr2
    · exact pr2
    · exact pr2
    · exact pr2
    · exact pr2
    · exact pr2
    · exact pr3
    · exact pr3
    · exact pr1297
    · exact pr16879
    · exact pr208150935158385979) (by decide +kernel) (by decide +kernel) (by decide +kernel)).pr
theorem genN : Gen NNat 7 := gen_of NNat 7 256 [2, 2, 2, 2, 3, 71, 131, 373, 3407, 17449, 38189, 187019741, 622491383, 1002328039319, 2624747550333869278416773953] (by decide) (by decide +kernel) (by
    intro q hq
    simp only [List.mem_cons, List.not_mem_nil, or_false] at hq
    rcases hq with rfl | rfl | rfl | rfl | rfl | rfl | rfl | rfl | rfl | rfl | rfl | rfl | rfl | rfl | rfl
    · exact pr2
    · exact pr2
    · exact pr2
    · exact pr2
    · exact pr3
    · exact pr71
    · exact pr131
    · exact pr373
    · exact pr3407
    · exact pr17449
    · exact pr38189
    · exact pr187019741
    · exact pr622491383
    · exact pr1002328039319
    · exact pr2624747550333869278416773953) (by decide +kernel) (by decide +kernel) (by decide +kernel)
end Go.Proofs.YtcijjmncilciiaaDoor
