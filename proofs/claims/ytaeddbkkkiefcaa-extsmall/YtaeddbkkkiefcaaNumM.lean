/-
  What is read of a content that was written is what was written, and a content that is read, written again, is that content. Plain lists and numbers; no program.
-/
import Derived.Test.YtaeddbkkkiefcaaToInt
import Derived.Test.YtaeddbkkkiefcaaInt
import Derived.Test.YtaeddbkkkiefcaaNumS
namespace Go.Proofs.Ytaeddbkkkiefcaa
open Go.RowKit Go.IntWalk

/- Integers. -/

theorem lowS_snoc (n x : Int) (k : Nat) (h0 : 0 ≤ x) (h1 : x < 256) : lowS (n * 256 + x) (k + 1) = lowS n k ++ [x] := by
  rw [lowS, show (n * 256 + x) / 256 = n by omega, show (n * 256 + x) % 256 = x by omega]

theorem lowS_valF : ∀ (r : List Int) (n : Int) (k : Nat), (∀ x ∈ r, 0 ≤ x ∧ x < 256) → lowS (valF n r) (k + r.length) = lowS n k ++ r
  | [], n, k, _ => by simp [valF]
  | x :: r, n, k, hb => by
    have hx := hb x (List.mem_cons_self ..)
    have ih := lowS_valF r (n * 256 + x) (k + 1) (fun y hy => hb y (List.mem_cons_of_mem _ hy))
    rw [valF_cons, List.length_cons, show k + (r.length + 1) = k + 1 + r.length by omega, ih, lowS_snoc n x k hx.1 hx.2]
    simp

theorem lowS_ext (n : Int) (h0 : -1 ≤ n) (h1 : n < 1) : ∀ k : Nat, lowS n k = List.replicate k (n % 256)
  | 0 => rfl
  | k + 1 => by
    rw [lowS, show n / 256 = n by omega, lowS_ext n h0 h1 k, ← List.replicate_succ']

theorem lowS_sgn (x : Int) (h0 : 0 ≤ x) (h1 : x < 256) (k : Nat) : lowS (sgn x) (k + 1) = List.replicate k (if 128 ≤ x then 255 else 0) ++ [x] := by
  rw [lowS]
  unfold sgn
  by_cases h : 128 ≤ x
  · rw [if_pos h, if_pos h, show (x - 256) / 256 = -1 by omega, lowS_ext (-1) (by omega) (by omega), show (x - 256) % 256 = x by omega]
    rfl
  · rw [if_neg h, if_neg h, show x / 256 = 0 by omega, lowS_ext 0 (by omega) (by omega), show x % 256 = x by omega]
    rfl

theorem int_once (xs : List Int) (hb : ∀ x ∈ xs, 0 ≤ x ∧ x < 256) (h : isIntS xs = true) (h8 : xs.length ≤ 8) : intS (valS xs) = xs := by
  cases xs with
  | nil => simp [isIntS] at h
  | cons x r =>
    have hx := hb x (List.mem_cons_self ..)
    have hr := fun y hy => hb y (List.mem_cons_of_mem x hy)
    simp only [List.length_cons] at h8
    unfold intS valS
    have e : (8 : Nat) = (7 - r.length + 1) + r.length := by omega
    rw [e, lowS_valF r (sgn x) (7 - r.length + 1) hr, lowS_sgn x hx.1 hx.2]
    rw [List.append_assoc]
    exact shortS_ext x r hx.1 hx.2 h _

theorem valS_snoc (x y : Int) (l : List Int) : valS ((x :: l) ++ [y]) = valS (x :: l) * 256 + y := by
  show valF (sgn x) (l ++ [y]) = _
  rw [valF_snoc]
  rfl

theorem valS_low : ∀ (k : Nat) (n : Int), -(128 * 256 ^ k) ≤ n → n < 128 * 256 ^ k → valS (lowS n (k + 1)) = n
  | 0, n, h0, h1 => by
    simp at h0 h1
    show valF (sgn (n % 256)) [] = n
    unfold sgn
    simp only [valF, List.foldl_nil]
    split <;> omega
  | k + 1, n, h0, h1 => by
    rw [Int.pow_succ, ← Int.mul_assoc] at h0 h1
    have ih := valS_low k (n / 256) (by omega) (by omega)
    rw [lowS]
    have hne : lowS (n / 256) (k + 1) ≠ [] := by intro h; have := lowS_len (k + 1) (n / 256); rw [h] at this; simp at this
    cases hl : lowS (n / 256) (k + 1) with
    | nil => exact absurd hl hne
    | cons x l =>
      rw [valS_snoc, ← hl, ih]
      omega

theorem isInt_short : ∀ (xs : List Int), xs ≠ [] → isIntS (shortS xs) = true
  | [], h => absurd rfl h
  | [_], _ => rfl
  | x :: y :: r, _ => by
    unfold shortS
    by_cases h : idleS x y = true
    · rw [if_pos h]
      exact isInt_short (y :: r) (by simp)
    · rw [if_neg h]
      unfold isIntS
      simp at h
      simp [h]

theorem val_short : ∀ (xs : List Int), (∀ x ∈ xs, 0 ≤ x ∧ x < 256) → valS (shortS xs) = valS xs
  | [], _ => rfl
  | [_], _ => rfl
  | x :: y :: r, hb => by
    unfold shortS
    by_cases h : idleS x y = true
    · rw [if_pos h, val_short (y :: r) (fun z hz => hb z (List.mem_cons_of_mem _ hz))]
      show valF (sgn y) r = valF (sgn x * 256 + y) r
      have hy := hb y (by simp)
      have e : sgn y = sgn x * 256 + y := by
        unfold idleS at h
        simp at h
        unfold sgn
        rcases h with ⟨rfl, h⟩ | ⟨rfl, h⟩
        · rw [if_neg (by omega), if_neg (by omega)]; omega
        · rw [if_pos h, if_pos (by omega)]; omega
      rw [e]
    · rw [if_neg h]

theorem int_back (n : Int) (h0 : -9223372036854775808 ≤ n) (h1 : n < 9223372036854775808) : toIntE (intS n) = 0 ∧ toIntV (intS n) = n := by
  have hl := intS_len n
  have hne : lowS n 8 ≠ [] := by intro h; have := lowS_len 8 n; rw [h] at this; simp at this
  have hi : isIntS (intS n) = true := isInt_short _ hne
  obtain ⟨e1, e2⟩ := toInt_ok (intS n) hi (by omega)
  refine ⟨e1, ?_⟩
  rw [e2]
  unfold intS
  rw [val_short _ (lowS_byte 8 n)]
  exact valS_low 7 n (by omega) (by omega)

end Go.Proofs.Ytaeddbkkkiefcaa
