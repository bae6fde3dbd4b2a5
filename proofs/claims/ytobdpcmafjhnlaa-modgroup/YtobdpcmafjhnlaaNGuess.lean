/-
  nat.guess and nat.divideRow: a limb of a quotient; the row becomes the rest.
-/
import Derived.Test.YtobdpcmafjhnlaaNDiv64
namespace Go.Proofs.Ytobdpcmafjhnlaa
open Go.RowKit Go.IntWalk

/-- The guess. -/
def gs (hi lo t : Int) : Int := if t ≤ hi then 18446744073709551615 else (hi * 18446744073709551616 + lo) / t

theorem gs_in (hi lo t : Int) (ht : 0 < t) (hh0 : 0 ≤ hi) (hl0 : 0 ≤ lo) (hl1 : lo < 18446744073709551616) : 0 ≤ gs hi lo t ∧ gs hi lo t < 18446744073709551616 := by
  unfold gs
  split
  · omega
  · refine ⟨Int.ediv_nonneg (by omega) (by omega), Int.ediv_lt_of_lt_mul ht ?_⟩
    have := Int.mul_le_mul_of_nonneg_left (show hi + 1 ≤ t by omega) (show (0 : Int) ≤ 18446744073709551616 by omega)
    omega

set_option maxRecDepth 100000 in
theorem guess_any (hi lo t : Int) (w : World) (ht0 : 9223372036854775808 ≤ t) (ht1 : t < 18446744073709551616) (hh0 : 0 ≤ hi) (hl0 : 0 ≤ lo) (hl1 : lo < 18446744073709551616) :
    Calls Try.prog 76 #[.int .u64 hi, .int .u64 lo, .int .u64 t] w fun e w' => e = .returned (.int .u64 (gs hi lo t)) ∧ ∃ m, w' = w.drewN m := by
  by_cases h : t ≤ hi
  · have e : gs hi lo t = 18446744073709551615 := by unfold gs; rw [if_pos h]
    rw [e]
    go_enter Try.func76, Try.ntmps76
    go_wp2
    go_ret
    exact ⟨rfl, 0, rfl⟩
  · have e : gs hi lo t = (hi * 18446744073709551616 + lo) / t := by unfold gs; rw [if_neg h]
    have cd := div64_any hi lo t w ht0 ht1 hh0 (by omega) hl0 hl1
    rw [← e] at cd
    obtain ⟨q, hq⟩ : ∃ q, gs hi lo t = q := ⟨_, rfl⟩
    rw [hq] at cd
    rw [hq]
    clear e hq
    have CD := hide cd
    clear cd
    go_enter Try.func76, Try.ntmps76
    go_wp2_with fail
    refine CD.out.mono ?_
    rintro e w1 ⟨⟨r, rfl⟩, m, hw⟩
    go_wp2
    go_ret
    exact ⟨rfl, m, by first | rfl | exact hw⟩

theorem pw_succ (b : Int) (i : Nat) : pw b (i + 1) = b * pw b i := rfl
theorem two_top (b V lo hi P Q : Int) : V + lo * P + hi * (b * P) + Q * 0 = (hi * b + lo) * P + V := by grind
theorem one_top (O V t K Q : Int) : O * (V + t * K + Q * val 18446744073709551616 []) = t * (O * K) + O * V := by rw [show val 18446744073709551616 [] = 0 from rfl]; grind

/-- The guess is no less than the limb. -/
theorem gs_ge {xs ys : List Int} (off m : Nat) (hx : Dg 18446744073709551616 xs) (hy : Dg 18446744073709551616 ys) (hl : off + m + 1 < xs.length) (hyl : ys.length = m + 1) (ht : 0 < ys.getD m 0) (hR : val 18446744073709551616 xs < pw 18446744073709551616 off * (18446744073709551616 * val 18446744073709551616 ys)) :
    val 18446744073709551616 xs < (gs (xs.getD (off + m + 1) 0) (xs.getD (off + m) 0) (ys.getD m 0) + 1) * (pw 18446744073709551616 off * val 18446744073709551616 ys) := by
  have hp := pw_pos (b := 18446744073709551616) (by decide) off
  have hi0 := hx.at (by decide : (0 : Int) < 18446744073709551616) (off + m + 1)
  have lo0 := hx.at (by decide : (0 : Int) < 18446744073709551616) (off + m)
  have g := gs_in (xs.getD (off + m + 1) 0) (xs.getD (off + m) 0) (ys.getD m 0) ht hi0.1 lo0.1 lo0.2
  have vy := val_lt (b := 18446744073709551616) (by decide) hy
  have vy0 := val_nonneg (b := 18446744073709551616) (by decide) hy
  rw [hyl] at vy
  by_cases h : ys.getD m 0 ≤ xs.getD (off + m + 1) 0
  · have e : gs (xs.getD (off + m + 1) 0) (xs.getD (off + m) 0) (ys.getD m 0) = 18446744073709551615 := by unfold gs; rw [if_pos h]
    rw [e]
    have e2 : (18446744073709551615 + 1) * (pw 18446744073709551616 off * val 18446744073709551616 ys) = pw 18446744073709551616 off * (18446744073709551616 * val 18446744073709551616 ys) := by grind
    rw [e2]
    exact hR
  · have e : gs (xs.getD (off + m + 1) 0) (xs.getD (off + m) 0) (ys.getD m 0) = (xs.getD (off + m + 1) 0 * 18446744073709551616 + xs.getD (off + m) 0) / ys.getD m 0 := by unfold gs; rw [if_neg h]
    have hlt : val 18446744073709551616 xs < pw 18446744073709551616 (off + m + 1 + 1) := by
      have h1 := Int.mul_le_mul_of_nonneg_left (show val 18446744073709551616 ys ≤ pw 18446744073709551616 (m + 1) by omega) (show (0 : Int) ≤ 18446744073709551616 by omega)
      have h2 := Int.mul_le_mul_of_nonneg_left h1 (show 0 ≤ pw 18446744073709551616 off by omega)
      have h3 : pw 18446744073709551616 off * (18446744073709551616 * pw 18446744073709551616 (m + 1)) = pw 18446744073709551616 (off + m + 1 + 1) := by
        rw [show off + m + 1 + 1 = off + ((m + 1) + 1) by omega, pw_add _ off, pw_succ _ (m + 1)]
      omega
    have hz := val_small (b := 18446744073709551616) (by decide) hx (off + m + 1 + 1) hlt
    have hs := val_split 18446744073709551616 xs (off + m + 1 + 1) (by omega)
    rw [hz, val_take_succ, val_take_succ] at hs
    have hv := val_split 18446744073709551616 ys (m + 1) (by omega)
    rw [List.drop_eq_nil_of_le (by omega), val_take_succ] at hv
    have r1 := val_lt (b := 18446744073709551616) (by decide) (hx.take (off + m))
    rw [List.length_take, Nat.min_eq_left (by omega)] at r1
    have r2 := val_nonneg (b := 18446744073709551616) (by decide) (hy.take m)
    have hpp := pw_pos (b := 18446744073709551616) (by decide) (off + m)
    refine guess_ge (pw 18446744073709551616 (off + m)) _ _ (xs.getD (off + m + 1) 0) (xs.getD (off + m) 0) (ys.getD m 0) (val 18446744073709551616 (xs.take (off + m))) (pw 18446744073709551616 off * val 18446744073709551616 (ys.take m)) _ hpp ?_ ?_ r1 (Int.mul_nonneg (by omega) r2) ht e g.1
    · rw [hs, pw_succ _ (off + m)]
      exact two_top _ _ _ _ _ _
    · rw [hv, pw_add _ off m]
      exact one_top _ _ _ _ _

end Go.Proofs.Ytobdpcmafjhnlaa
