/-
  nat.divideRow: how often a number goes into a row of one limb more; the row becomes the rest.
-/
import Derived.Test.YtobdpcmafjhnlaaNGuess
namespace Go.Proofs.Ytobdpcmafjhnlaa
open Go.RowKit Go.IntWalk

/-- The value of a row whose limbs from a place on are those of another one that is small there. -/
theorem val_under {Z xs : List Int} (k : Nat) (hx : Dg 18446744073709551616 xs) (hz : Dg 18446744073709551616 Z) (hk : k ≤ Z.length) (hd : Z.drop k = xs.drop k) (hv : val 18446744073709551616 xs < pw 18446744073709551616 k) : val 18446744073709551616 Z < pw 18446744073709551616 k := by
  have h1 := val_small (b := 18446744073709551616) (by decide) hx k hv
  have h2 := val_split 18446744073709551616 Z k hk
  rw [hd, h1] at h2
  have h3 := val_lt (b := 18446744073709551616) (by decide) (hz.take k)
  rw [List.length_take, Nat.min_eq_left hk] at h3
  omega

/-- What is below 0 before a round of mending. -/
theorem mend (Z PP bl X q W Z' k : Int) (hZP : Z < PP) (hb : 1 ≤ bl) (hE : Z - PP * bl = X - q * W) (hX : 0 ≤ X) (hW : 0 ≤ W) (hWP : W < PP) (hZ' : 0 ≤ Z') (h : Z' + PP * k = Z + W) :
    X < q * W ∧ 1 ≤ q ∧ 0 ≤ bl - k ∧ Z' - PP * (bl - k) = X - (q - 1) * W := by
  have h1 := Int.mul_le_mul_of_nonneg_left hb (show 0 ≤ PP by omega)
  have e1 : X < q * W := by omega
  have e2 : 1 ≤ q := by
    rcases Int.lt_or_le q 1 with h' | h'
    · exfalso
      have := Int.mul_le_mul_of_nonneg_right (show q ≤ 0 by omega) hW
      omega
    · exact h'
  have e3 : Z' - PP * (bl - k) = X - (q - 1) * W := by
    have a1 : PP * (bl - k) = PP * bl - PP * k := by grind
    have a2 : (q - 1) * W = q * W - W := by grind
    omega
  refine ⟨e1, e2, ?_, e3⟩
  rcases Int.lt_or_le (bl - k) 0 with h' | h'
  · exfalso
    have := Int.mul_le_mul_of_nonneg_left (show bl - k ≤ -1 by omega) (show 0 ≤ PP by omega)
    have a2 : (q - 1) * W = q * W - W := by grind
    omega
  · exact h'

set_option maxRecDepth 100000 in
set_option maxHeartbeats 2000000 in
theorem divideRow_any (g off n m : Nat) (hnm : n = m + 1) (xs : List Int) (bo : Option Addr) (bc : Nat) (ys : List Int) (w : World) (hr : RowG .u64 18446744073709551616 52 w g xs) (hn : off + m + 1 < xs.length) (hl : xs.length ≤ 100000) (hs : SrcG .u64 18446744073709551616 w bo n bc ys) (hne : ∀ b o, bo = some ⟨b, o, none⟩ → ys ≠ [] → b ≠ g)
    (ht : 9223372036854775808 ≤ ys.getD m 0) (hR : val 18446744073709551616 xs < pw 18446744073709551616 off * (18446744073709551616 * val 18446744073709551616 ys)) :
    Calls Try.prog 67 #[.slice (some ⟨g, off, none⟩) (n + 1) (n + 1), .slice bo n bc] w fun e w' => ∃ (Z : List Int) (q : Int), e = .returned (.int .u64 q) ∧ 0 ≤ q ∧ q < 18446744073709551616 ∧ Z.length = xs.length ∧ RowG .u64 18446744073709551616 52 w' g Z ∧
      val 18446744073709551616 Z = val 18446744073709551616 xs - q * (pw 18446744073709551616 off * val 18446744073709551616 ys) ∧ val 18446744073709551616 Z < pw 18446744073709551616 off * val 18446744073709551616 ys ∧ w.grownBy w' (some g) ∧ w'.heap.size = w.heap.size := by
  have hyl := hs.hlen
  have hyd := hs.hdg
  have G := gs_ge off m hr.2 hyd hn (by omega) (by omega) hR
  have hi0 := hr.2.at (by decide : (0 : Int) < 18446744073709551616) (off + m + 1)
  have lo0 := hr.2.at (by decide : (0 : Int) < 18446744073709551616) (off + m)
  have t0 := hyd.at (by decide : (0 : Int) < 18446744073709551616) m
  have gi := gs_in (xs.getD (off + m + 1) 0) (xs.getD (off + m) 0) (ys.getD m 0) (by omega) hi0.1 lo0.1 lo0.2
  have cg := fun W : World => guess_any (xs.getD (off + m + 1) 0) (xs.getD (off + m) 0) (ys.getD m 0) W ht t0.2 hi0.1 lo0.1 lo0.2
  have e1 := hr.cell (off + n) (by omega)
  rw [show xs.getD (off + n) 0 = xs.getD (off + m + 1) 0 by rw [hnm]; rfl] at e1
  have e2 := hr.cell (off + m) (by omega)
  obtain ⟨b, o, hbo, e3⟩ := hs.at m (by omega)
  obtain ⟨q0, hq0⟩ : ∃ q, gs (xs.getD (off + m + 1) 0) (xs.getD (off + m) 0) (ys.getD m 0) = q := ⟨_, rfl⟩
  rw [hq0] at G gi cg
  obtain ⟨h, hh⟩ : ∃ h, xs.getD (off + m + 1) 0 = h := ⟨_, rfl⟩
  obtain ⟨l, hll⟩ : ∃ l, xs.getD (off + m) 0 = l := ⟨_, rfl⟩
  obtain ⟨t, htt⟩ : ∃ t, ys.getD m 0 = t := ⟨_, rfl⟩
  rw [hh] at e1 cg
  rw [hll] at e2 cg
  rw [htt] at e3 cg
  clear hq0 hh hll htt hi0 lo0 t0 ht
  have HG := hide G
  have CG := hide cg
  clear G cg
  -- the numbers
  have hp := pw_pos (b := 18446744073709551616) (by decide) off
  have vx := val_nonneg (b := 18446744073709551616) (by decide) hr.2
  have vy := val_lt (b := 18446744073709551616) (by decide) hyd
  have vy0 := val_nonneg (b := 18446744073709551616) (by decide) hyd
  rw [hyl] at vy
  have hW0 : 0 ≤ pw 18446744073709551616 off * val 18446744073709551616 ys := Int.mul_nonneg (by omega) vy0
  have hWP : pw 18446744073709551616 off * val 18446744073709551616 ys < pw 18446744073709551616 (off + (n + 1)) := by
    have h1 := Int.mul_lt_mul_of_pos_left vy hp
    have h2 := pw_mono (b := 18446744073709551616) (by decide) (off + n) (off + (n + 1)) (by omega)
    rw [← pw_add] at h1
    omega
  have hXP : val 18446744073709551616 xs < pw 18446744073709551616 (off + (n + 1)) := by
    have h1 := Int.mul_le_mul_of_nonneg_left (show val 18446744073709551616 ys ≤ pw 18446744073709551616 n by omega) (show (0 : Int) ≤ 18446744073709551616 by omega)
    have h2 := Int.mul_le_mul_of_nonneg_left h1 (show 0 ≤ pw 18446744073709551616 off by omega)
    have h3 : pw 18446744073709551616 off * (18446744073709551616 * pw 18446744073709551616 n) = pw 18446744073709551616 (off + (n + 1)) := by rw [pw_add _ off, pw_succ _ n]
    omega
  have HX := hide hr.2
  have HN : Hid (off + n < xs.length) := by unfold Hid; omega
  have hsub : (n : Int) - 1 = (m : Int) := by omega
  have hn0 : (m : Int) < (n : Int) := by omega
  have hn1 : (m : Int) < (n : Int) + 1 := by omega
  have hnI : (n : Int) < 100000 := by omega
  have HYT : Hid (ys.take (n + 1) = ys) := by unfold Hid; exact List.take_of_length_le (by omega)
  have HB : Hid (0 ≤ val 18446744073709551616 xs ∧ 0 ≤ pw 18446744073709551616 off * val 18446744073709551616 ys ∧ pw 18446744073709551616 off * val 18446744073709551616 ys < pw 18446744073709551616 (off + (n + 1)) ∧ val 18446744073709551616 xs < pw 18446744073709551616 (off + (n + 1))) := ⟨vx, hW0, hWP, hXP⟩
  clear vx vy vy0 hW0 hWP hXP hp hR hyd hyl
  clear hn hnm
  have hs2 := hide hs
  have hr2 := hide hr
  subst hbo
  clear hs hr
  go_enter Try.func67, Try.ntmps67
  go_wp2_with fail
  go_quiet ((go_at_call 76; exact Calls.quiet_of (CG.out _)))
  go_wp2_with fail
  refine (subTimes_any g off (n + 1) (n + 1) xs _ n bc ys q0 _ ?_ (by have := HN.out; omega) (by omega) ?_ hne gi.1 gi.2).mono ?_
  · exact hr2.out.heap rfl
  · exact hs2.out.heap rfl
  rintro e w1 ⟨Z, k, rfl, hk0, hk1, hZl, hR3, hdr, hv, hg3, hs3⟩
  rw [HYT.out] at hv
  have HV0 : Hid (val 18446744073709551616 Z - pw 18446744073709551616 (off + (n + 1)) * k = val 18446744073709551616 xs - q0 * (pw 18446744073709551616 off * val 18446744073709551616 ys)) := by unfold Hid; rw [hv]; grind
  have hgw : w.grownBy w1 (some g) := ⟨hg3.os, hg3.tape, hg3.output, hg3.size, hg3.block⟩
  have HS0 : Hid (w1.heap.size = w.heap.size) := hs3
  clear hv hg3 hs3
  go_wp2
  go_loopw [6, 7] (fun a c wr => ∃ (q k : Int) (Z : List Int), a = .int .u64 q ∧ c = .int .u64 k ∧ 0 ≤ q ∧ q < 18446744073709551616 ∧ 0 ≤ k ∧ k < 18446744073709551616 ∧ Hid (Z.length = xs.length) ∧ Hid (RowG .u64 18446744073709551616 52 wr g Z) ∧ Hid (Z.drop (off + (n + 1)) = xs.drop (off + (n + 1))) ∧ Hid (val 18446744073709551616 Z - pw 18446744073709551616 (off + (n + 1)) * k = val 18446744073709551616 xs - q * (pw 18446744073709551616 off * val 18446744073709551616 ys)) ∧ Hid (val 18446744073709551616 xs < (q + 1) * (pw 18446744073709551616 off * val 18446744073709551616 ys)) ∧ w.grownBy wr (some g) ∧ Hid (wr.heap.size = w.heap.size)) (fun a _ _ => (intOf a).toNat)
  case atStart => exact ⟨q0, k, Z, rfl, rfl, gi.1, gi.2, hk0, hk1, hZl, hR3, hdr, HV0, HG, hgw, HS0⟩
  case round =>
    have HLL := hide hl
    clear hl hnI
    have HNE := hide hne
    clear hne
    clear HV0 HG hgw HS0 hR3 hdr hZl hk0 hk1 hsub hn0 hn1 e1 e2 e3 CG gi
    obtain ⟨q, k, Z, rfl, rfl, hq0, hq1, hk0, hk1, HZ, HR, HD, HV, HG, hg, HS⟩ := hrel
    by_cases hkz : k = 0
    · subst hkz
      go_wp2
      go_ret
      have hv := HV.out
      have hgg := HG.out
      refine ⟨Z, q, rfl, hq0, hq1, HZ.out, HR.out, by omega, ?_, hg, HS.out⟩
      have : (q + 1) * (pw 18446744073709551616 off * val 18446744073709551616 ys) = q * (pw 18446744073709551616 off * val 18446744073709551616 ys) + pw 18446744073709551616 off * val 18446744073709551616 ys := by grind
      omega
    · have hsy := hs2.out.grown hg (fun b o he hy h' => HNE.out b o he hy (by simpa using h'))
      have ZP := val_under (off + (n + 1)) HX.out HR.out.2 (by rw [HZ.out]; have := HN.out; omega) HD.out HB.out.2.2.2
      have Z0 := val_nonneg (b := 18446744073709551616) (by decide) HR.out.2
      have q1 : 1 ≤ q := by
        have h1 := Int.mul_le_mul_of_nonneg_left (show 1 ≤ k by omega) (show 0 ≤ pw 18446744073709551616 (off + (n + 1)) by omega)
        rcases Int.lt_or_le q 1 with h' | h'
        · exfalso
          have := Int.mul_le_mul_of_nonneg_right (show q ≤ 0 by omega) HB.out.2.1
          have := HV.out
          have := HB.out.1
          omega
        · exact h'
      have HZP := hide ZP
      have q2 : 0 ≤ q - 1 := by omega
      have hkb : (k == 0) = false := by simpa using hkz
      have HKZ := hide hkz
      clear hkz
      clear q1
      have HSY := hide hsy
      clear hsy
      have HZ0 := hide Z0
      clear ZP Z0
      go_wp2_with fail
      refine (addTimes_any g off (n + 1) (n + 1) Z _ n bc ys 1 _ HR.out (by rw [HZ.out]; have := HN.out; omega) (by rw [HZ.out]; have := HLL.out; omega) HSY.out HNE.out (by omega) (by omega)).mono ?_
      rintro e w3 ⟨Z', k', rfl, hk'0, hk'1, hZl, hR3, hdr, hv, hg3, hs3⟩
      rw [HYT.out] at hv
      have M := mend (val 18446744073709551616 Z) (pw 18446744073709551616 (off + (n + 1))) k (val 18446744073709551616 xs) q (pw 18446744073709551616 off * val 18446744073709551616 ys) (val 18446744073709551616 Z') k' HZP.out (by have := HKZ.out; omega) HV.out HB.out.1 HB.out.2.1 HB.out.2.2.1 (val_nonneg (b := 18446744073709551616) (by decide) hR3.2) (by rw [hv, Int.one_mul])
      obtain ⟨M1, _, M3, M4⟩ := M
      have HM1 := hide M1
      have HM4 := hide M4
      have HZ' : Hid (Z'.length = xs.length) := by unfold Hid; rw [hZl, HZ.out]
      have HD' : Hid (Z'.drop (off + (n + 1)) = xs.drop (off + (n + 1))) := by unfold Hid; rw [hdr, HD.out]
      have HS' : Hid (w3.heap.size = w.heap.size) := by unfold Hid; rw [hs3, HS.out]
      have HR' := hide hR3
      have hg' := gTrans hg hg3
      have w2 : IntKind.u64.wrap (k - k') = k - k' := by rw [IntKind.wrap_u64]; omega
      clear hv hR3 hdr hs3 hg3 hg M1 M4 hZl
      go_wp2
      go_roundw
      case rel => exact ⟨q - 1, k - k', Z', rfl, rfl, by omega, by omega, M3, by omega, HZ', HR', HD', HM4, by unfold Hid; rw [show q - 1 + 1 = q by omega]; exact HM1.out, hg', HS'⟩
      case measure => simp [intOf] <;> omega

end Go.Proofs.Ytobdpcmafjhnlaa
