/-
  nat.addTimes and nat.subTimes: a number times a limb, added to a row of limbs or taken from it; what is carried, or borrowed, is answered.
-/
import Derived.Test.YtobdpcmafjhnlaaNTrim
import Derived.Test.YtobdpcmafjhnlaaShelfAll
import Derived.Shelf.Spec.BitsCarry
namespace Go.Proofs.Ytobdpcmafjhnlaa
open Go.RowKit Go.IntWalk

theorem add64_run (x y : Int) (hx : 0 ≤ x) (hy : 0 ≤ y) (w : World) :
    (callFunc 75 #[.int .u64 x, .int .u64 y, .int .u64 0]).run Try.prog w = .ok (.value (.tuple #[.int .u64 ((x + y) % 18446744073709551616), .int .u64 ((x + y) / 18446744073709551616)])) w := by
  rw [run_callFunc_extern Try.func75 (by kernel_rfl) (by kernel_rfl) (by kernel_rfl) (e := add64Entry) (by kernel_rfl), run_add64 x y 0 hx hy (by omega) (by omega)]
  simp only [Result.andThen_ok, Int.add_zero]

theorem sub64_run (x y : Int) (hx : 0 ≤ x) (hy : 0 ≤ y) (hx1 : x < 18446744073709551616) (hy1 : y < 18446744073709551616) (w : World) :
    (callFunc 79 #[.int .u64 x, .int .u64 y, .int .u64 0]).run Try.prog w = .ok (.value (.tuple #[.int .u64 ((x - y) % 18446744073709551616), .int .u64 (if x < y then 1 else 0)])) w := by
  obtain ⟨X, rfl⟩ := Int.eq_ofNat_of_zero_le hx
  obtain ⟨Y, rfl⟩ := Int.eq_ofNat_of_zero_le hy
  rw [run_callFunc_extern Try.func79 (by kernel_rfl) (by kernel_rfl) (by kernel_rfl) (e := sub64Entry) (by kernel_rfl)]
  have := run_sub64 (P := Try.prog) X Y 0 (by omega) w
  simp only [Int.natCast_zero] at this
  rw [this]
  simp only [Result.andThen_ok]
  have e1 : (((X + 18446744073709551616 - Y - 0) % 18446744073709551616 : Nat) : Int) = ((X : Int) - (Y : Int)) % 18446744073709551616 := by omega
  have e2 : ((if X < Y + 0 then 1 else 0 : Nat) : Int) = if (X : Int) < (Y : Int) then 1 else 0 := by split <;> split <;> omega
  rw [e1, e2]

theorem mul64_any (x y : Int) (hx : 0 ≤ x) (hy : 0 ≤ y) (hx1 : x < 18446744073709551616) (hy1 : y < 18446744073709551616) (w : World) :
    Calls Try.prog 73 #[.int .u64 x, .int .u64 y] w fun e w' => e = .returned (.tuple #[.int .u64 (x * y / 18446744073709551616), .int .u64 (x * y % 18446744073709551616)]) ∧ w' = w := by
  obtain ⟨X, rfl⟩ := Int.eq_ofNat_of_zero_le hx
  obtain ⟨Y, rfl⟩ := Int.eq_ofNat_of_zero_le hy
  have := Try.bits_Mul64 X Y (by omega) (by omega) w
  have e1 : ((X * Y / 18446744073709551616 : Nat) : Int) = (X : Int) * (Y : Int) / 18446744073709551616 := by rw [Int.natCast_ediv, Int.natCast_mul]; rfl
  have e2 : ((X * Y % 18446744073709551616 : Nat) : Int) = (X : Int) * (Y : Int) % 18446744073709551616 := by rw [Int.natCast_emod, Int.natCast_mul]; rfl
  rw [e1, e2] at this
  exact this

theorem mul_max (x y : Int) (hx : 0 ≤ x) (hy : 0 ≤ y) (hx1 : x < 18446744073709551616) (hy1 : y < 18446744073709551616) : 0 ≤ x * y ∧ x * y ≤ 340282366920938463426481119284349108225 := by
  refine ⟨Int.mul_nonneg hx hy, ?_⟩
  have := Int.mul_le_mul (show x ≤ 18446744073709551615 by omega) (show y ≤ 18446744073709551615 by omega) hy (by omega : (0 : Int) ≤ 18446744073709551615)
  simpa using this

/-- One limb of a sum. -/
theorem add_limb (p c r hi lo s1 o1 s2 o2 : Int) (hp : 0 ≤ p ∧ p ≤ 340282366920938463426481119284349108225) (hc : 0 ≤ c ∧ c < 18446744073709551616) (hr : 0 ≤ r ∧ r < 18446744073709551616) (h1 : hi = p / 18446744073709551616) (h2 : lo = p % 18446744073709551616) (h3 : s1 = (lo + c) % 18446744073709551616) (h4 : o1 = (lo + c) / 18446744073709551616) (h5 : s2 = (r + s1) % 18446744073709551616) (h6 : o2 = (r + s1) / 18446744073709551616) :
    s2 + 18446744073709551616 * (hi + o1 + o2) = r + p + c ∧ 0 ≤ hi + o1 ∧ hi + o1 < 18446744073709551616 ∧ 0 ≤ hi + o1 + o2 ∧ hi + o1 + o2 < 18446744073709551616 ∧ 0 ≤ s2 ∧ s2 < 18446744073709551616 := by omega

/-- One limb of a difference. -/
theorem sub_limb (p c r hi lo s1 o1 s2 o2 : Int) (hp : 0 ≤ p ∧ p ≤ 340282366920938463426481119284349108225) (hc : 0 ≤ c ∧ c < 18446744073709551616) (hr : 0 ≤ r ∧ r < 18446744073709551616) (h1 : hi = p / 18446744073709551616) (h2 : lo = p % 18446744073709551616) (h3 : s1 = (lo + c) % 18446744073709551616) (h4 : o1 = (lo + c) / 18446744073709551616) (h5 : s2 = (r - s1) % 18446744073709551616) (h6 : o2 = if r < s1 then 1 else 0) :
    s2 - 18446744073709551616 * (hi + o1 + o2) = r - p - c ∧ 0 ≤ hi + o1 ∧ hi + o1 < 18446744073709551616 ∧ 0 ≤ hi + o1 + o2 ∧ hi + o1 + o2 < 18446744073709551616 ∧ 0 ≤ s2 ∧ s2 < 18446744073709551616 := by split at h6 <;> omega

theorem sum_step (b s r c' y x C Z X P K V Q : Int) (hQ : Q = P * K) (H : s + b * c' = r + y * x + C) (IH : Z + Q * C = X + P * (x * V)) : Z + (s - r) * Q + b * Q * c' = X + P * (x * (V + y * K)) := by
  have e : Z + (s - r) * Q + b * Q * c' = Z + Q * C + Q * (s + b * c' - r - C) := by grind
  rw [e, IH, H, hQ]
  grind

theorem dif_step (b s r c' y x C Z X P K V Q : Int) (hQ : Q = P * K) (H : s - b * c' = r - y * x - C) (IH : Z - Q * C = X - P * (x * V)) : Z + (s - r) * Q - b * Q * c' = X - P * (x * (V + y * K)) := by
  have e : Z + (s - r) * Q - b * Q * c' = Z - Q * C + Q * (s - b * c' - r + C) := by grind
  rw [e, IH, H, hQ]
  grind

theorem drop_next {Z xs : List Int} {i : Nat} (h : Z.drop i = xs.drop i) (u : Int) : (Z.set i u).drop (i + 1) = xs.drop (i + 1) := by
  rw [List.drop_set_of_lt (by omega), ← List.drop_drop, ← List.drop_drop, h]


set_option maxRecDepth 100000 in
set_option maxHeartbeats 1000000 in
theorem addTimes_any (g off n c : Nat) (xs : List Int) (bo : Option Addr) (bn bc : Nat) (ys : List Int) (x : Int) (w : World) (hr : RowG .u64 18446744073709551616 52 w g xs) (hn : off + n ≤ xs.length) (hl : xs.length ≤ 1000000) (hs : SrcG .u64 18446744073709551616 w bo bn bc ys) (hne : ∀ b o, bo = some ⟨b, o, none⟩ → ys ≠ [] → b ≠ g) (hx0 : 0 ≤ x) (hx1 : x < 18446744073709551616) :
    Calls Try.prog 66 #[.slice (some ⟨g, off, none⟩) n c, .slice bo bn bc, .int .u64 x] w fun e w' => ∃ (Z : List Int) (k : Int), e = .returned (.int .u64 k) ∧ 0 ≤ k ∧ k < 18446744073709551616 ∧ Z.length = xs.length ∧ RowG .u64 18446744073709551616 52 w' g Z ∧ Z.drop (off + n) = xs.drop (off + n) ∧
      val 18446744073709551616 Z + pw 18446744073709551616 (off + n) * k = val 18446744073709551616 xs + pw 18446744073709551616 off * (x * val 18446744073709551616 (ys.take n)) ∧ w.grownBy w' (some g) ∧ w'.heap.size = w.heap.size := by
  have HDy := hide hs.hdg
  have HN := hide hn
  have hnI : (n : Int) ≤ 1000000 := by omega
  go_enter Try.func66, Try.ntmps66
  go_wp2
  go_loopw [7, 14] (fun cv i wr => ∃ (k : Nat) (C : Int) (Z : List Int), k ≤ n ∧ i = .int .i64 k ∧ cv = .int .u64 C ∧ 0 ≤ C ∧ C < 18446744073709551616 ∧ Hid (Z.length = xs.length) ∧ RowG .u64 18446744073709551616 52 wr g Z ∧ Hid (Z.drop (off + k) = xs.drop (off + k)) ∧ Hid (val 18446744073709551616 Z + pw 18446744073709551616 (off + k) * C = val 18446744073709551616 xs + pw 18446744073709551616 off * (x * val 18446744073709551616 (ys.take k))) ∧ w.grownBy wr (some g) ∧ Hid (wr.heap.size = w.heap.size)) (fun _ i _ => n - (intOf i).toNat)
  case atStart => exact ⟨0, 0, xs, Nat.zero_le _, rfl, rfl, by omega, by omega, rfl, hr, rfl, by unfold Hid; simp [val], World.grownBy.refl _ _, rfl⟩
  case round =>
    obtain ⟨k, C, Z, hk, rfl, rfl, hC0, hC1, HZ, hR, HDr, HV, hg, HS⟩ := hrel
    by_cases hkn : k < n
    · have hb := hs.grown hg (fun b o he hy h' => hne b o he hy (by simpa using h'))
      have hcell := hR.cell (off + k) (by rw [HZ.out]; have := HN.out; omega)
      have hfz := hR.frozen (off + k)
      have hr0 := hR.2.at (by decide : (0 : Int) < 18446744073709551616) (off + k)
      have hy0 := HDy.out.at (by decide : (0 : Int) < 18446744073709551616) k
      obtain ⟨r, hrr⟩ : ∃ r, Z.getD (off + k) 0 = r := ⟨_, rfl⟩
      obtain ⟨y, hyy⟩ : ∃ y, ys.getD k 0 = y := ⟨_, rfl⟩
      have hlimb : ∀ W, SrcG .u64 18446744073709551616 W bo bn bc ys → Calls Try.prog 74 #[.slice bo bn bc, .int .i64 (k : Int)] W fun e w' => e = .returned (.int .u64 y) ∧ w' = W := by
        intro W hW
        rw [← hyy]
        exact limb_any bo bn bc ys k _ rfl W hW
      have HL := hide hlimb
      have HRR := hide hrr
      have HYY := hide hyy
      rw [hrr] at hcell hr0
      rw [hyy] at hy0
      clear hrr hyy hlimb
      have hp := mul_max y x hy0.1 hx0 hy0.2 hx1
      obtain ⟨hi, hhi⟩ : ∃ hi, hi = y * x / 18446744073709551616 := ⟨_, rfl⟩
      obtain ⟨lo, hlo⟩ : ∃ lo, lo = y * x % 18446744073709551616 := ⟨_, rfl⟩
      have hmul : ∀ W, Calls Try.prog 73 #[.int .u64 y, .int .u64 x] W fun e w' => e = .returned (.tuple #[.int .u64 hi, .int .u64 lo]) ∧ w' = W := by
        intro W
        rw [hhi, hlo]
        exact mul64_any y x hy0.1 hx0 hy0.2 hx1 W
      have HM := hide hmul
      clear hmul
      obtain ⟨s1, hs1⟩ : ∃ s1, s1 = (lo + C) % 18446744073709551616 := ⟨_, rfl⟩
      obtain ⟨o1, ho1⟩ : ∃ o1, o1 = (lo + C) / 18446744073709551616 := ⟨_, rfl⟩
      have hA1 : ∀ W : World, (callFunc 75 #[.int .u64 lo, .int .u64 C, .int .u64 0]).run Try.prog W = .ok (.value (.tuple #[.int .u64 s1, .int .u64 o1])) W := by
        intro W; rw [hs1, ho1]; exact add64_run lo C (by omega) hC0 W
      have hs1b : 0 ≤ s1 ∧ s1 < 18446744073709551616 := by omega
      obtain ⟨s2, hs2⟩ : ∃ s2, s2 = (r + s1) % 18446744073709551616 := ⟨_, rfl⟩
      obtain ⟨o2, ho2⟩ : ∃ o2, o2 = (r + s1) / 18446744073709551616 := ⟨_, rfl⟩
      have hA2 : ∀ W : World, (callFunc 75 #[.int .u64 r, .int .u64 s1, .int .u64 0]).run Try.prog W = .ok (.value (.tuple #[.int .u64 s2, .int .u64 o2])) W := by
        intro W; rw [hs2, ho2]; exact add64_run r s1 hr0.1 hs1b.1 W
      have hlimbs := add_limb (y * x) C r hi lo s1 o1 s2 o2 hp ⟨hC0, hC1⟩ hr0 hhi hlo hs1 ho1 hs2 ho2
      obtain ⟨q0, q1, q2, q3, q4, q5, q6⟩ := hlimbs
      have Q0 := hide q0
      have w1 : IntKind.u64.wrap (hi + o1) = hi + o1 := by rw [IntKind.wrap_u64]; omega
      have w2 : IntKind.u64.wrap (hi + o1 + o2) = hi + o1 + o2 := by rw [IntKind.wrap_u64]; omega
      have hkI : (k : Int) < (n : Int) := by omega
      have hR' := hR.set (off + k) s2 ⟨q5, q6⟩
      have hG' := gTrans hg (gSet wr g (off + k) (.int .u64 s2))
      have HS' : Hid ((wr.setCell ⟨g, off + k, none⟩ (.int .u64 s2)).heap.size = w.heap.size) := by unfold Hid; simp [HS.out]
      have HV' : Hid (val 18446744073709551616 (Z.set (off + k) s2) + pw 18446744073709551616 (off + (k + 1)) * (hi + o1 + o2) = val 18446744073709551616 xs + pw 18446744073709551616 off * (x * val 18446744073709551616 (ys.take (k + 1)))) := by
        unfold Hid
        have e := sum_step 18446744073709551616 s2 r (hi + o1 + o2) y x C (val 18446744073709551616 Z) (val 18446744073709551616 xs) (pw 18446744073709551616 off) (pw 18446744073709551616 k) (val 18446744073709551616 (ys.take k)) (pw 18446744073709551616 (off + k)) (pw_add _ _ _) Q0.out HV.out
        rw [val_set _ _ _ _ (by rw [HZ.out]; have := HN.out; omega), val_take_succ, HRR.out, HYY.out, ← Nat.add_assoc, pw]
        exact e
      have HZ' : Hid ((Z.set (off + k) s2).length = xs.length) := by unfold Hid; rw [List.length_set]; exact HZ.out
      have HDr' : Hid ((Z.set (off + k) s2).drop (off + (k + 1)) = xs.drop (off + (k + 1))) := by unfold Hid; rw [← Nat.add_assoc]; exact drop_next HDr.out s2
      have HR' := hide hR'
      have HG' := hide hG'
      clear hR' hG' hR hg hhi hlo hs1 ho1 hs2 ho2 hp q0 HV HDr
      go_wp2_with (first | (go_at_call 74; refine (HL.out _ hb).mono ?_; rintro e w1 ⟨rfl, hw⟩; have hw2 := hw.symm; subst hw2) | (go_at_call 73; refine (HM.out _).mono ?_; rintro e w1 ⟨rfl, hw⟩; have hw2 := hw.symm; subst hw2))
      go_roundw
      case rel => exact ⟨k + 1, hi + o1 + o2, Z.set (off + k) s2, by omega, by go_num, rfl, q3, q4, HZ', HR'.out, HDr', HV', HG'.out, HS'⟩
      case measure => simp [intOf] <;> omega
    · obtain rfl : k = n := by omega
      go_wp2
      go_ret
      exact ⟨Z, C, rfl, hC0, hC1, HZ.out, hR, HDr.out, HV.out, hg, HS.out⟩

set_option maxRecDepth 100000 in
set_option maxHeartbeats 1000000 in
theorem subTimes_any (g off n c : Nat) (xs : List Int) (bo : Option Addr) (bn bc : Nat) (ys : List Int) (x : Int) (w : World) (hr : RowG .u64 18446744073709551616 52 w g xs) (hn : off + n ≤ xs.length) (hl : xs.length ≤ 1000000) (hs : SrcG .u64 18446744073709551616 w bo bn bc ys) (hne : ∀ b o, bo = some ⟨b, o, none⟩ → ys ≠ [] → b ≠ g) (hx0 : 0 ≤ x) (hx1 : x < 18446744073709551616) :
    Calls Try.prog 70 #[.slice (some ⟨g, off, none⟩) n c, .slice bo bn bc, .int .u64 x] w fun e w' => ∃ (Z : List Int) (k : Int), e = .returned (.int .u64 k) ∧ 0 ≤ k ∧ k < 18446744073709551616 ∧ Z.length = xs.length ∧ RowG .u64 18446744073709551616 52 w' g Z ∧ Z.drop (off + n) = xs.drop (off + n) ∧
      val 18446744073709551616 Z - pw 18446744073709551616 (off + n) * k = val 18446744073709551616 xs - pw 18446744073709551616 off * (x * val 18446744073709551616 (ys.take n)) ∧ w.grownBy w' (some g) ∧ w'.heap.size = w.heap.size := by
  have HDy := hide hs.hdg
  have HN := hide hn
  have hnI : (n : Int) ≤ 1000000 := by omega
  go_enter Try.func70, Try.ntmps70
  go_wp2
  go_loopw [7, 14] (fun cv i wr => ∃ (k : Nat) (C : Int) (Z : List Int), k ≤ n ∧ i = .int .i64 k ∧ cv = .int .u64 C ∧ 0 ≤ C ∧ C < 18446744073709551616 ∧ Hid (Z.length = xs.length) ∧ RowG .u64 18446744073709551616 52 wr g Z ∧ Hid (Z.drop (off + k) = xs.drop (off + k)) ∧ Hid (val 18446744073709551616 Z - pw 18446744073709551616 (off + k) * C = val 18446744073709551616 xs - pw 18446744073709551616 off * (x * val 18446744073709551616 (ys.take k))) ∧ w.grownBy wr (some g) ∧ Hid (wr.heap.size = w.heap.size)) (fun _ i _ => n - (intOf i).toNat)
  case atStart => exact ⟨0, 0, xs, Nat.zero_le _, rfl, rfl, by omega, by omega, rfl, hr, rfl, by unfold Hid; simp [val], World.grownBy.refl _ _, rfl⟩
  case round =>
    obtain ⟨k, C, Z, hk, rfl, rfl, hC0, hC1, HZ, hR, HDr, HV, hg, HS⟩ := hrel
    by_cases hkn : k < n
    · have hb := hs.grown hg (fun b o he hy h' => hne b o he hy (by simpa using h'))
      have hcell := hR.cell (off + k) (by rw [HZ.out]; have := HN.out; omega)
      have hfz := hR.frozen (off + k)
      have hr0 := hR.2.at (by decide : (0 : Int) < 18446744073709551616) (off + k)
      have hy0 := HDy.out.at (by decide : (0 : Int) < 18446744073709551616) k
      obtain ⟨r, hrr⟩ : ∃ r, Z.getD (off + k) 0 = r := ⟨_, rfl⟩
      obtain ⟨y, hyy⟩ : ∃ y, ys.getD k 0 = y := ⟨_, rfl⟩
      have hlimb : ∀ W, SrcG .u64 18446744073709551616 W bo bn bc ys → Calls Try.prog 74 #[.slice bo bn bc, .int .i64 (k : Int)] W fun e w' => e = .returned (.int .u64 y) ∧ w' = W := by
        intro W hW
        rw [← hyy]
        exact limb_any bo bn bc ys k _ rfl W hW
      have HL := hide hlimb
      have HRR := hide hrr
      have HYY := hide hyy
      rw [hrr] at hcell hr0
      rw [hyy] at hy0
      clear hrr hyy hlimb
      have hp := mul_max y x hy0.1 hx0 hy0.2 hx1
      obtain ⟨hi, hhi⟩ : ∃ hi, hi = y * x / 18446744073709551616 := ⟨_, rfl⟩
      obtain ⟨lo, hlo⟩ : ∃ lo, lo = y * x % 18446744073709551616 := ⟨_, rfl⟩
      have hmul : ∀ W, Calls Try.prog 73 #[.int .u64 y, .int .u64 x] W fun e w' => e = .returned (.tuple #[.int .u64 hi, .int .u64 lo]) ∧ w' = W := by
        intro W
        rw [hhi, hlo]
        exact mul64_any y x hy0.1 hx0 hy0.2 hx1 W
      have HM := hide hmul
      clear hmul
      obtain ⟨s1, hs1⟩ : ∃ s1, s1 = (lo + C) % 18446744073709551616 := ⟨_, rfl⟩
      obtain ⟨o1, ho1⟩ : ∃ o1, o1 = (lo + C) / 18446744073709551616 := ⟨_, rfl⟩
      have hA1 : ∀ W : World, (callFunc 75 #[.int .u64 lo, .int .u64 C, .int .u64 0]).run Try.prog W = .ok (.value (.tuple #[.int .u64 s1, .int .u64 o1])) W := by
        intro W; rw [hs1, ho1]; exact add64_run lo C (by omega) hC0 W
      have hs1b : 0 ≤ s1 ∧ s1 < 18446744073709551616 := by omega
      obtain ⟨s2, hs2⟩ : ∃ s2, s2 = (r - s1) % 18446744073709551616 := ⟨_, rfl⟩
      obtain ⟨o2, ho2⟩ : ∃ o2 : Int, o2 = if r < s1 then 1 else 0 := ⟨_, rfl⟩
      have hA2 : ∀ W : World, (callFunc 79 #[.int .u64 r, .int .u64 s1, .int .u64 0]).run Try.prog W = .ok (.value (.tuple #[.int .u64 s2, .int .u64 o2])) W := by
        intro W; rw [hs2, ho2]; exact sub64_run r s1 hr0.1 hs1b.1 hr0.2 hs1b.2 W
      have hlimbs := sub_limb (y * x) C r hi lo s1 o1 s2 o2 hp ⟨hC0, hC1⟩ hr0 hhi hlo hs1 ho1 hs2 ho2
      obtain ⟨q0, q1, q2, q3, q4, q5, q6⟩ := hlimbs
      have Q0 := hide q0
      have w1 : IntKind.u64.wrap (hi + o1) = hi + o1 := by rw [IntKind.wrap_u64]; omega
      have w2 : IntKind.u64.wrap (hi + o1 + o2) = hi + o1 + o2 := by rw [IntKind.wrap_u64]; omega
      have hkI : (k : Int) < (n : Int) := by omega
      have hR' := hR.set (off + k) s2 ⟨q5, q6⟩
      have hG' := gTrans hg (gSet wr g (off + k) (.int .u64 s2))
      have HS' : Hid ((wr.setCell ⟨g, off + k, none⟩ (.int .u64 s2)).heap.size = w.heap.size) := by unfold Hid; simp [HS.out]
      have HV' : Hid (val 18446744073709551616 (Z.set (off + k) s2) - pw 18446744073709551616 (off + (k + 1)) * (hi + o1 + o2) = val 18446744073709551616 xs - pw 18446744073709551616 off * (x * val 18446744073709551616 (ys.take (k + 1)))) := by
        unfold Hid
        have e := dif_step 18446744073709551616 s2 r (hi + o1 + o2) y x C (val 18446744073709551616 Z) (val 18446744073709551616 xs) (pw 18446744073709551616 off) (pw 18446744073709551616 k) (val 18446744073709551616 (ys.take k)) (pw 18446744073709551616 (off + k)) (pw_add _ _ _) Q0.out HV.out
        rw [val_set _ _ _ _ (by rw [HZ.out]; have := HN.out; omega), val_take_succ, HRR.out, HYY.out, ← Nat.add_assoc, pw]
        exact e
      have HZ' : Hid ((Z.set (off + k) s2).length = xs.length) := by unfold Hid; rw [List.length_set]; exact HZ.out
      have HDr' : Hid ((Z.set (off + k) s2).drop (off + (k + 1)) = xs.drop (off + (k + 1))) := by unfold Hid; rw [← Nat.add_assoc]; exact drop_next HDr.out s2
      have HR' := hide hR'
      have HG' := hide hG'
      clear hR' hG' hR hg hhi hlo hs1 ho1 hs2 ho2 hp q0 HV HDr
      go_wp2_with (first | (go_at_call 74; refine (HL.out _ hb).mono ?_; rintro e w1 ⟨rfl, hw⟩; have hw2 := hw.symm; subst hw2) | (go_at_call 73; refine (HM.out _).mono ?_; rintro e w1 ⟨rfl, hw⟩; have hw2 := hw.symm; subst hw2))
      go_roundw
      case rel => exact ⟨k + 1, hi + o1 + o2, Z.set (off + k) s2, by omega, by go_num, rfl, q3, q4, HZ', HR'.out, HDr', HV', HG'.out, HS'⟩
      case measure => simp [intOf] <;> omega
    · obtain rfl : k = n := by omega
      go_wp2
      go_ret
      exact ⟨Z, C, rfl, hC0, hC1, HZ.out, hR, HDr.out, HV.out, hg, HS.out⟩

end Go.Proofs.Ytobdpcmafjhnlaa
