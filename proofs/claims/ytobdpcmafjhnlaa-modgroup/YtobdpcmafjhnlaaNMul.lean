/-
  nat.Sub and nat.Mul: the difference and the product of numbers that may be.
-/
import Derived.Test.YtobdpcmafjhnlaaNSum
namespace Go.Proofs.Ytobdpcmafjhnlaa
open Go.RowKit Go.IntWalk

/-- What is borrowed beyond a row that holds no less: nothing. -/
theorem no_borrow (P Z k s : Int) (hP : 0 < P) (hZ : Z < P) (hk : 0 ≤ k) (h : Z - P * k = s) (hs : 0 ≤ s) : k = 0 := by
  rcases Int.lt_or_le 0 k with h1 | h1
  · exfalso
    have := Int.mul_le_mul_of_nonneg_left (show 1 ≤ k by omega) (show 0 ≤ P by omega)
    omega
  · omega

theorem prod_lt (a b p q : Int) (ha : 0 ≤ a) (hap : a < p) (hb : 0 ≤ b) (hbq : b < q) : a * b < p * q := by
  have h1 := Int.mul_le_mul_of_nonneg_left (show b ≤ q by omega) ha
  have h2 := Int.mul_lt_mul_of_pos_right hap (show 0 < q by omega)
  omega

set_option maxRecDepth 100000 in
set_option maxHeartbeats 1000000 in
theorem sub_sign (a1 : Option Addr) (n1 c1 : Nat) (xs : List Int) (a2 : Option Addr) (n2 c2 : Nat) (ys : List Int) (w : World) (h1 : SrcG .u64 18446744073709551616 w a1 n1 c1 xs) (h2 : SrcG .u64 18446744073709551616 w a2 n2 c2 ys) (l1 : (trm xs).length ≤ 64) (l2 : (trm ys).length ≤ 64) (hlt : val 18446744073709551616 xs < val 18446744073709551616 ys) :
    Calls Try.prog 61 #[.slice a1 n1 c1, .slice a2 n2 c2] w fun e w' => e = .returned (.tuple #[.slice none 0 0, .int .i64 22]) ∧ Drew w w' := by
  have d1 := hide h1.hdg
  have d2 := hide h2.hdg
  obtain ⟨X, hX⟩ : ∃ X, trm xs = X := ⟨_, rfl⟩
  obtain ⟨Y, hY⟩ : ∃ Y, trm ys = Y := ⟨_, rfl⟩
  have vX := hide (show val 18446744073709551616 X = val 18446744073709551616 xs by rw [← hX]; exact trm_val _ _)
  have vY := hide (show val 18446744073709551616 Y = val 18446744073709551616 ys by rw [← hY]; exact trm_val _ _)
  have tX := hide (show Tr X by rw [← hX]; exact trm_tr _)
  have tY := hide (show Tr Y by rw [← hY]; exact trm_tr _)
  have s1 := h1.trm
  have s2 := h2.trm
  have ct1 := hide (trim_any a1 n1 c1 xs w h1)
  have ct2 := hide (trim_any a2 n2 c2 ys w h2)
  rw [hX] at s1 ct1 l1
  rw [hY] at s2 ct2 l2
  clear hX hY
  obtain ⟨m1, hm1⟩ : ∃ m, X.length = m := ⟨_, rfl⟩
  obtain ⟨m2, hm2⟩ : ∃ m, Y.length = m := ⟨_, rfl⟩
  rw [hm1] at s1 ct1 l1
  rw [hm2] at s2 ct2 l2
  have M1 := hide hm1
  have M2 := hide hm2
  clear hm1 hm2
  go_enter Try.func61, Try.ntmps61
  go_wp2_with fail
  refine ct1.out.mono ?_
  rintro e w1 ⟨rfl, _, hw⟩
  have hw2 := hw.symm
  subst hw2
  clear hw
  go_wp2_with fail
  refine ct2.out.mono ?_
  rintro e w1 ⟨rfl, _, hw⟩
  have hw2 := hw.symm
  subst hw2
  clear hw
  go_wp2_with fail
  refine (tooLong_any _ _ _ _ (by omega)).mono ?_
  rintro e w1 ⟨rfl, hw⟩
  have hw2 := hw.symm
  subst hw2
  clear hw
  rw [show decide (64 < m1) = false by simpa using l1]
  go_wp2_with fail
  refine (tooLong_any _ _ _ _ (by omega)).mono ?_
  rintro e w1 ⟨rfl, hw⟩
  have hw2 := hw.symm
  subst hw2
  clear hw
  rw [show decide (64 < m2) = false by simpa using l2]
  go_wp2_with fail
  refine (order_any _ _ _ X _ _ _ Y _ s1 s2 tX.out tY.out).mono ?_
  rintro e w3 ⟨rfl, hD⟩
  rw [vX.out, vY.out, cmpI_lt hlt]
  go_wp2
  go_ret2
  exact ⟨rfl, hD⟩

set_option maxRecDepth 100000 in
set_option maxHeartbeats 1000000 in
theorem sub_ok (a1 : Option Addr) (n1 c1 : Nat) (xs : List Int) (a2 : Option Addr) (n2 c2 : Nat) (ys : List Int) (w : World) (h1 : SrcG .u64 18446744073709551616 w a1 n1 c1 xs) (h2 : SrcG .u64 18446744073709551616 w a2 n2 c2 ys) (l1 : (trm xs).length ≤ 64) (l2 : (trm ys).length ≤ 64) (hle : val 18446744073709551616 ys ≤ val 18446744073709551616 xs) :
    Calls Try.prog 61 #[.slice a1 n1 c1, .slice a2 n2 c2] w fun e w' => ∃ v zs, e = .returned (.tuple #[v, .int .i64 0]) ∧ GotG .u64 18446744073709551616 52 w' w.heap.size v zs ∧ Tr zs ∧ val 18446744073709551616 zs = val 18446744073709551616 xs - val 18446744073709551616 ys ∧ Below w.heap.size w w' := by
  have d1 := hide h1.hdg
  have d2 := hide h2.hdg
  obtain ⟨X, hX⟩ : ∃ X, trm xs = X := ⟨_, rfl⟩
  obtain ⟨Y, hY⟩ : ∃ Y, trm ys = Y := ⟨_, rfl⟩
  have vX := hide (show val 18446744073709551616 X = val 18446744073709551616 xs by rw [← hX]; exact trm_val _ _)
  have vY := hide (show val 18446744073709551616 Y = val 18446744073709551616 ys by rw [← hY]; exact trm_val _ _)
  have tX := hide (show Tr X by rw [← hX]; exact trm_tr _)
  have tY := hide (show Tr Y by rw [← hY]; exact trm_tr _)
  have s1 := h1.trm
  have s2 := h2.trm
  have ct1 := hide (trim_any a1 n1 c1 xs w h1)
  have ct2 := hide (trim_any a2 n2 c2 ys w h2)
  rw [hX] at s1 ct1 l1
  rw [hY] at s2 ct2 l2
  clear hX hY
  obtain ⟨m1, hm1⟩ : ∃ m, X.length = m := ⟨_, rfl⟩
  obtain ⟨m2, hm2⟩ : ∃ m, Y.length = m := ⟨_, rfl⟩
  rw [hm1] at s1 ct1 l1
  rw [hm2] at s2 ct2 l2
  have M1 := hide hm1
  have M2 := hide hm2
  clear hm1 hm2
  have hm21 : m2 ≤ m1 := by
    rcases Nat.lt_or_ge m1 m2 with h | h
    · exfalso
      have := tr_len_lt (b := 18446744073709551616) (by decide) s1.hdg s2.hdg tY.out (by rw [M1.out, M2.out]; exact h)
      rw [vX.out, vY.out] at this
      omega
    · exact h
  have hmk := makeU m1 (m1 : Int) rfl (by omega)
  obtain ⟨r, hr⟩ : ∃ r, cmpI (val 18446744073709551616 xs) (val 18446744073709551616 ys) = r := ⟨_, rfl⟩
  have hr0 : ¬ r < 0 := by
    rw [← hr]
    unfold cmpI
    rw [if_neg (by omega)]
    split <;> decide
  have HR := hide hr
  clear hr
  go_enter Try.func61, Try.ntmps61
  go_wp2_with fail
  refine ct1.out.mono ?_
  rintro e w1 ⟨rfl, _, hw⟩
  have hw2 := hw.symm
  subst hw2
  clear hw
  go_wp2_with fail
  refine ct2.out.mono ?_
  rintro e w1 ⟨rfl, _, hw⟩
  have hw2 := hw.symm
  subst hw2
  clear hw
  go_wp2_with fail
  refine (tooLong_any _ _ _ _ (by omega)).mono ?_
  rintro e w1 ⟨rfl, hw⟩
  have hw2 := hw.symm
  subst hw2
  clear hw
  rw [show decide (64 < m1) = false by simpa using l1]
  go_wp2_with fail
  refine (tooLong_any _ _ _ _ (by omega)).mono ?_
  rintro e w1 ⟨rfl, hw⟩
  have hw2 := hw.symm
  subst hw2
  clear hw
  rw [show decide (64 < m2) = false by simpa using l2]
  go_wp2_with fail
  refine (order_any _ _ _ X _ _ _ Y _ s1 s2 tX.out tY.out).mono ?_
  rintro e w3 ⟨rfl, hD⟩
  rw [vX.out, vY.out, HR.out]
  have hsz : w3.heap.size = w.heap.size := by rw [hD.heap]
  have HSZ := hide hsz
  clear hsz
  obtain ⟨w2, hcp, hR2, hB2⟩ := copyU (w3.alloc (.cells (madeCells #[.int .u64 0] m1) 52)) w3.heap.size m1 m1 m1 a1 X (RowG.made m1 _ _ (by decide) rfl rfl) ((hD.src s1).alloc _) (by omega) w3.heap.size w3 ((Below.refl _ _).alloc (Nat.le_refl _) _) (Nat.le_refl _)
  go_wp2_with fail
  refine (subTimes_any w3.heap.size 0 m1 m1 _ a2 m2 m2 Y 1 _ hR2 (by simp [M1.out]) (by simp [M1.out]; omega) ((hD.src s2).below hB2) ((hD.src s2).away (Nat.le_refl _)) (by omega) (by omega)).mono ?_
  rintro e w4 ⟨Z, k, rfl, hk0, hk1, hZl, hR3, _, hv, hg3, hs3⟩
  have hZl2 : Z.length = m1 := by rw [hZl]; simp [M1.out]
  have HV : Hid (val 18446744073709551616 Z = val 18446744073709551616 xs - val 18446744073709551616 ys) := by
    unfold Hid
    have q1 := pw_pos (b := 18446744073709551616) (by decide) m1
    have q2 := val_lt (b := 18446744073709551616) (by decide) hR3.2
    rw [hZl2] at q2
    rw [val_pad, List.take_of_length_le (by rw [M2.out]; omega), Nat.zero_add, pw, vX.out, vY.out] at hv
    have hk := no_borrow _ _ _ _ q1 q2 hk0 hv (by omega)
    subst hk
    omega
  clear hv hZl
  have tz := trim_any (some ⟨w3.heap.size, 0, none⟩) m1 m1 Z w4 (by have := hR3.srcAll (by rw [hZl2]; unfold maxLen; omega); rwa [hZl2] at this)
  have TZ := hide tz
  clear tz
  go_wp2_with fail
  refine TZ.out.mono ?_
  rintro e w5 ⟨rfl, _, hw⟩
  have hw2 := hw.symm
  subst hw2
  clear hw
  go_wp2
  go_ret2
  have hB3 : Below w3.heap.size w3 w4 := hB2.grown hg3 hB2.size (by intro k hk; cases hk; exact Nat.le_refl _)
  rw [HSZ.out] at hB3
  refine ⟨_, trm Z, rfl, hR3.got (by rw [HSZ.out]; exact Nat.le_refl _) (by omega), trm_tr _, by rw [trm_val]; exact HV.out, (hD.toBelow _).trans hB3⟩

theorem sliceG_lhm {P : Program} {T : TypeId} (sT : TypeId) (hT : P.elem sT = T) (hu : P.underlying sT = some (.slice T)) (hsz : ∀ w : World, (sizeOf T).run P w = .ok 1 w) (w : World) (g n c : Nat) (l h : Int) (L k : Nat) (hl : l = (L : Int)) (hh : h = (L : Int) + (k : Int)) (hk : 0 < k) (hc : L + k ≤ c) :
    (Instr.slice sT (.slice (some ⟨g, 0, none⟩) n c) (some (.int .i64 l)) (some (.int .i64 h)) (some (.int .i64 h))).run P w = .ok (.slice (some ⟨g, L, none⟩) k k) w := by
  have hu' : P.underlying sT = some (.slice (P.elem sT)) := by rw [hT]; exact hu
  rw [run_slice_lhm w _ _ _ _ hu' .i64 .i64 .i64 l h h (by omega) (by omega) (by omega) (by omega), hT, hsz]
  have e1 : l.toNat = L := by omega
  have e2 : h.toNat = L + k := by omega
  simp only [Result.andThen_ok, sliced, e1, e2, Nat.mul_one]
  rw [if_neg (by omega), show L + k - L = k by omega]
  simp [addNone]

theorem mul_step (Z Z1 x V y P : Int) (h1 : Z = x * V) (h2 : Z1 = Z + P * (y * x)) : Z1 = x * (V + y * P) := by
  subst h1 h2
  grind

set_option maxRecDepth 100000 in
set_option maxHeartbeats 2000000 in
theorem mul_ok (a1 : Option Addr) (n1 c1 : Nat) (xs : List Int) (a2 : Option Addr) (n2 c2 : Nat) (ys : List Int) (w : World) (h1 : SrcG .u64 18446744073709551616 w a1 n1 c1 xs) (h2 : SrcG .u64 18446744073709551616 w a2 n2 c2 ys) (l1 : (trm xs).length ≤ 64) (l2 : (trm ys).length ≤ 64) :
    Calls Try.prog 62 #[.slice a1 n1 c1, .slice a2 n2 c2] w fun e w' => ∃ v zs, e = .returned (.tuple #[v, .int .i64 0]) ∧ GotG .u64 18446744073709551616 52 w' w.heap.size v zs ∧ Tr zs ∧ val 18446744073709551616 zs = val 18446744073709551616 xs * val 18446744073709551616 ys ∧ Below w.heap.size w w' := by
  have d1 := hide h1.hdg
  have d2 := hide h2.hdg
  obtain ⟨X, hX⟩ : ∃ X, trm xs = X := ⟨_, rfl⟩
  obtain ⟨Y, hY⟩ : ∃ Y, trm ys = Y := ⟨_, rfl⟩
  have vX := hide (show val 18446744073709551616 X = val 18446744073709551616 xs by rw [← hX]; exact trm_val _ _)
  have vY := hide (show val 18446744073709551616 Y = val 18446744073709551616 ys by rw [← hY]; exact trm_val _ _)
  have tX := hide (show Tr X by rw [← hX]; exact trm_tr _)
  have tY := hide (show Tr Y by rw [← hY]; exact trm_tr _)
  have s1 := h1.trm
  have s2 := h2.trm
  have ct1 := hide (trim_any a1 n1 c1 xs w h1)
  have ct2 := hide (trim_any a2 n2 c2 ys w h2)
  rw [hX] at s1 ct1 l1
  rw [hY] at s2 ct2 l2
  clear hX hY
  obtain ⟨m1, hm1⟩ : ∃ m, X.length = m := ⟨_, rfl⟩
  obtain ⟨m2, hm2⟩ : ∃ m, Y.length = m := ⟨_, rfl⟩
  rw [hm1] at s1 ct1 l1
  rw [hm2] at s2 ct2 l2
  have M1 := hide hm1
  have M2 := hide hm2
  clear hm1 hm2
  have hmk := makeU (m1 + m2) ((m1 : Int) + (m2 : Int)) (by omega) (by omega)
  have R0 : RowG .u64 18446744073709551616 52 (w.alloc (.cells (madeCells #[.int .u64 0] (m1 + m2)) 52)) w.heap.size (List.replicate (m1 + m2) 0) := RowG.made (m1 + m2) _ _ (by decide) rfl rfl
  have HR0 := hide R0
  clear R0
  have B0 : Below w.heap.size w (w.alloc (.cells (madeCells #[.int .u64 0] (m1 + m2)) 52)) := (Below.refl _ _).alloc (Nat.le_refl _) _
  go_enter Try.func62, Try.ntmps62
  go_wp2_with fail
  refine ct1.out.mono ?_
  rintro e w1 ⟨rfl, _, hw⟩
  have hw2 := hw.symm
  subst hw2
  clear hw
  go_wp2_with fail
  refine ct2.out.mono ?_
  rintro e w1 ⟨rfl, _, hw⟩
  have hw2 := hw.symm
  subst hw2
  clear hw
  go_wp2_with fail
  refine (tooLong_any _ _ _ _ (by omega)).mono ?_
  rintro e w1 ⟨rfl, hw⟩
  have hw2 := hw.symm
  subst hw2
  clear hw
  rw [show decide (64 < m1) = false by simpa using l1]
  go_wp2_with fail
  refine (tooLong_any _ _ _ _ (by omega)).mono ?_
  rintro e w1 ⟨rfl, hw⟩
  have hw2 := hw.symm
  subst hw2
  clear hw
  rw [show decide (64 < m2) = false by simpa using l2]
  go_wp2
  go_loopw [27] (fun i wr => ∃ (k : Nat) (Z : List Int), k ≤ m2 ∧ i = .int .i64 k ∧ Hid (Z.length = m1 + m2) ∧ Hid (RowG .u64 18446744073709551616 52 wr w.heap.size Z) ∧ Hid (val 18446744073709551616 Z = val 18446744073709551616 X * val 18446744073709551616 (Y.take k)) ∧ Below w.heap.size w wr) (fun i _ => m2 - (intOf i).toNat)
  case atStart => exact ⟨0, _, Nat.zero_le _, rfl, by unfold Hid; simp, HR0, by unfold Hid; rw [val_rep]; simp [val], B0⟩
  case round =>
    obtain ⟨k, Z, hk, rfl, HZ, HR, HV, hB⟩ := hrel
    by_cases hkn : k < m2
    · have hkI : (k : Int) < (m2 : Int) := by omega
      obtain ⟨b, o, ha2, e1⟩ := (s2.below hB).at k hkn
      have sX := hide (s1.below hB)
      have aX := hide (s1.away (Nat.le_refl w.heap.size))
      have hy0 := s2.hdg.at (by decide : (0 : Int) < 18446744073709551616) k
      obtain ⟨y, hyy⟩ : ∃ y, Y.getD k 0 = y := ⟨_, rfl⟩
      have HY := hide hyy
      rw [hyy] at e1 hy0
      clear hyy
      have hbl : b ≠ w.heap.size := s2.away (Nat.le_refl w.heap.size) b o ha2 (by intro h; have := M2.out; rw [h] at this; simp at this; omega)
      have hsl : ∀ W : World, (Instr.slice 23 (.slice (some ⟨w.heap.size, 0, none⟩) (m1 + m2) (m1 + m2)) (some (.int .i64 (k : Int))) (some (.int .i64 ((k : Int) + (m1 : Int) + 1))) (some (.int .i64 ((k : Int) + (m1 : Int) + 1)))).run Try.prog W = .ok (.slice (some ⟨w.heap.size, k, none⟩) (m1 + 1) (m1 + 1)) W :=
        fun W => sliceG_lhm _ Try.elemU Try.underlying23 Try.sizeOfU W _ _ _ _ _ k (m1 + 1) rfl (by omega) (by omega) (by omega)
      subst ha2
      go_wp2_with fail
      go_region_held3 (fun W => W.cell? ⟨b, o + k, none⟩ = some (.int .u64 y)) (go_keep) ((go_at_call 66; refine (addTimes_any w.heap.size k (m1 + 1) (m1 + 1) Z a1 m1 m1 X y _ ?_ ?_ ?_ ?_ aX.out hy0.1 hy0.2).mono ?_; exact HR.out.heap rfl; exact (by rw [HZ.out]; omega); exact (by rw [HZ.out]; omega); exact sX.out.heap rfl; rintro e w3 ⟨Z', cc, rfl, hc0, hc1, hZl, hR3, _, hv, hg3, hs3⟩; have hcell3 : w3.cell? ⟨b, o + k, none⟩ = some (.int .u64 y) := hg3.cell (by assumption) (by simpa using hbl)))
      have HV' : Hid (val 18446744073709551616 Z' = val 18446744073709551616 X * val 18446744073709551616 (Y.take (k + 1))) := by
        unfold Hid
        rw [List.take_of_length_le (by rw [M1.out]; omega), HV.out] at hv
        have e2 := mul_step (val 18446744073709551616 X * val 18446744073709551616 (Y.take k)) _ (val 18446744073709551616 X) (val 18446744073709551616 (Y.take k)) y (pw 18446744073709551616 k) rfl hv
        rw [← HY.out, ← val_take_succ] at e2
        have q1 := val_lt (b := 18446744073709551616) (by decide) s1.hdg
        have q2 := val_lt (b := 18446744073709551616) (by decide) (s2.hdg.take (k + 1))
        have q3 := val_nonneg (b := 18446744073709551616) (by decide) s1.hdg
        have q4 := val_nonneg (b := 18446744073709551616) (by decide) (s2.hdg.take (k + 1))
        rw [M1.out] at q1
        rw [List.length_take, M2.out, Nat.min_eq_left (by omega)] at q2
        have q5 := prod_lt _ _ _ _ q3 q1 q4 q2
        rw [← pw_add, show m1 + (k + 1) = k + (m1 + 1) by omega] at q5
        have hc := no_carry _ _ _ _ (pw_pos (b := 18446744073709551616) (by decide) (k + (m1 + 1))) (val_nonneg (b := 18446744073709551616) (by decide) hR3.2) hc0 e2 q5
        rw [hc] at e2
        rw [← e2]
        omega
      have HZ' : Hid (Z'.length = m1 + m2) := by unfold Hid; rw [hZl, HZ.out]
      have HR3 := hide hR3
      have hB3 : Below w.heap.size w w3 := hB.grown ⟨hg3.os, hg3.tape, hg3.output, hg3.size, hg3.block⟩ hB.size (by intro k hk; cases hk; exact Nat.le_refl _)
      clear hv hR3 hg3 hs3
      go_wp2
      go_roundw
      case rel => exact ⟨k + 1, Z', by omega, by go_num, HZ', HR3, HV', hB3⟩
      case measure => simp [intOf] <;> omega
    · obtain rfl : k = m2 := by omega
      have tz := trim_any (some ⟨w.heap.size, 0, none⟩) (m1 + k) (m1 + k) Z wr (by have := HR.out.srcAll (by rw [HZ.out]; unfold maxLen; omega); rwa [HZ.out] at this)
      have TZ := hide tz
      clear tz
      go_wp2_with fail
      refine TZ.out.mono ?_
      rintro e w5 ⟨rfl, _, hw⟩
      have hw2 := hw.symm
      subst hw2
      clear hw
      go_wp2
      go_ret2
      refine ⟨_, trm Z, rfl, HR.out.got (Nat.le_refl _) (by rw [HZ.out]; omega), trm_tr _, ?_, hB⟩
      rw [trm_val, HV.out, List.take_of_length_le (by rw [M2.out]; omega), vX.out, vY.out]

end Go.Proofs.Ytobdpcmafjhnlaa
