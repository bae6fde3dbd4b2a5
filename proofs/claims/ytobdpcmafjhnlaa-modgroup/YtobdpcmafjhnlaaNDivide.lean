/-
  nat.divide: the quotient and the rest of two numbers, trimmed, the second not 0.
-/
import Derived.Test.YtobdpcmafjhnlaaNDown
namespace Go.Proofs.Ytobdpcmafjhnlaa
open Go.RowKit Go.IntWalk

/-- By how much a limb is moved so that its highest bit is set. -/
theorem shift_of (t : Int) (h0 : 0 < t) (h1 : t < 18446744073709551616) : ∃ S D E : Int, 64 - (Lib.bitLen t.toNat : Int) = S ∧ Sh S D E ∧ 9223372036854775808 ≤ D * t ∧ D * (t + 1) ≤ 18446744073709551616 ∧ D < 18446744073709551616 := by
  obtain ⟨L, hL, l1, l2, l3, l4⟩ := bitLen_in t h0 h1
  have hS : ((64 - (L : Int)).toNat) = 64 - L := by omega
  refine ⟨64 - (L : Int), 2 ^ (64 - (L : Int)).toNat, 2 ^ (64 - (64 - (L : Int))).toNat, by rw [hL], sh_of _ (by omega) (by omega), ?_, ?_, ?_⟩
  · rw [hS]
    have h2 := Int.mul_le_mul_of_nonneg_left l3 (show (0 : Int) ≤ 2 ^ (64 - L) from Int.pow_nonneg (by decide))
    rw [← Int.pow_add, show 64 - L + (L - 1) = 63 by omega] at h2
    omega
  · rw [hS]
    have h2 := Int.mul_le_mul_of_nonneg_left (show t + 1 ≤ 2 ^ L by omega) (show (0 : Int) ≤ 2 ^ (64 - L) from Int.pow_nonneg (by decide))
    rw [← Int.pow_add, show 64 - L + L = 64 by omega] at h2
    omega
  · rw [hS]
    have h2 : 2 ^ (64 - L) ≤ 2 ^ 63 := Nat.pow_le_pow_right (by decide) (by omega)
    have h3 : ((2 ^ (64 - L) : Nat) : Int) ≤ ((2 ^ 63 : Nat) : Int) := by omega
    rw [Int.natCast_pow, Int.natCast_pow] at h3
    have e : ((2 : Nat) : Int) = 2 := rfl
    rw [e] at h3
    omega

theorem mul_lt_pos {D a b : Int} (hD : 1 ≤ D) (h : a < b) : D * a < D * b := Int.mul_lt_mul_of_pos_left h (by omega)

/-- A number of m + 1 limbs, by its highest one. -/
theorem top_split {ys : List Int} (m : Nat) (hy : Dg 18446744073709551616 ys) (hl : ys.length = m + 1) : val 18446744073709551616 ys < (ys.getD m 0 + 1) * pw 18446744073709551616 m ∧ ys.getD m 0 * pw 18446744073709551616 m ≤ val 18446744073709551616 ys := by
  have h1 := val_take_succ 18446744073709551616 ys m
  rw [List.take_of_length_le (by omega)] at h1
  have h2 := val_lt (b := 18446744073709551616) (by decide) (hy.take m)
  rw [List.length_take, Nat.min_eq_left (by omega)] at h2
  have h3 := val_nonneg (b := 18446744073709551616) (by decide) (hy.take m)
  have h4 : (ys.getD m 0 + 1) * pw 18446744073709551616 m = ys.getD m 0 * pw 18446744073709551616 m + pw 18446744073709551616 m := by grind
  omega

/-- The divisor, moved up: it fits, and its highest bit is set. -/
theorem up_fits {ys : List Int} (m : Nat) (hy : Dg 18446744073709551616 ys) (hl : ys.length = m + 1) (D : Int) (hD : 1 ≤ D) (h1 : D * (ys.getD m 0 + 1) ≤ 18446744073709551616) : D * val 18446744073709551616 ys < pw 18446744073709551616 (m + 1) := by
  have h2 := mul_lt_pos hD (top_split m hy hl).1
  have hp := pw_pos (b := 18446744073709551616) (by decide) m
  have h3 := Int.mul_le_mul_of_nonneg_right h1 (show 0 ≤ pw 18446744073709551616 m by omega)
  have h4 : D * ((ys.getD m 0 + 1) * pw 18446744073709551616 m) = D * (ys.getD m 0 + 1) * pw 18446744073709551616 m := by grind
  rw [pw_succ]
  omega

theorem up_top {ys zs : List Int} (m : Nat) (hy : Dg 18446744073709551616 ys) (hl : ys.length = m + 1) (hz : Dg 18446744073709551616 zs) (hzl : zs.length = m + 1) (D : Int) (hD : 1 ≤ D) (h1 : 9223372036854775808 ≤ D * ys.getD m 0) (hv : val 18446744073709551616 zs = D * val 18446744073709551616 ys) : 9223372036854775808 ≤ zs.getD m 0 := by
  have h2 := Int.mul_le_mul_of_nonneg_left (top_split m hy hl).2 (show 0 ≤ D by omega)
  have h3 := (top_split m hz hzl).1
  have hp := pw_pos (b := 18446744073709551616) (by decide) m
  have h4 := Int.mul_le_mul_of_nonneg_right h1 (show 0 ≤ pw 18446744073709551616 m by omega)
  have h5 : D * (ys.getD m 0 * pw 18446744073709551616 m) = D * ys.getD m 0 * pw 18446744073709551616 m := by grind
  rcases Int.lt_or_le (zs.getD m 0) 9223372036854775808 with h | h
  · exfalso
    have h6 := Int.mul_le_mul_of_nonneg_right (show zs.getD m 0 + 1 ≤ 9223372036854775808 by omega) (show 0 ≤ pw 18446744073709551616 m by omega)
    omega
  · exact h

/-- The dividend, moved up, is small enough for the quotient's limbs. -/
theorem up_small {X Y : List Int} (m1 m : Nat) (hX : Dg 18446744073709551616 X) (hY : Dg 18446744073709551616 Y) (tY : Tr Y) (l1 : X.length = m1) (l2 : Y.length = m + 1) (D : Int) (hD : 1 ≤ D) : D * val 18446744073709551616 X < pw 18446744073709551616 (m1 + 1 - (m + 1)) * (D * val 18446744073709551616 Y) := by
  have hn : Y ≠ [] := by intro h; rw [h] at l2; simp at l2
  have h1 := tr_low (b := 18446744073709551616) (by decide) hY tY hn
  rw [l2, Nat.add_sub_cancel] at h1
  have h2 := val_lt (b := 18446744073709551616) (by decide) hX
  rw [l1] at h2
  have e : pw 18446744073709551616 (m1 + 1 - (m + 1)) * (D * val 18446744073709551616 Y) = D * (pw 18446744073709551616 (m1 + 1 - (m + 1)) * val 18446744073709551616 Y) := by grind
  rw [e]
  refine mul_lt_pos hD ?_
  have h3 := pw_pos (b := 18446744073709551616) (by decide) (m1 + 1 - (m + 1))
  rcases Nat.lt_or_ge m1 m with h | h
  · have h4 := pw_mono (b := 18446744073709551616) (by decide) m1 m (by omega)
    rw [show m1 + 1 - (m + 1) = 0 by omega, pw]
    omega
  · have h4 := Int.mul_le_mul_of_nonneg_left h1 (show 0 ≤ pw 18446744073709551616 (m1 + 1 - (m + 1)) by omega)
    rw [← pw_add, show m1 + 1 - (m + 1) + m = m1 by omega] at h4
    omega

theorem div_step (R Q DV T q P R' : Int) (h : R + DV * Q = T) (h1 : R' = R - q * (P * DV)) : R' + DV * (Q + (q - 0) * P) = T := by
  rw [h1, ← h]; grind

theorem div_end (D M r d DY R : Int) (hD : 1 ≤ D) (h : D * r = R - d) (hR : R = D * M) (hd0 : 0 ≤ d) (hd1 : d < D) (hlt : R < D * DY) : r = M ∧ r < DY := by
  have e : D * (M - r) = d := by
    have : D * (M - r) = D * M - D * r := by grind
    omega
  have h1 : r = M := by
    rcases Int.lt_trichotomy (M - r) 0 with h' | h' | h'
    · exfalso
      have := Int.mul_le_mul_of_nonneg_left (show M - r ≤ -1 by omega) (show 0 ≤ D by omega)
      omega
    · omega
    · exfalso
      have := Int.mul_le_mul_of_nonneg_left (show 1 ≤ M - r by omega) (show 0 ≤ D by omega)
      omega
  refine ⟨h1, ?_⟩
  subst h1
  rw [hR] at hlt
  exact Int.lt_of_mul_lt_mul_left hlt (by omega)

set_option maxRecDepth 100000 in
set_option maxHeartbeats 4000000 in
theorem divide_any (a1 : Option Addr) (m1 : Nat) (X : List Int) (a2 : Option Addr) (m2 m : Nat) (hm : m2 = m + 1) (Y : List Int) (w : World) (s1 : SrcG .u64 18446744073709551616 w a1 m1 m1 X) (s2 : SrcG .u64 18446744073709551616 w a2 m2 m2 Y) (tY : Tr Y) (l1 : m1 ≤ 64) (l2 : m2 ≤ 64) :
    Calls Try.prog 55 #[.slice a1 m1 m1, .slice a2 m2 m2] w fun e w' => ∃ (N g1 g3 : Nat) (Q R : List Int), e = .returned (.tuple #[.slice (some ⟨g3, 0, none⟩) N N, .slice (some ⟨g1, 0, none⟩) (m1 + 1) (m1 + 1)]) ∧
      w.heap.size ≤ g1 ∧ g1 < g3 ∧ Q.length = N ∧ R.length = m1 + 1 ∧ N ≤ 65 ∧ RowG .u64 18446744073709551616 52 w' g3 Q ∧ RowG .u64 18446744073709551616 52 w' g1 R ∧ val 18446744073709551616 X = val 18446744073709551616 Y * val 18446744073709551616 Q + val 18446744073709551616 R ∧ val 18446744073709551616 R < val 18446744073709551616 Y ∧ Below w.heap.size w w' := by
  have M1 := hide s1.hlen
  have M2 := hide (show Y.length = m + 1 by rw [← hm]; exact s2.hlen)
  have d1 := hide s1.hdg
  have d2 := hide s2.hdg
  obtain ⟨b, o, ha2, e1⟩ := s2.at m (by omega)
  have t0 := s2.hdg.at (by decide : (0 : Int) < 18446744073709551616) m
  have tn : Y.getD m 0 ≠ 0 := by
    have := tY (by intro h; have := M2.out; rw [h] at this; simp at this)
    rwa [M2.out, Nat.add_sub_cancel] at this
  obtain ⟨S, D, E, hS, hSh, k1, k2, k3⟩ := shift_of (Y.getD m 0) (by omega) t0.2
  have lz : ∀ W : World, Calls Try.prog 65 #[.int .u64 (Y.getD m 0)] W fun e w' => e = .returned (.int .i64 S) ∧ w' = W := by
    intro W
    have := Try.bits_LeadingZeros64 (Y.getD m 0) W (by omega) (by omega)
    rwa [hS] at this
  have hD := hSh.d0
  have hp1 := up_fits m d2.out M2.out D hD k2
  have hp2 := up_small m1 m d1.out d2.out tY M1.out M2.out D hD
  have K1 := hide k1
  obtain ⟨t, ht⟩ : ∃ t, Y.getD m 0 = t := ⟨_, rfl⟩
  have HT := hide ht
  rw [ht] at e1 lz
  clear ht hS t0 tn k1 k2
  have LZ := hide lz
  have HP1 := hide hp1
  have HP2 := hide hp2
  have HSH := hide hSh
  have S0 := hSh.s0
  have S1 := hSh.s1
  have hD1 : IntKind.u64.wrap (2 ^ S.toNat) = D := by rw [← hSh.d, IntKind.wrap_u64]; omega
  have HD1 := hide hD
  have HK3 := hide k3
  clear lz hp1 hp2 hSh hD k3
  have hsub : (m2 : Int) - 1 = (m : Int) := by omega
  have hlt : (m : Int) < (m2 : Int) := by omega
  have hmk1 := makeU (m1 + 1) ((m1 : Int) + 1) (by omega) (by omega)
  have hmk2 := makeU m2 (m2 : Int) rfl (by omega)
  obtain ⟨N, hN⟩ : ∃ N : Nat, m1 + 1 - m2 = N := ⟨_, rfl⟩
  have hNI : max 0 ((m1 : Int) - (m2 : Int) + 1) = (N : Int) := by omega
  have hmk3 := makeU N (N : Int) rfl (by omega)
  have HNN : Hid (N ≤ 65 ∧ N + m2 ≤ m1 + 1 ∨ N = 0) := by unfold Hid; omega
  have HN65 : Hid (N ≤ 65) := by unfold Hid; omega
  have HNE : Hid (m1 + 1 - (m + 1) = N) := by unfold Hid; omega
  have HM2 := hide hm
  have A1 := hide (s1.away (Nat.le_refl w.heap.size))
  have A2 := hide (s2.away (Nat.le_refl w.heap.size))
  have R0 : Hid (RowG .u64 18446744073709551616 52 (w.alloc (.cells (madeCells #[.int .u64 0] (m1 + 1)) 52)) w.heap.size (List.replicate (m1 + 1) 0)) := RowG.made (m1 + 1) _ _ (by decide) rfl rfl
  have B0 : Below w.heap.size w (w.alloc (.cells (madeCells #[.int .u64 0] (m1 + 1)) 52)) := (Below.refl _ _).alloc (Nat.le_refl _) _
  have S1' := hide s1
  have S2' := hide s2
  subst ha2
  clear s1 s2 hN hm tY
  go_enter Try.func55, Try.ntmps55
  go_wp2_with fail
  refine (LZ.out _).mono ?_
  rintro e w0 ⟨rfl, hw⟩
  have hw2 := hw.symm
  subst hw2
  clear hw
  go_wp2_with fail
  refine (addTimes_any w.heap.size 0 (m1 + 1) (m1 + 1) _ a1 m1 m1 X D _ R0.out (by simp) (by simp; omega) (S1'.out.alloc _) A1.out (by have := HD1.out; omega) HK3.out).mono ?_
  rintro e w1 ⟨Z1, c1, rfl, c10, c11, hZ1, hR1, _, hv1, hg1, hs1⟩
  have V1 : Hid (val 18446744073709551616 Z1 = D * val 18446744073709551616 X) := by
    unfold Hid
    rw [val_rep, List.take_of_length_le (by rw [M1.out]; omega), Nat.zero_add, pw, Int.zero_add, Int.one_mul] at hv1
    have q1 := val_lt (b := 18446744073709551616) (by decide) d1.out
    rw [M1.out] at q1
    have q2 := prod_lt D (val 18446744073709551616 X) 18446744073709551616 (pw 18446744073709551616 m1) (by have := HD1.out; omega) HK3.out (val_nonneg (b := 18446744073709551616) (by decide) d1.out) q1
    rw [← pw_succ] at q2
    have hc := no_carry _ _ _ _ (pw_pos (b := 18446744073709551616) (by decide) (m1 + 1)) (val_nonneg (b := 18446744073709551616) (by decide) hR1.2) c10 hv1 q2
    rw [hc] at hv1
    omega
  have L1 : Hid (Z1.length = m1 + 1) := by unfold Hid; rw [hZ1]; simp
  have B1 : Below w.heap.size w w1 := B0.grown hg1 B0.size (by intro k hk; cases hk; exact Nat.le_refl _)
  have G12 : Hid (w.heap.size < w1.heap.size) := by unfold Hid; rw [hs1]; simp
  have HR1 := hide hR1
  have R2 : Hid (RowG .u64 18446744073709551616 52 (w1.alloc (.cells (madeCells #[.int .u64 0] m2) 52)) w1.heap.size (List.replicate m2 0)) := RowG.made m2 _ _ (by decide) rfl rfl
  clear hv1 hg1 hs1 hZ1 hR1 c10 c11 B0 R0
  go_wp2_with fail
  refine (addTimes_any w1.heap.size 0 m2 m2 _ _ m2 m2 Y D _ R2.out (by simp) (by simp; omega) ((S2'.out.below B1).alloc _) ((S2'.out.below B1).away (Nat.le_refl _)) (by have := HD1.out; omega) HK3.out).mono ?_
  rintro e w2 ⟨Z2, c2, rfl, c20, c21, hZ2, hR2, _, hv2, hg2, hs2⟩
  have V2 : Hid (val 18446744073709551616 Z2 = D * val 18446744073709551616 Y) := by
    unfold Hid
    rw [val_rep, List.take_of_length_le (by rw [M2.out, HM2.out]; exact Nat.le_refl _), Nat.zero_add, pw, Int.zero_add, Int.one_mul, HM2.out] at hv2
    have hc := no_carry _ _ _ _ (pw_pos (b := 18446744073709551616) (by decide) (m + 1)) (val_nonneg (b := 18446744073709551616) (by decide) hR2.2) c20 hv2 HP1.out
    rw [hc] at hv2
    omega
  have L2 : Hid (Z2.length = m2) := by unfold Hid; rw [hZ2]; simp
  have T2 : Hid (9223372036854775808 ≤ Z2.getD m 0) := up_top m d2.out M2.out hR2.2 (by rw [L2.out, HM2.out]) D HD1.out K1.out V2.out
  have B2 : Below w.heap.size w w2 := ((B1.alloc B1.size _).grown hg2 (by have := B1.size; simp; omega) (by intro k hk; cases hk; have := G12.out; omega))
  have G23 : Hid (w1.heap.size < w2.heap.size) := by unfold Hid; rw [hs2]; simp
  have HR1b : Hid (RowG .u64 18446744073709551616 52 w2 w.heap.size Z1) := (HR1.out.alloc _).kept hg2 (by intro h; simp at h; have := G12.out; omega)
  have HR2 := hide hR2
  clear hv2 hg2 hs2 hZ2 hR2 c20 c21 R2 HR1 B1
  have R3 : Hid (RowG .u64 18446744073709551616 52 (w2.alloc (.cells (madeCells #[.int .u64 0] N) 52)) w2.heap.size (List.replicate N 0)) := RowG.made N _ _ (by decide) rfl rfl
  have B3 : Below w.heap.size w (w2.alloc (.cells (madeCells #[.int .u64 0] N) 52)) := B2.alloc B2.size _
  go_wp2
  go_loopw [45] (fun i wr => ∃ (k : Nat) (Q R : List Int), k ≤ N ∧ i = .int .i64 ((N : Int) - (k : Int)) ∧ Hid (Q.length = N) ∧ Hid (R.length = m1 + 1) ∧ Hid (RowG .u64 18446744073709551616 52 wr w2.heap.size Q) ∧ Hid (RowG .u64 18446744073709551616 52 wr w.heap.size R) ∧ Hid (RowG .u64 18446744073709551616 52 wr w1.heap.size Z2) ∧ Hid (val 18446744073709551616 R + D * val 18446744073709551616 Y * val 18446744073709551616 Q = D * val 18446744073709551616 X) ∧ Hid (val 18446744073709551616 R < pw 18446744073709551616 k * (D * val 18446744073709551616 Y)) ∧ Hid (∀ j, j < k → Q.getD j 0 = 0) ∧ Below w.heap.size w wr) (fun i _ => N - (intOf i).toNat)
  case atStart =>
    refine ⟨N, _, Z1, Nat.le_refl _, by go_num, by unfold Hid; simp, L1, R3, HR1b.out.alloc _, HR2.out.alloc _, ?_, ?_, ?_, B3⟩
    · unfold Hid
      rw [val_rep, V1.out]
      simp
    · unfold Hid
      rw [V1.out, ← HNE.out]
      exact HP2.out
    · intro j hj
      simp [List.getD, hj]
  case round =>
    obtain ⟨k, Q, R, hk, rfl, HQL, HRL, HQ, HR, HZ, HE, HL, HZR, hB⟩ := hrel
    clear R3 B3 HR1b HR2 V1 L1
    rcases Nat.eq_zero_or_pos k with hk0 | hk0
    · subst hk0
      have cm := moveDown_any w.heap.size (m1 + 1) R S D E wr HR.out HRL.out (by omega) HSH.out
      have CM := hide cm
      clear cm
      have hn0 : (N : Int) - ((0 : Nat) : Int) = (N : Int) := by omega
      rw [hn0]
      go_wp2_with fail
      refine CM.out.mono ?_
      rintro e w5 ⟨Z, rfl, hZl, hR5, hv5, hg5, hs5⟩
      have hd0 := Int.emod_nonneg (R.getD 0 0) (show D ≠ 0 by have := HD1.out; omega)
      have hd1 := Int.emod_lt_of_pos (R.getD 0 0) (show 0 < D by have := HD1.out; omega)
      have hlt0 := HL.out
      rw [pw, Int.one_mul] at hlt0
      have eR : val 18446744073709551616 R = D * (val 18446744073709551616 X - val 18446744073709551616 Y * val 18446744073709551616 Q) := by
        have e2 : D * (val 18446744073709551616 X - val 18446744073709551616 Y * val 18446744073709551616 Q) = D * val 18446744073709551616 X - D * val 18446744073709551616 Y * val 18446744073709551616 Q := by grind
        have e := HE.out
        omega
      have fin := div_end D (val 18446744073709551616 X - val 18446744073709551616 Y * val 18446744073709551616 Q) _ _ (val 18446744073709551616 Y) _ HD1.out hv5 eR hd0 hd1 hlt0
      clear eR
      have HF := hide fin
      have HQ5 : Hid (RowG .u64 18446744073709551616 52 w5 w2.heap.size Q) := HQ.out.kept hg5 (by intro h; simp at h; have := G12.out; have := G23.out; omega)
      have HR5 := hide hR5
      have B5 : Below w.heap.size w w5 := hB.grown hg5 hB.size (by intro k hk; cases hk; exact Nat.le_refl _)
      clear hd0 hd1 hlt0 fin hR5 hv5 hg5 hs5
      go_wp2
      go_ret2
      refine ⟨N, w.heap.size, w2.heap.size, Q, Z, rfl, Nat.le_refl _, by have := G12.out; have := G23.out; omega, HQL.out, hZl, HN65.out, HQ5.out, HR5.out, ?_, HF.out.2, B5⟩
      have := HF.out.1
      omega
    · obtain ⟨j, rfl⟩ : ∃ j, k = j + 1 := ⟨k - 1, by omega⟩
      have hNm : N + m2 ≤ m1 + 1 := by have := HNN.out; omega
      have hj1 : ((j + 1 : Nat) : Int) = (j : Int) + 1 := by omega
      rw [hj1]
      have g0 : (N : Int) - ((j : Int) + 1) < (N : Int) := by omega
      have g1 : (N : Int) - 1 - ((N : Int) - ((j : Int) + 1)) = (j : Int) := by omega
      have g2 : (j : Int) < (N : Int) := by omega
      have g3 : IntKind.i64.wrap ((N : Int) - 1) = (N : Int) - 1 := i64_in _ (by omega)
      have g4 : IntKind.i64.wrap (j : Int) = (j : Int) := i64_in _ (by omega)
      have hsl : ∀ W : World, (Instr.slice 23 (.slice (some ⟨w.heap.size, 0, none⟩) (m1 + 1) (m1 + 1)) (some (.int .i64 (j : Int))) (some (.int .i64 ((j : Int) + (m2 : Int) + 1))) (some (.int .i64 ((j : Int) + (m2 : Int) + 1)))).run Try.prog W = .ok (.slice (some ⟨w.heap.size, j, none⟩) (m2 + 1) (m2 + 1)) W :=
        fun W => sliceG_lhm _ Try.elemU Try.underlying23 Try.sizeOfU W _ _ _ _ _ j (m2 + 1) rfl (by omega) (by omega) (by omega)
      have eL : val 18446744073709551616 R < pw 18446744073709551616 j * (18446744073709551616 * val 18446744073709551616 Z2) := by
        rw [V2.out]
        have h6 := HL.out
        rw [pw_succ] at h6
        have e6 : 18446744073709551616 * pw 18446744073709551616 j * (D * val 18446744073709551616 Y) = pw 18446744073709551616 j * (18446744073709551616 * (D * val 18446744073709551616 Y)) := by grind
        omega
      have eS : SrcG .u64 18446744073709551616 wr (some ⟨w1.heap.size, 0, none⟩) m2 m2 Z2 := by
        have h6 := HZ.out.srcAll (by rw [L2.out]; unfold maxLen; omega)
        rwa [L2.out] at h6
      have cr := divideRow_any w.heap.size j m2 m HM2.out R (some ⟨w1.heap.size, 0, none⟩) m2 Z2 wr HR.out (by rw [HRL.out]; have := HM2.out; omega) (by rw [HRL.out]; omega) eS (by intro b' o' he _ h'; simp at he; have := G12.out; omega) T2.out eL
      clear eL eS
      have CR := hide cr
      clear cr
      go_wp2_with fail
      refine CR.out.mono ?_
      rintro e w5 ⟨Z, q, rfl, q0, q1, hZl, hR5, hv5, hl5, hg5, hs5⟩
      have HQ5 := HQ.out.kept hg5 (by intro h; simp at h; have := G12.out; have := G23.out; omega)
      have HZ5 := HZ.out.kept hg5 (by intro h; simp at h; have := G12.out; omega)
      have ec := HQ5.cell j (by rw [HQL.out]; omega)
      have ef := HQ5.frozen j
      rw [HZR.out j (by omega)] at ec
      rw [V2.out] at hv5 hl5
      have HE' : Hid (val 18446744073709551616 Z + D * val 18446744073709551616 Y * val 18446744073709551616 (Q.set j q) = D * val 18446744073709551616 X) := by
        unfold Hid
        rw [val_set _ _ _ _ (by rw [HQL.out]; omega), HZR.out j (by omega)]
        exact div_step _ _ _ _ q (pw 18446744073709551616 j) _ HE.out hv5
      have HL' := hide hl5
      have gs5 := gSet w5 w2.heap.size j (.int .u64 q)
      have HQ' : Hid (RowG .u64 18446744073709551616 52 (w5.setCell ⟨w2.heap.size, j, none⟩ (.int .u64 q)) w2.heap.size (Q.set j q)) := HQ5.set j q ⟨q0, q1⟩
      have HR' : Hid (RowG .u64 18446744073709551616 52 (w5.setCell ⟨w2.heap.size, j, none⟩ (.int .u64 q)) w.heap.size Z) := hR5.kept gs5 (by intro h; simp at h; have := G12.out; have := G23.out; omega)
      have HZ' : Hid (RowG .u64 18446744073709551616 52 (w5.setCell ⟨w2.heap.size, j, none⟩ (.int .u64 q)) w1.heap.size Z2) := HZ5.kept gs5 (by intro h; simp at h; have := G23.out; omega)
      have B5 : Below w.heap.size w w5 := hB.grown hg5 hB.size (by intro k hk; cases hk; exact Nat.le_refl _)
      have B6 : Below w.heap.size w (w5.setCell ⟨w2.heap.size, j, none⟩ (.int .u64 q)) := B5.grown gs5 B5.size (by intro k hk; cases hk; have := G12.out; have := G23.out; omega)
      have HZR' : Hid (∀ i, i < j → (Q.set j q).getD i 0 = 0) := by
        intro i hi
        rw [List.getD, List.getElem?_set_ne (by omega)]
        exact HZR.out i (by omega)
      have HRL' : Hid (Z.length = m1 + 1) := by unfold Hid; rw [hZl, HRL.out]
      have HQL' : Hid ((Q.set j q).length = N) := by unfold Hid; rw [List.length_set]; exact HQL.out
      clear hv5 hl5 hg5 hs5 hR5 HQ5 HZ5 gs5 hZl hB B5 HQ HR HZ HE HL HZR
      go_wp2
      go_roundw
      case rel => exact ⟨j, Q.set j q, Z, by omega, by go_num, HQL', HRL', HQ', HR', HZ', HE', HL', HZR', B6⟩
      case measure => simp [intOf] <;> omega

end Go.Proofs.Ytobdpcmafjhnlaa
