/-
  Products of numbers of the field, as package curve reckons them.
-/
import Derived.Test.YtcijjmncilciiaaDoorZCvMinusToCvPlus
namespace Go.Proofs.YtcijjmncilciiaaDoor
open Go.RowKit Go.IntWalk

attribute [local go_sem ↓] st_num

def ixA (t : TypeId) (v i : Value) : Sem Value := Instr.index t v i
theorem ix_num (v i : Value) : Instr.index 70 v i = ixA 70 v i := rfl
attribute [local go_sem ↓] ix_num

theorem ix4 (b0 b1 b2 b3 : Int) (k : Nat) (hk : k < 4) (W : World) : (ixA 70 (.agg #[.int .u64 b0, .int .u64 b1, .int .u64 b2, .int .u64 b3]) (.int .i64 (k : Int))).run Tryd.prog W = .ok (.int .u64 ([b0, b1, b2, b3].getD k 0)) W := by
  rcases k with _ | _ | _ | _ | k
  · kernel_rfl
  · kernel_rfl
  · kernel_rfl
  · kernel_rfl
  · omega

/-- The value of the first words, and 2^64 to that power. -/
def low4 (b0 b1 b2 b3 : Int) : Nat → Int
  | 0 => 0
  | 1 => b0
  | 2 => b0 + 18446744073709551616 * b1
  | 3 => b0 + 18446744073709551616 * b1 + 340282366920938463463374607431768211456 * b2
  | _ => V4 b0 b1 b2 b3
def pow4 : Nat → Int
  | 0 => 1
  | 1 => 18446744073709551616
  | 2 => 340282366920938463463374607431768211456
  | 3 => 6277101735386680763835789423207666416102355444464034512896
  | _ => RR
theorem low4_next (b0 b1 b2 b3 : Int) (k : Nat) (hk : k < 4) : low4 b0 b1 b2 b3 (k + 1) = low4 b0 b1 b2 b3 k + [b0, b1, b2, b3].getD k 0 * pow4 k ∧ pow4 (k + 1) = 18446744073709551616 * pow4 k := by
  rcases k with _ | _ | _ | _ | k
  · simp [low4, pow4]
  · simp [low4, pow4]; omega
  · simp [low4, pow4]; omega
  · simp [low4, pow4, V4]; constructor
    · omega
    · decide
  · omega

theorem get4_is (b0 b1 b2 b3 : Int) (h0 : is64 b0) (h1 : is64 b1) (h2 : is64 b2) (h3 : is64 b3) (k : Nat) : is64 ([b0, b1, b2, b3].getD k 0) := by
  rcases k with _ | _ | _ | _ | k
  · exact h0
  · exact h1
  · exact h2
  · exact h3
  · exact ⟨by simp, by simp⟩

set_option maxRecDepth 100000 in
set_option maxHeartbeats 2000000 in
theorem times_any (a0 a1 a2 a3 b0 b1 b2 b3 x y : Int) (ha : Nw a0 a1 a2 a3 x) (i0 : is64 b0) (i1 : is64 b1) (i2 : is64 b2) (i3 : is64 b3) (hy : V4 b0 b1 b2 b3 = y) (w : World) :
    Calls Tryd.prog 62 #[.agg #[.int .u64 a0, .int .u64 a1, .int .u64 a2, .int .u64 a3], .agg #[.int .u64 b0, .int .u64 b1, .int .u64 b2, .int .u64 b3]] w (Rn (mm x y) w) := by
  have HA := hide ha
  have HB := hide (get4_is b0 b1 b2 b3 i0 i1 i2 i3)
  have HY := hide hy
  have hix := ix4 b0 b1 b2 b3
  have HIX := hide hix
  clear ha i0 i1 i2 i3 hy hix
  go_enter Tryd.func62, Tryd.ntmps62
  go_wp2
  go_loopw [5, 6, 7, 8, 9, 15] (fun v0 v1 v2 v3 v4 i wr => ∃ (k : Nat) (s0 s1 s2 s3 top m : Int), k ≤ 4 ∧ i = .int .i64 (k : Int) ∧ v0 = .int .u64 s0 ∧ v1 = .int .u64 s1 ∧ v2 = .int .u64 s2 ∧ v3 = .int .u64 s3 ∧ v4 = .int .u64 top ∧ Hid (is64 s0 ∧ is64 s1 ∧ is64 s2 ∧ is64 s3 ∧ 0 ≤ top ∧ V4 s0 s1 s2 s3 + RR * top < 2 * PP ∧ (V4 s0 s1 s2 s3 + RR * top) * pow4 k = x * low4 b0 b1 b2 b3 k + PP * m) ∧ wr = ((w.alloc (.cells #[.int .u64 a0, .int .u64 a1, .int .u64 a2, .int .u64 a3] 70)).alloc (.cells #[.int .u64 b0, .int .u64 b1, .int .u64 b2, .int .u64 b3] 70)).alloc (.cells #[.int .u64 0, .int .u64 0, .int .u64 0, .int .u64 0] 70)) (fun _ _ _ _ _ i _ => 4 - (intOf i).toNat)
  case atStart => exact ⟨0, 0, 0, 0, 0, 0, 0, by omega, rfl, rfl, rfl, rfl, rfl, rfl, ⟨⟨by omega, by omega⟩, ⟨by omega, by omega⟩, ⟨by omega, by omega⟩, ⟨by omega, by omega⟩, by omega, by decide, by simp [V4, low4]⟩, rfl⟩
  case round =>
    obtain ⟨k, s0, s1, s2, s3, top, m, hk, rfl, rfl, rfl, rfl, rfl, rfl, HI, rfl⟩ := hrel
    by_cases hk4 : k < 4
    · obtain ⟨wd, hwd⟩ : ∃ u, u = [b0, b1, b2, b3].getD k 0 := ⟨_, rfl⟩
      have hww : is64 wd := by rw [hwd]; exact HB.out k
      have hix : ∀ W : World, (ixA 70 (.agg #[.int .u64 b0, .int .u64 b1, .int .u64 b2, .int .u64 b3]) (.int .i64 (k : Int))).run Tryd.prog W = .ok (.int .u64 wd) W := by rw [hwd]; exact HIX.out k hk4
      have HL := hide (low4_next b0 b1 b2 b3 k hk4)
      rw [← hwd] at HL
      obtain ⟨x0, E0⟩ : ∃ u, u = a0 * wd := ⟨_, rfl⟩
      obtain ⟨x1, E1⟩ : ∃ u, u = a1 * wd := ⟨_, rfl⟩
      obtain ⟨x2, E2⟩ : ∃ u, u = a2 * wd := ⟨_, rfl⟩
      obtain ⟨x3, E3⟩ : ∃ u, u = a3 * wd := ⟨_, rfl⟩
      obtain ⟨t0, I0⟩ : ∃ u, u = (x0 + s0 + 0) % 18446744073709551616 := ⟨_, rfl⟩
      obtain ⟨o0, J0⟩ : ∃ u, u = (x0 + s0 + 0) / 18446744073709551616 := ⟨_, rfl⟩
      obtain ⟨t1, I1⟩ : ∃ u, u = (x1 + s1 + o0) % 18446744073709551616 := ⟨_, rfl⟩
      obtain ⟨o1, J1⟩ : ∃ u, u = (x1 + s1 + o0) / 18446744073709551616 := ⟨_, rfl⟩
      obtain ⟨t2, I2⟩ : ∃ u, u = (x2 + s2 + o1) % 18446744073709551616 := ⟨_, rfl⟩
      obtain ⟨o2, J2⟩ : ∃ u, u = (x2 + s2 + o1) / 18446744073709551616 := ⟨_, rfl⟩
      obtain ⟨t3, I3⟩ : ∃ u, u = (x3 + s3 + o2) % 18446744073709551616 := ⟨_, rfl⟩
      obtain ⟨o3, J3⟩ : ∃ u, u = (x3 + s3 + o2) / 18446744073709551616 := ⟨_, rfl⟩
      obtain ⟨u0, K0⟩ : ∃ u, u = (4294967295 * t0 + t1 + t0) % 18446744073709551616 := ⟨_, rfl⟩
      obtain ⟨q0, M0⟩ : ∃ u, u = (4294967295 * t0 + t1 + t0) / 18446744073709551616 := ⟨_, rfl⟩
      obtain ⟨u1, K1⟩ : ∃ u, u = (0 * t0 + t2 + q0) % 18446744073709551616 := ⟨_, rfl⟩
      obtain ⟨q1, M1⟩ : ∃ u, u = (0 * t0 + t2 + q0) / 18446744073709551616 := ⟨_, rfl⟩
      obtain ⟨u2, K2⟩ : ∃ u, u = (18446744069414584321 * t0 + t3 + q1) % 18446744073709551616 := ⟨_, rfl⟩
      obtain ⟨q2, M2⟩ : ∃ u, u = (18446744069414584321 * t0 + t3 + q1) / 18446744073709551616 := ⟨_, rfl⟩
      obtain ⟨u3, K3⟩ : ∃ u, u = (top + o3 + q2) % 18446744073709551616 := ⟨_, rfl⟩
      obtain ⟨v, M3⟩ : ∃ u, u = (top + o3 + q2) / 18446744073709551616 := ⟨_, rfl⟩
      obtain ⟨g0, g1, g2, g3, gt, gv, gi⟩ := HI.out
      have ha := HA.out
      have R := times_round s0 s1 s2 s3 top a0 a1 a2 a3 wd x0 x1 x2 x3 g0 g1 g2 g3 gt ha.i0 ha.i1 ha.i2 ha.i3 hww (by rw [ha.v]; exact ha.l) gv E0 E1 E2 E3 t0 t1 t2 t3 o0 o1 o2 o3 u0 u1 u2 u3 q0 q1 q2 v I0 J0 I1 J1 I2 J2 I3 J3 K0 M0 K1 M1 K2 M2 K3 M3
      obtain ⟨key, hlt, ht3, p0, p1, p2, p3, r0, r1, r2, r3, y0, y1, y2, y3, z0, z1, z2, hv0⟩ := R
      rw [E0] at I0 J0
      rw [E1] at I1 J1
      rw [E2] at I2 J2
      rw [E3] at I3 J3
      clear E0 E1 E2 E3
      have c0 : is64 0 := ⟨by omega, by omega⟩
      have c1 : is64 4294967295 := ⟨by omega, by omega⟩
      have c3 : is64 18446744069414584321 := ⟨by omega, by omega⟩
      have hF0 : ∀ W, Calls Tryd.prog 86 #[.int .u64 a0, .int .u64 wd, .int .u64 s0, .int .u64 0] W fun e w' => e = .returned (.tuple #[.int .u64 o0, .int .u64 t0]) ∧ w' = W := by
        intro W
        rw [J0, I0]
        exact fused_any a0 wd s0 0 ((And.intro (ha.i0) (And.intro (hww) (And.intro (g0) (c0))))).1 ((And.intro (ha.i0) (And.intro (hww) (And.intro (g0) (c0))))).2.1 ((And.intro (ha.i0) (And.intro (hww) (And.intro (g0) (c0))))).2.2.1 ((And.intro (ha.i0) (And.intro (hww) (And.intro (g0) (c0))))).2.2.2 W
      have HF0 := hide hF0
      clear hF0
      have hF1 : ∀ W, Calls Tryd.prog 86 #[.int .u64 a1, .int .u64 wd, .int .u64 s1, .int .u64 o0] W fun e w' => e = .returned (.tuple #[.int .u64 o1, .int .u64 t1]) ∧ w' = W := by
        intro W
        rw [J1, I1]
        exact fused_any a1 wd s1 o0 ((And.intro (ha.i1) (And.intro (hww) (And.intro (g1) (p0))))).1 ((And.intro (ha.i1) (And.intro (hww) (And.intro (g1) (p0))))).2.1 ((And.intro (ha.i1) (And.intro (hww) (And.intro (g1) (p0))))).2.2.1 ((And.intro (ha.i1) (And.intro (hww) (And.intro (g1) (p0))))).2.2.2 W
      have HF1 := hide hF1
      clear hF1
      have hF2 : ∀ W, Calls Tryd.prog 86 #[.int .u64 a2, .int .u64 wd, .int .u64 s2, .int .u64 o1] W fun e w' => e = .returned (.tuple #[.int .u64 o2, .int .u64 t2]) ∧ w' = W := by
        intro W
        rw [J2, I2]
        exact fused_any a2 wd s2 o1 ((And.intro (ha.i2) (And.intro (hww) (And.intro (g2) (p1))))).1 ((And.intro (ha.i2) (And.intro (hww) (And.intro (g2) (p1))))).2.1 ((And.intro (ha.i2) (And.intro (hww) (And.intro (g2) (p1))))).2.2.1 ((And.intro (ha.i2) (And.intro (hww) (And.intro (g2) (p1))))).2.2.2 W
      have HF2 := hide hF2
      clear hF2
      have hF3 : ∀ W, Calls Tryd.prog 86 #[.int .u64 a3, .int .u64 wd, .int .u64 s3, .int .u64 o2] W fun e w' => e = .returned (.tuple #[.int .u64 o3, .int .u64 t3]) ∧ w' = W := by
        intro W
        rw [J3, I3]
        exact fused_any a3 wd s3 o2 ((And.intro (ha.i3) (And.intro (hww) (And.intro (g3) (p2))))).1 ((And.intro (ha.i3) (And.intro (hww) (And.intro (g3) (p2))))).2.1 ((And.intro (ha.i3) (And.intro (hww) (And.intro (g3) (p2))))).2.2.1 ((And.intro (ha.i3) (And.intro (hww) (And.intro (g3) (p2))))).2.2.2 W
      have HF3 := hide hF3
      clear hF3
      have hF4 : ∀ W, Calls Tryd.prog 86 #[.int .u64 4294967295, .int .u64 t0, .int .u64 t1, .int .u64 t0] W fun e w' => e = .returned (.tuple #[.int .u64 q0, .int .u64 u0]) ∧ w' = W := by
        intro W
        rw [M0, K0]
        exact fused_any 4294967295 t0 t1 t0 ((And.intro (c1) (And.intro (r0) (And.intro (r1) (r0))))).1 ((And.intro (c1) (And.intro (r0) (And.intro (r1) (r0))))).2.1 ((And.intro (c1) (And.intro (r0) (And.intro (r1) (r0))))).2.2.1 ((And.intro (c1) (And.intro (r0) (And.intro (r1) (r0))))).2.2.2 W
      have HF4 := hide hF4
      clear hF4
      have hF5 : ∀ W, Calls Tryd.prog 86 #[.int .u64 0, .int .u64 t0, .int .u64 t2, .int .u64 q0] W fun e w' => e = .returned (.tuple #[.int .u64 q1, .int .u64 u1]) ∧ w' = W := by
        intro W
        rw [M1, K1]
        exact fused_any 0 t0 t2 q0 ((And.intro (c0) (And.intro (r0) (And.intro (r2) (z0))))).1 ((And.intro (c0) (And.intro (r0) (And.intro (r2) (z0))))).2.1 ((And.intro (c0) (And.intro (r0) (And.intro (r2) (z0))))).2.2.1 ((And.intro (c0) (And.intro (r0) (And.intro (r2) (z0))))).2.2.2 W
      have HF5 := hide hF5
      clear hF5
      have hF6 : ∀ W, Calls Tryd.prog 86 #[.int .u64 18446744069414584321, .int .u64 t0, .int .u64 t3, .int .u64 q1] W fun e w' => e = .returned (.tuple #[.int .u64 q2, .int .u64 u2]) ∧ w' = W := by
        intro W
        rw [M2, K2]
        exact fused_any 18446744069414584321 t0 t3 q1 ((And.intro (c3) (And.intro (r0) (And.intro (r3) (z1))))).1 ((And.intro (c3) (And.intro (r0) (And.intro (r3) (z1))))).2.1 ((And.intro (c3) (And.intro (r0) (And.intro (r3) (z1))))).2.2.1 ((And.intro (c3) (And.intro (r0) (And.intro (r3) (z1))))).2.2.2 W
      have HF6 := hide hF6
      clear hF6
      have hA : ∀ W : World, (callFunc 84 #[.int .u64 (top + o3), .int .u64 q2, .int .u64 0]).run Tryd.prog W = .ok (.value (.tuple #[.int .u64 u3, .int .u64 v])) W := by
        intro W
        have := add64_c (top + o3) q2 0 ht3 z2 (by omega) W
        rw [Int.add_zero, ← K3, ← M3] at this
        exact this
      have hwr : IntKind.u64.wrap (top + o3) = top + o3 := by rw [IntKind.wrap_u64]; exact Int.emod_eq_of_lt ht3.1 ht3.2
      have HI' : Hid (is64 u0 ∧ is64 u1 ∧ is64 u2 ∧ is64 u3 ∧ 0 ≤ v ∧ V4 u0 u1 u2 u3 + RR * v < 2 * PP ∧ (V4 u0 u1 u2 u3 + RR * v) * pow4 (k + 1) = x * low4 b0 b1 b2 b3 (k + 1) + PP * (m + t0 * pow4 k)) := by
        refine ⟨y0, y1, y2, y3, hv0, hlt, ?_⟩
        rw [HL.out.1, HL.out.2]
        rw [ha.v] at key
        exact times_inv _ _ _ _ _ _ _ _ key gi
      clear I0 J0 I1 J1 I2 J2 I3 J3 K0 M0 K1 M1 K2 M2 K3 M3 g0 g1 g2 g3 gt gv gi ha key hlt ht3 p0 p1 p2 p3 r0 r1 r2 r3 y0 y1 y2 y3 z0 z1 z2 hv0 c0 c1 c3 HI hww hwd HL
      go_wp2_with fail
      refine (HF0.out _).mono ?_
      rintro e w1 ⟨rfl, hw⟩
      have hw2 := hw.symm
      subst hw2
      clear hw
      go_wp2_with fail
      refine (HF1.out _).mono ?_
      rintro e w1 ⟨rfl, hw⟩
      have hw2 := hw.symm
      subst hw2
      clear hw
      go_wp2_with fail
      refine (HF2.out _).mono ?_
      rintro e w1 ⟨rfl, hw⟩
      have hw2 := hw.symm
      subst hw2
      clear hw
      go_wp2_with fail
      refine (HF3.out _).mono ?_
      rintro e w1 ⟨rfl, hw⟩
      have hw2 := hw.symm
      subst hw2
      clear hw
      go_wp2_with fail
      refine (HF4.out _).mono ?_
      rintro e w1 ⟨rfl, hw⟩
      have hw2 := hw.symm
      subst hw2
      clear hw
      go_wp2_with fail
      refine (HF5.out _).mono ?_
      rintro e w1 ⟨rfl, hw⟩
      have hw2 := hw.symm
      subst hw2
      clear hw
      go_wp2_with fail
      refine (HF6.out _).mono ?_
      rintro e w1 ⟨rfl, hw⟩
      have hw2 := hw.symm
      subst hw2
      clear hw
      go_wp2
      go_roundw
      case rel => exact ⟨k + 1, u0, u1, u2, u3, v, m + t0 * pow4 k, by omega, by go_num, rfl, rfl, rfl, rfl, rfl, HI', trivial⟩
      case measure => simp [intOf]; omega
    · obtain rfl : k = 4 := by omega
      have hbel : ∀ W, Calls Tryd.prog 83 #[.int .u64 s0, .int .u64 s1, .int .u64 s2, .int .u64 s3, .int .u64 top] W (Rn (mm x y) W) := by
        intro W
        obtain ⟨g0, g1, g2, g3, gt, gv, gi⟩ := HI.out
        have := below_any s0 s1 s2 s3 top g0 g1 g2 g3 gt gv W
        have e : (V4 s0 s1 s2 s3 + RR * top) % PP = mm x y := by
          refine mm_of (m := m) ?_
          rw [← HY.out]
          exact gi
        rw [e] at this
        exact this
      have HBl := hide hbel
      clear hbel HI HA HB HY HIX
      go_wp2_with fail
      refine (HBl.out _).mono ?_
      rintro e w1 ⟨r0, r1, r2, r3, rfl, HN, LB⟩
      have HZ : Blk 70 w1 (w.heap.size + 1 + 1) (L4 0 0 0 0) := (Blk.new _ _ _ _ rfl (by simp)).below LB
      have hst := st4 HZ r0 r1 r2 r3
      have LB := hide (below_then (below3 w _ _ _) LB)
      go_wp2
      exact ret4 (p := 4) (by kernel_rfl) rfl HZ HN LB.out (by omega)

end Go.Proofs.YtcijjmncilciiaaDoor
