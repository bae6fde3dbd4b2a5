/-
  Differences of numbers of the field, as package curve reckons them.
  Sums, differences and products of numbers of the field, as package curve reckons them.
-/
import Derived.Test.YtcijjmncilciiaaDoorZCvOps
namespace Go.Proofs.YtcijjmncilciiaaDoor
open Go.RowKit Go.IntWalk

theorem carry_sum (a0 a1 a2 a3 b0 b1 b2 b3 s0 s1 s2 s3 c0 c1 c2 c3 : Int) (i0 : is64 a0) (i1 : is64 a1) (i2 : is64 a2) (i3 : is64 a3) (j0 : is64 b0) (j1 : is64 b1) (j2 : is64 b2) (j3 : is64 b3)
    (e0 : s0 = (a0 + b0 + 0) % 18446744073709551616) (d0 : c0 = (a0 + b0 + 0) / 18446744073709551616) (e1 : s1 = (a1 + b1 + c0) % 18446744073709551616) (d1 : c1 = (a1 + b1 + c0) / 18446744073709551616) (e2 : s2 = (a2 + b2 + c1) % 18446744073709551616) (d2 : c2 = (a2 + b2 + c1) / 18446744073709551616) (e3 : s3 = (a3 + b3 + c2) % 18446744073709551616) (d3 : c3 = (a3 + b3 + c2) / 18446744073709551616) :
    is64 s0 ∧ is64 s1 ∧ is64 s2 ∧ is64 s3 ∧ (0 ≤ c0 ∧ c0 ≤ 1) ∧ (0 ≤ c1 ∧ c1 ≤ 1) ∧ (0 ≤ c2 ∧ c2 ≤ 1) ∧ 0 ≤ c3 ∧ V4 s0 s1 s2 s3 + RR * c3 = V4 a0 a1 a2 a3 + V4 b0 b1 b2 b3 := by
  have m0 : is64 s0 ∧ (0 ≤ c0 ∧ c0 ≤ 1) ∧ 18446744073709551616 * c0 + s0 = a0 + b0 := by unfold is64 at *; omega
  have m1 : is64 s1 ∧ (0 ≤ c1 ∧ c1 ≤ 1) ∧ 18446744073709551616 * c1 + s1 = a1 + b1 + c0 := by unfold is64 at *; omega
  have m2 : is64 s2 ∧ (0 ≤ c2 ∧ c2 ≤ 1) ∧ 18446744073709551616 * c2 + s2 = a2 + b2 + c1 := by unfold is64 at *; omega
  have m3 : is64 s3 ∧ 0 ≤ c3 ∧ 18446744073709551616 * c3 + s3 = a3 + b3 + c2 := by unfold is64 at *; omega
  refine ⟨m0.1, m1.1, m2.1, m3.1, m0.2.1, m1.2.1, m2.2.1, m3.2.1, ?_⟩
  have n0 := m0.2.2
  have n1 := m1.2.2
  have n2 := m2.2.2
  have n3 := m3.2.2
  clear m0 m1 m2 m3 e0 e1 e2 e3 d0 d1 d2 d3
  unfold V4 RR
  omega

theorem borrow_sum (a0 a1 a2 a3 b0 b1 b2 b3 s0 s1 s2 s3 c0 c1 c2 c3 : Int) (i0 : is64 a0) (i1 : is64 a1) (i2 : is64 a2) (i3 : is64 a3) (j0 : is64 b0) (j1 : is64 b1) (j2 : is64 b2) (j3 : is64 b3)
    (e0 : s0 = (a0 - b0 - 0) % 18446744073709551616) (d0 : c0 = if a0 < b0 + 0 then 1 else 0) (e1 : s1 = (a1 - b1 - c0) % 18446744073709551616) (d1 : c1 = if a1 < b1 + c0 then 1 else 0) (e2 : s2 = (a2 - b2 - c1) % 18446744073709551616) (d2 : c2 = if a2 < b2 + c1 then 1 else 0) (e3 : s3 = (a3 - b3 - c2) % 18446744073709551616) (d3 : c3 = if a3 < b3 + c2 then 1 else 0) :
    is64 s0 ∧ is64 s1 ∧ is64 s2 ∧ is64 s3 ∧ (c0 = 0 ∨ c0 = 1) ∧ (c1 = 0 ∨ c1 = 1) ∧ (c2 = 0 ∨ c2 = 1) ∧ (c3 = 0 ∨ c3 = 1) ∧ V4 s0 s1 s2 s3 = V4 a0 a1 a2 a3 - V4 b0 b1 b2 b3 + RR * c3 := by
  have m0 : is64 s0 ∧ (c0 = 0 ∨ c0 = 1) ∧ s0 = a0 - b0 + 18446744073709551616 * c0 := by unfold is64 at *; split at d0 <;> omega
  have m1 : is64 s1 ∧ (c1 = 0 ∨ c1 = 1) ∧ s1 = a1 - b1 - c0 + 18446744073709551616 * c1 := by unfold is64 at *; split at d1 <;> omega
  have m2 : is64 s2 ∧ (c2 = 0 ∨ c2 = 1) ∧ s2 = a2 - b2 - c1 + 18446744073709551616 * c2 := by unfold is64 at *; split at d2 <;> omega
  have m3 : is64 s3 ∧ (c3 = 0 ∨ c3 = 1) ∧ s3 = a3 - b3 - c2 + 18446744073709551616 * c3 := by unfold is64 at *; split at d3 <;> omega
  refine ⟨m0.1, m1.1, m2.1, m3.1, m0.2.1, m1.2.1, m2.2.1, m3.2.1, ?_⟩
  have n0 := m0.2.2
  have n1 := m1.2.2
  have n2 := m2.2.2
  have n3 := m3.2.2
  clear m0 m1 m2 m3 e0 e1 e2 e3 d0 d1 d2 d3
  unfold V4 RR
  omega

theorem minus_no {x y s : Int} (hs : 0 ≤ s) (hx : x < PP) (hy : 0 ≤ y) (h : s = x - y + RR * 0) : s = ps x y := by
  unfold ps
  have e : x - y = s := by omega
  rw [e]
  exact (Int.emod_eq_of_lt hs (by omega)).symm

theorem minus_yes {x y s u c : Int} (hx : 0 ≤ x) (hy : y < PP) (hxl : x < PP) (hy0 : 0 ≤ y) (hs0 : s < RR) (h : s = x - y + RR * 1) (hu : 0 ≤ u) (hul : u < RR) (h2 : u + RR * c = s + PP) : u = ps x y := by
  unfold ps
  have hc : c = 1 := by unfold RR PP at *; omega
  subst hc
  have e : x - y = u + PP * (-1) := by omega
  rw [e, Int.add_mul_emod_self_left]
  refine (Int.emod_eq_of_lt hu ?_).symm
  unfold RR PP at *
  omega

set_option maxRecDepth 100000 in
set_option maxHeartbeats 1000000 in
theorem minus_any (a0 a1 a2 a3 b0 b1 b2 b3 x y : Int) (ha : Nw a0 a1 a2 a3 x) (hb : Nw b0 b1 b2 b3 y) (w : World) :
    Calls Tryd.prog 61 #[.agg #[.int .u64 a0, .int .u64 a1, .int .u64 a2, .int .u64 a3], .agg #[.int .u64 b0, .int .u64 b1, .int .u64 b2, .int .u64 b3]] w (Rn (ps x y) w) := by
  obtain ⟨s0, e0⟩ : ∃ r, r = (a0 - b0 - 0) % 18446744073709551616 := ⟨_, rfl⟩
  obtain ⟨c0, d0⟩ : ∃ r : Int, r = if a0 < b0 + 0 then 1 else 0 := ⟨_, rfl⟩
  obtain ⟨s1, e1⟩ : ∃ r, r = (a1 - b1 - c0) % 18446744073709551616 := ⟨_, rfl⟩
  obtain ⟨c1, d1⟩ : ∃ r : Int, r = if a1 < b1 + c0 then 1 else 0 := ⟨_, rfl⟩
  obtain ⟨s2, e2⟩ : ∃ r, r = (a2 - b2 - c1) % 18446744073709551616 := ⟨_, rfl⟩
  obtain ⟨c2, d2⟩ : ∃ r : Int, r = if a2 < b2 + c1 then 1 else 0 := ⟨_, rfl⟩
  obtain ⟨s3, e3⟩ : ∃ r, r = (a3 - b3 - c2) % 18446744073709551616 := ⟨_, rfl⟩
  obtain ⟨c3, d3⟩ : ∃ r : Int, r = if a3 < b3 + c2 then 1 else 0 := ⟨_, rfl⟩
  obtain ⟨q0, q1, q2, q3, k0, k1, k2, k3, hV⟩ := borrow_sum a0 a1 a2 a3 b0 b1 b2 b3 s0 s1 s2 s3 c0 c1 c2 c3 ha.i0 ha.i1 ha.i2 ha.i3 hb.i0 hb.i1 hb.i2 hb.i3 e0 d0 e1 d1 e2 d2 e3 d3
  rw [ha.v, hb.v] at hV
  have hsb := V4_bd s0 s1 s2 s3 q0 q1 q2 q3
  have hA0 : ∀ W : World, (callFunc 85 #[.int .u64 a0, .int .u64 b0, .int .u64 0]).run Tryd.prog W = .ok (.value (.tuple #[.int .u64 s0, .int .u64 c0])) W := by
    intro W; rw [e0, d0]; exact sub64_c a0 b0 0 ha.i0 hb.i0 (.inl rfl) W
  have hA1 : ∀ W : World, (callFunc 85 #[.int .u64 a1, .int .u64 b1, .int .u64 c0]).run Tryd.prog W = .ok (.value (.tuple #[.int .u64 s1, .int .u64 c1])) W := by
    intro W; rw [e1, d1]; exact sub64_c a1 b1 c0 ha.i1 hb.i1 k0 W
  have hA2 : ∀ W : World, (callFunc 85 #[.int .u64 a2, .int .u64 b2, .int .u64 c1]).run Tryd.prog W = .ok (.value (.tuple #[.int .u64 s2, .int .u64 c2])) W := by
    intro W; rw [e2, d2]; exact sub64_c a2 b2 c1 ha.i2 hb.i2 k1 W
  have hA3 : ∀ W : World, (callFunc 85 #[.int .u64 a3, .int .u64 b3, .int .u64 c2]).run Tryd.prog W = .ok (.value (.tuple #[.int .u64 s3, .int .u64 c3])) W := by
    intro W; rw [e3, d3]; exact sub64_c a3 b3 c2 ha.i3 hb.i3 k2 W
  rcases k3 with k3 | k3
  · rw [k3] at hV hA3
    have HN : Hid (Nw s0 s1 s2 s3 (ps x y)) := ⟨q0, q1, q2, q3, minus_no hsb.1 ha.l hb.pos hV, (ps_bd _ _).2⟩
    clear e0 e1 e2 e3 d0 d1 d2 d3 k0 k1 k2 k3 hV hsb ha hb q0 q1 q2 q3
    go_enter Tryd.func61, Tryd.ntmps61
    go_wp2
    exact retn4 (p := 4) (by kernel_rfl) rfl (by simp) HN.out (below2 w _ _)
  · rw [k3] at hV hA3
    obtain ⟨u0, g0⟩ : ∃ r, r = (s0 + 18446744073709551615 + 0) % 18446744073709551616 := ⟨_, rfl⟩
    obtain ⟨t0, f0⟩ : ∃ r, r = (s0 + 18446744073709551615 + 0) / 18446744073709551616 := ⟨_, rfl⟩
    obtain ⟨u1, g1⟩ : ∃ r, r = (s1 + 4294967295 + t0) % 18446744073709551616 := ⟨_, rfl⟩
    obtain ⟨t1, f1⟩ : ∃ r, r = (s1 + 4294967295 + t0) / 18446744073709551616 := ⟨_, rfl⟩
    obtain ⟨u2, g2⟩ : ∃ r, r = (s2 + 0 + t1) % 18446744073709551616 := ⟨_, rfl⟩
    obtain ⟨t2, f2⟩ : ∃ r, r = (s2 + 0 + t1) / 18446744073709551616 := ⟨_, rfl⟩
    obtain ⟨u3, g3⟩ : ∃ r, r = (s3 + 18446744069414584321 + t2) % 18446744073709551616 := ⟨_, rfl⟩
    obtain ⟨t3, f3⟩ : ∃ r, r = (s3 + 18446744069414584321 + t2) / 18446744073709551616 := ⟨_, rfl⟩
    obtain ⟨y0, y1, y2, y3, z0, z1, z2, z3, hU⟩ := carry_sum s0 s1 s2 s3 18446744073709551615 4294967295 0 18446744069414584321 u0 u1 u2 u3 t0 t1 t2 t3 q0 q1 q2 q3 ⟨by omega, by omega⟩ ⟨by omega, by omega⟩ ⟨by omega, by omega⟩ ⟨by omega, by omega⟩ g0 f0 g1 f1 g2 f2 g3 f3
    have hub := V4_bd u0 u1 u2 u3 y0 y1 y2 y3
    have hB0 : ∀ W : World, (callFunc 84 #[.int .u64 s0, .int .u64 18446744073709551615, .int .u64 0]).run Tryd.prog W = .ok (.value (.tuple #[.int .u64 u0, .int .u64 t0])) W := by
      intro W; rw [g0, f0]; exact add64_c s0 18446744073709551615 0 q0 ⟨by omega, by omega⟩ (by omega) W
    have hB1 : ∀ W : World, (callFunc 84 #[.int .u64 s1, .int .u64 4294967295, .int .u64 t0]).run Tryd.prog W = .ok (.value (.tuple #[.int .u64 u1, .int .u64 t1])) W := by
      intro W; rw [g1, f1]; exact add64_c s1 4294967295 t0 q1 ⟨by omega, by omega⟩ z0 W
    have hB2 : ∀ W : World, (callFunc 84 #[.int .u64 s2, .int .u64 0, .int .u64 t1]).run Tryd.prog W = .ok (.value (.tuple #[.int .u64 u2, .int .u64 t2])) W := by
      intro W; rw [g2, f2]; exact add64_c s2 0 t1 q2 ⟨by omega, by omega⟩ z1 W
    have hB3 : ∀ W : World, (callFunc 84 #[.int .u64 s3, .int .u64 18446744069414584321, .int .u64 t2]).run Tryd.prog W = .ok (.value (.tuple #[.int .u64 u3, .int .u64 t3])) W := by
      intro W; rw [g3, f3]; exact add64_c s3 18446744069414584321 t2 q3 ⟨by omega, by omega⟩ z2 W
    have HN : Hid (Nw u0 u1 u2 u3 (ps x y)) := ⟨y0, y1, y2, y3, minus_yes ha.pos hb.l ha.l hb.pos hsb.2 hV hub.1 hub.2 hU, (ps_bd _ _).2⟩
    clear e0 e1 e2 e3 d0 d1 d2 d3 k0 k1 k2 k3 hV hsb ha hb q0 q1 q2 q3 g0 g1 g2 g3 f0 f1 f2 f3 y0 y1 y2 y3 z0 z1 z2 z3 hU hub
    go_enter Tryd.func61, Tryd.ntmps61
    go_wp2
    exact retn4 (p := 4) (by kernel_rfl) rfl (by simp) HN.out (below2 w _ _)

end Go.Proofs.YtcijjmncilciiaaDoor

namespace Go.Proofs.YtcijjmncilciiaaDoor
open Go.RowKit Go.IntWalk

attribute [local go_sem ↓] ld_num st_num

/-- What lies in a box of four words. -/
theorem blk4 {T : TypeId} {w : World} {g : Nat} {a0 a1 a2 a3 : Int} (h : Blk T w g [.int .u64 a0, .int .u64 a1, .int .u64 a2, .int .u64 a3]) :
    w.cell? ⟨g, 0, none⟩ = some (.int .u64 a0) ∧ w.cell? ⟨g, 1, none⟩ = some (.int .u64 a1) ∧ w.cell? ⟨g, 2, none⟩ = some (.int .u64 a2) ∧ w.cell? ⟨g, 3, none⟩ = some (.int .u64 a3) := by
  refine ⟨?_, ?_, ?_, ?_⟩ <;> rw [h.cell] <;> rfl

set_option maxRecDepth 100000 in
set_option maxHeartbeats 1000000 in
theorem plus_any (a0 a1 a2 a3 b0 b1 b2 b3 x y : Int) (ha : Nw a0 a1 a2 a3 x) (hb : Nw b0 b1 b2 b3 y) (w : World) :
    Calls Tryd.prog 60 #[.agg #[.int .u64 a0, .int .u64 a1, .int .u64 a2, .int .u64 a3], .agg #[.int .u64 b0, .int .u64 b1, .int .u64 b2, .int .u64 b3]] w (Rn (pa x y) w) := by
  obtain ⟨s0, e0⟩ : ∃ r, r = (a0 + b0 + 0) % 18446744073709551616 := ⟨_, rfl⟩
  obtain ⟨c0, d0⟩ : ∃ r, r = (a0 + b0 + 0) / 18446744073709551616 := ⟨_, rfl⟩
  obtain ⟨s1, e1⟩ : ∃ r, r = (a1 + b1 + c0) % 18446744073709551616 := ⟨_, rfl⟩
  obtain ⟨c1, d1⟩ : ∃ r, r = (a1 + b1 + c0) / 18446744073709551616 := ⟨_, rfl⟩
  obtain ⟨s2, e2⟩ : ∃ r, r = (a2 + b2 + c1) % 18446744073709551616 := ⟨_, rfl⟩
  obtain ⟨c2, d2⟩ : ∃ r, r = (a2 + b2 + c1) / 18446744073709551616 := ⟨_, rfl⟩
  obtain ⟨s3, e3⟩ : ∃ r, r = (a3 + b3 + c2) % 18446744073709551616 := ⟨_, rfl⟩
  obtain ⟨c3, d3⟩ : ∃ r, r = (a3 + b3 + c2) / 18446744073709551616 := ⟨_, rfl⟩
  obtain ⟨q0, q1, q2, q3, k0, k1, k2, k3, hV⟩ := carry_sum a0 a1 a2 a3 b0 b1 b2 b3 s0 s1 s2 s3 c0 c1 c2 c3 ha.i0 ha.i1 ha.i2 ha.i3 hb.i0 hb.i1 hb.i2 hb.i3 e0 d0 e1 d1 e2 d2 e3 d3
  have hA0 : ∀ W : World, (callFunc 84 #[.int .u64 a0, .int .u64 b0, .int .u64 0]).run Tryd.prog W = .ok (.value (.tuple #[.int .u64 s0, .int .u64 c0])) W := by
    intro W; rw [e0, d0]; exact add64_c a0 b0 0 ha.i0 hb.i0 (by omega) W
  have hA1 : ∀ W : World, (callFunc 84 #[.int .u64 a1, .int .u64 b1, .int .u64 c0]).run Tryd.prog W = .ok (.value (.tuple #[.int .u64 s1, .int .u64 c1])) W := by
    intro W; rw [e1, d1]; exact add64_c a1 b1 c0 ha.i1 hb.i1 k0 W
  have hA2 : ∀ W : World, (callFunc 84 #[.int .u64 a2, .int .u64 b2, .int .u64 c1]).run Tryd.prog W = .ok (.value (.tuple #[.int .u64 s2, .int .u64 c2])) W := by
    intro W; rw [e2, d2]; exact add64_c a2 b2 c1 ha.i2 hb.i2 k1 W
  have hA3 : ∀ W : World, (callFunc 84 #[.int .u64 a3, .int .u64 b3, .int .u64 c2]).run Tryd.prog W = .ok (.value (.tuple #[.int .u64 s3, .int .u64 c3])) W := by
    intro W; rw [e3, d3]; exact add64_c a3 b3 c2 ha.i3 hb.i3 k2 W
  rw [ha.v, hb.v] at hV
  have hlt : V4 s0 s1 s2 s3 + RR * c3 < 2 * PP := by have := ha.l; have := hb.l; rw [hV]; omega
  have hbel : ∀ W, Calls Tryd.prog 83 #[.int .u64 s0, .int .u64 s1, .int .u64 s2, .int .u64 s3, .int .u64 c3] W (Rn (pa x y) W) := by
    intro W
    have := below_any s0 s1 s2 s3 c3 q0 q1 q2 q3 k3 hlt W
    rw [hV] at this
    exact this
  have HB := hide hbel
  clear hbel hlt hV ha hb e0 e1 e2 e3 d0 d1 d2 d3 q0 q1 q2 q3 k0 k1 k2 k3
  go_enter Tryd.func60, Tryd.ntmps60
  go_wp2_with fail
  refine (HB.out _).mono ?_
  rintro e w1 ⟨r0, r1, r2, r3, rfl, HN, LB⟩
  have HZ : Blk 70 w1 (w.heap.size + 1 + 1) (L4 0 0 0 0) := (Blk.new _ _ _ _ rfl (by simp)).below LB
  have hst := st4 HZ r0 r1 r2 r3
  have LB := hide (below_then (below3 w _ _ _) LB)
  go_wp2
  exact ret4 (p := 4) (by kernel_rfl) rfl HZ HN LB.out (by omega)

end Go.Proofs.YtcijjmncilciiaaDoor
