/-
  Sums, differences and products of numbers of the field, as package curve reckons them.
-/
import Derived.Test.YtejfbamijjddgaaDoorCvMinus
namespace Go.Proofs.YtejfbamijjddgaaDoor
open Go.RowKit Go.IntWalk

attribute [local go_sem ↓] ld_num st_num

/-- What lies in a box of four words. -/
theorem blk4 {T : TypeId} {w : World} {g : Nat} {a0 a1 a2 a3 : Int} (h : Blk T w g [.int .u64 a0, .int .u64 a1, .int .u64 a2, .int .u64 a3]) :
    w.cell? ⟨g, 0, none⟩ = some (.int .u64 a0) ∧ w.cell? ⟨g, 1, none⟩ = some (.int .u64 a1) ∧ w.cell? ⟨g, 2, none⟩ = some (.int .u64 a2) ∧ w.cell? ⟨g, 3, none⟩ = some (.int .u64 a3) := by
  refine ⟨?_, ?_, ?_, ?_⟩ <;> rw [h.cell] <;> rfl

set_option maxRecDepth 100000 in
set_option maxHeartbeats 1000000 in
theorem plus_any (a0 a1 a2 a3 b0 b1 b2 b3 x y : Int) (ha : Nw a0 a1 a2 a3 x) (hb : Nw b0 b1 b2 b3 y) (w : World) :
    Calls Tryd.prog 66 #[.agg #[.int .u64 a0, .int .u64 a1, .int .u64 a2, .int .u64 a3], .agg #[.int .u64 b0, .int .u64 b1, .int .u64 b2, .int .u64 b3]] w (Rn (pa x y) w) := by
  obtain ⟨s0, e0⟩ : ∃ r, r = (a0 + b0 + 0) % 18446744073709551616 := ⟨_, rfl⟩
  obtain ⟨c0, d0⟩ : ∃ r, r = (a0 + b0 + 0) / 18446744073709551616 := ⟨_, rfl⟩
  obtain ⟨s1, e1⟩ : ∃ r, r = (a1 + b1 + c0) % 18446744073709551616 := ⟨_, rfl⟩
  obtain ⟨c1, d1⟩ : ∃ r, r = (a1 + b1 + c0) / 18446744073709551616 := ⟨_, rfl⟩
  obtain ⟨s2, e2⟩ : ∃ r, r = (a2 + b2 + c1) % 18446744073709551616 := ⟨_, rfl⟩
  obtain ⟨c2, d2⟩ : ∃ r, r = (a2 + b2 + c1) / 18446744073709551616 := ⟨_, rfl⟩
  obtain ⟨s3, e3⟩ : ∃ r, r = (a3 + b3 + c2) % 18446744073709551616 := ⟨_, rfl⟩
  obtain ⟨c3, d3⟩ : ∃ r, r = (a3 + b3 + c2) / 18446744073709551616 := ⟨_, rfl⟩
  obtain ⟨q0, q1, q2, q3, k0, k1, k2, k3, hV⟩ := carry_sum a0 a1 a2 a3 b0 b1 b2 b3 s0 s1 s2 s3 c0 c1 c2 c3 ha.i0 ha.i1 ha.i2 ha.i3 hb.i0 hb.i1 hb.i2 hb.i3 e0 d0 e1 d1 e2 d2 e3 d3
  have hA0 : ∀ W : World, (callFunc 88 #[.int .u64 a0, .int .u64 b0, .int .u64 0]).run Tryd.prog W = .ok (.value (.tuple #[.int .u64 s0, .int .u64 c0])) W := by
    intro W; rw [e0, d0]; exact add64_c a0 b0 0 ha.i0 hb.i0 (by omega) W
  have hA1 : ∀ W : World, (callFunc 88 #[.int .u64 a1, .int .u64 b1, .int .u64 c0]).run Tryd.prog W = .ok (.value (.tuple #[.int .u64 s1, .int .u64 c1])) W := by
    intro W; rw [e1, d1]; exact add64_c a1 b1 c0 ha.i1 hb.i1 k0 W
  have hA2 : ∀ W : World, (callFunc 88 #[.int .u64 a2, .int .u64 b2, .int .u64 c1]).run Tryd.prog W = .ok (.value (.tuple #[.int .u64 s2, .int .u64 c2])) W := by
    intro W; rw [e2, d2]; exact add64_c a2 b2 c1 ha.i2 hb.i2 k1 W
  have hA3 : ∀ W : World, (callFunc 88 #[.int .u64 a3, .int .u64 b3, .int .u64 c2]).run Tryd.prog W = .ok (.value (.tuple #[.int .u64 s3, .int .u64 c3])) W := by
    intro W; rw [e3, d3]; exact add64_c a3 b3 c2 ha.i3 hb.i3 k2 W
  rw [ha.v, hb.v] at hV
  have hlt : V4 s0 s1 s2 s3 + RR * c3 < 2 * PP := by have := ha.l; have := hb.l; rw [hV]; omega
  have hbel : ∀ W, Calls Tryd.prog 87 #[.int .u64 s0, .int .u64 s1, .int .u64 s2, .int .u64 s3, .int .u64 c3] W (Rn (pa x y) W) := by
    intro W
    have := below_any s0 s1 s2 s3 c3 q0 q1 q2 q3 k3 hlt W
    rw [hV] at this
    exact this
  have HB := hide hbel
  clear hbel hlt hV ha hb e0 e1 e2 e3 d0 d1 d2 d3 q0 q1 q2 q3 k0 k1 k2 k3
  go_enter Tryd.func66, Tryd.ntmps66
  go_wp2_with fail
  refine (HB.out _).mono ?_
  rintro e w1 ⟨r0, r1, r2, r3, rfl, HN, LB⟩
  have HZ : Blk 84 w1 (w.heap.size + 1 + 1) (L4 0 0 0 0) := (Blk.new _ _ _ _ rfl (by simp)).below LB
  have hst := st4 HZ r0 r1 r2 r3
  have LB := hide (below_then (below3 w _ _ _) LB)
  go_wp2
  exact ret4 (p := 4) (by kernel_rfl) rfl HZ HN LB.out (by omega)

end Go.Proofs.YtejfbamijjddgaaDoor
