/-
  NatUndone answers true at any two numbers, and writes nothing that was there.
-/
import Derived.Test.YtobdpcmafjhnlaaNNum
import Derived.Test.YtobdpcmafjhnlaaNDiv
namespace Go.Proofs.Ytobdpcmafjhnlaa
open Go.RowKit Go.IntWalk

theorem sub_num (v1 v2 : Value) (x y : Int) (L1 L2 : Nat) (w : World) (h1 : NumU w v1 x L1) (h2 : NumU w v2 y L2) (l1 : L1 ≤ 64) (l2 : L2 ≤ 64) (hle : y ≤ x) :
    Calls Try.prog 61 #[v1, v2] w fun e w' => ∃ v, e = .returned (.tuple #[v, .int .i64 0]) ∧ NumU w' v (x - y) L1 ∧ Below w.heap.size w w' := by
  have p1 := h1.nonneg
  have p2 := h2.nonneg
  obtain ⟨a1, n1, c1, xs, rfl, s1, m1, hx⟩ := h1
  obtain ⟨a2, n2, c2, ys, rfl, s2, m2, hy⟩ := h2
  refine (sub_ok a1 n1 c1 xs a2 n2 c2 ys w s1 s2 (by omega) (by omega) (by rw [hx, hy]; exact hle)).mono ?_
  rintro e w1 ⟨v, zs, rfl, hG, hT, hv, hB⟩
  rw [hx, hy] at hv
  refine ⟨v, rfl, ?_, hB⟩
  rw [← hv]
  exact NumU.of hG hT L1 (tr_len_le (b := 18446744073709551616) (by decide) hG.dg hT L1 (by omega))

theorem compare_num (v1 v2 : Value) (x y : Int) (L1 L2 : Nat) (w : World) (h1 : NumU w v1 x L1) (h2 : NumU w v2 y L2) (l1 : L1 ≤ 64) (l2 : L2 ≤ 64) :
    Calls Try.prog 60 #[v1, v2] w fun e w' => e = .returned (.tuple #[.int .i64 (cmpI x y), .int .i64 0]) ∧ Drew w w' := by
  obtain ⟨a1, n1, c1, xs, rfl, s1, m1, hx⟩ := h1
  obtain ⟨a2, n2, c2, ys, rfl, s2, m2, hy⟩ := h2
  have := compare_ok a1 n1 c1 xs a2 n2 c2 ys w s1 s2 (by omega) (by omega)
  rwa [hx, hy] at this

theorem div_num0 (v1 v2 : Value) (x : Int) (L1 L2 : Nat) (w : World) (h1 : NumU w v1 x L1) (h2 : NumU w v2 0 L2) (l1 : L1 ≤ 64) :
    Calls Try.prog 37 #[v1, v2] w fun e w' => e = .returned (.tuple #[.slice none 0 0, .slice none 0 0, .int .i64 60]) ∧ w' = w := by
  obtain ⟨a1, n1, c1, xs, rfl, s1, m1, hx⟩ := h1
  obtain ⟨a2, n2, c2, ys, rfl, s2, m2, hy⟩ := h2
  exact div_zero a1 n1 c1 xs a2 n2 c2 ys w s1 s2 (by omega) hy

theorem div_num (v1 v2 : Value) (x y : Int) (L1 L2 : Nat) (w : World) (h1 : NumU w v1 x L1) (h2 : NumU w v2 y L2) (l1 : L1 ≤ 64) (l2 : L2 ≤ 64) (hy0 : y ≠ 0) :
    Calls Try.prog 37 #[v1, v2] w fun e w' => ∃ u1 u2 q r, e = .returned (.tuple #[u1, u2, .int .i64 0]) ∧ NumU w' u1 q L1 ∧ NumU w' u2 r L2 ∧ x = y * q + r ∧ r < y ∧ Below w.heap.size w w' := by
  have p1 := h1.nonneg
  have p2 := h2.nonneg
  obtain ⟨a1, n1, c1, xs, rfl, s1, m1, hx⟩ := h1
  obtain ⟨a2, n2, c2, ys, rfl, s2, m2, hy⟩ := h2
  refine (div_ok a1 n1 c1 xs a2 n2 c2 ys w s1 s2 (by omega) (by omega) (by rw [hy]; exact hy0)).mono ?_
  rintro e w1 ⟨u1, u2, q, r, rfl, hG1, hG2, _, hT1, hT2, hv, hlt, hB⟩
  rw [hx, hy] at hv
  rw [hy] at hlt
  have q0 := val_nonneg (b := 18446744073709551616) (by decide) hG1.dg
  have r0 := val_nonneg (b := 18446744073709551616) (by decide) hG2.dg
  have hq : val 18446744073709551616 q ≤ y * val 18446744073709551616 q := by
    have := Int.mul_le_mul_of_nonneg_right (show 1 ≤ y by omega) q0
    omega
  exact ⟨u1, u2, _, _, rfl, NumU.of hG1 hT1 L1 (tr_len_le (b := 18446744073709551616) (by decide) hG1.dg hT1 L1 (by omega)), NumU.of hG2 hT2 L2 (tr_len_le (b := 18446744073709551616) (by decide) hG2.dg hT2 L2 (by omega)), hv, hlt, hB⟩

end Go.Proofs.Ytobdpcmafjhnlaa
