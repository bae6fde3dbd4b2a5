/-
  NatUndone answers true at any two numbers, and writes nothing that was there.
-/
import Derived.Test.YtekhobmjjoegpaaNNum
import Derived.Test.YtekhobmjjoegpaaNDiv
namespace Go.Proofs.Ytekhobmjjoegpaa
open Go.RowKit Go.IntWalk

theorem sub_num (v1 v2 : Value) (x y : Int) (L1 L2 : Nat) (w : World) (h1 : NumU w v1 x L1) (h2 : NumU w v2 y L2) (l1 : L1 ≤ 64) (l2 : L2 ≤ 64) (hle : y ≤ x) :
    Calls Try.prog 15 #[v1, v2] w fun e w' => ∃ v, e = .returned (.tuple #[v, .int .i64 0]) ∧ NumU w' v (x - y) L1 ∧ Below w.heap.size w w' := by
  have p1 := h1.nonneg
  have p2 := h2.nonneg
  obtain ⟨a1, n1, c1, xs, rfl, s1, m1, hx⟩ := h1
  obtain ⟨a2, n2, c2, ys, rfl, s2, m2, hy⟩ := h2
  refine (sub_ok a1 n1 c1 xs a2 n2 c2 ys w s1 s2 (by omega) (by omega) (by rw [hx, hy]; exact hle)).mono ?_
  rintro e w1 ⟨v, zs, rfl, hG, hT, hv, hB⟩
  rw [hx, hy] at hv
  refine ⟨v, rfl, ?_, hB⟩
  rw [← hv]
  exact NumU.of hG hT L1 (tr_len_le (b := 18446744073709551616) (by decide) hG.dg hT L1 (by omega))

theorem compare_num (v1 v2 : Value) (x y : Int) (L1 L2 : Nat) (w : World) (h1 : NumU w v1 x L1) (h2 : NumU w v2 y L2) (l1 : L1 ≤ 64) (l2 : L2 ≤ 64) :
    Calls Try.prog 10 #[v1, v2] w fun e w' => e = .returned (.tuple #[.int .i64 (cmpI x y), .int .i64 0]) ∧ Drew w w' := by
  obtain ⟨a1, n1, c1, xs, rfl, s1, m1, hx⟩ := h1
  obtain ⟨a2, n2, c2, ys, rfl, s2, m2, hy⟩ := h2
  have := compare_ok a1 n1 c1 xs a2 n2 c2 ys w s1 s2 (by omega) (by omega)
  rwa [hx, hy] at this

theorem div_num0 (v1 v2 : Value) (x : Int) (L1 L2 : Nat) (w : World) (h1 : NumU w v1 x L1) (h2 : NumU w v2 0 L2) (l1 : L1 ≤ 64) :
    Calls Try.prog 22 #[v1, v2] w fun e w' => e = .returned (.tuple #[.slice none 0 0, .slice none 0 0, .int .i64 60]) ∧ w' = w := by
  obtain ⟨a1, n1, c1, xs, rfl, s1, m1, hx⟩ := h1
  obtain ⟨a2, n2, c2, ys, rfl, s2, m2, hy⟩ := h2
  exact div_zero a1 n1 c1 xs a2 n2 c2 ys w s1 s2 (by omega) hy

theorem div_num (v1 v2 : Value) (x y : Int) (L1 L2 : Nat) (w : World) (h1 : NumU w v1 x L1) (h2 : NumU w v2 y L2) (l1 : L1 ≤ 64) (l2 : L2 ≤ 64) (hy0 : y ≠ 0) :
    Calls Try.prog 22 #[v1, v2] w fun e w' => ∃ u1 u2 q r, e = .returned (.tuple #[u1, u2, .int .i64 0]) ∧ NumU w' u1 q L1 ∧ NumU w' u2 r L2 ∧ x = y * q + r ∧ r < y ∧ Below w.heap.size w w' := by
  have p1 := h1.nonneg
  have p2 := h2.nonneg
  obtain ⟨a1, n1, c1, xs, rfl, s1, m1, hx⟩ := h1
  obtain ⟨a2, n2, c2, ys, rfl, s2, m2, hy⟩ := h2
  refine (div_ok a1 n1 c1 xs a2 n2 c2 ys w s1 s2 (by omega) (by omega) (by rw [hy]; exact hy0)).mono ?_
  rintro e w1 ⟨u1, u2, q, r, rfl, hG1, hG2, _, hT1, hT2, hv, hlt, hB⟩
  rw [hx, hy] at hv
  rw [hy] at hlt
  have q0 := val_nonneg (b := 18446744073709551616) (by decide) hG1.dg
  have r0 := val_nonneg (b := 18446744073709551616) (by decide) hG2.dg
  have hq : val 18446744073709551616 q ≤ y * val 18446744073709551616 q := by
    have := Int.mul_le_mul_of_nonneg_right (show 1 ≤ y by omega) q0
    omega
  exact ⟨u1, u2, _, _, rfl, NumU.of hG1 hT1 L1 (tr_len_le (b := 18446744073709551616) (by decide) hG1.dg hT1 L1 (by omega)), NumU.of hG2 hT2 L2 (tr_len_le (b := 18446744073709551616) (by decide) hG2.dg hT2 L2 (by omega)), hv, hlt, hB⟩

set_option maxRecDepth 100000 in
set_option maxHeartbeats 4000000 in
theorem undone_walk (a1 : Option Addr) (n1 c1 : Nat) (xs : List Int) (a2 : Option Addr) (n2 c2 : Nat) (ys : List Int) (w : World) (h1 : SrcG .u64 18446744073709551616 w a1 n1 c1 xs) (h2 : SrcG .u64 18446744073709551616 w a2 n2 c2 ys) :
    Calls Try.prog 7 #[.slice a1 n1 c1, .slice a2 n2 c2] w fun e w' => e = .returned (.bool true) ∧ Below w.heap.size w w' := by
  have C1 := hide (cut_num a1 n1 c1 xs w h1 30 30 rfl)
  have C2 := hide (cut_num a2 n2 c2 ys w h2 30 30 rfl)
  go_enter Try.func7, Try.ntmps7
  go_wp2_with fail
  refine C1.out.mono ?_
  rintro e w1 ⟨vA, xA, rfl, hvA, NA, hw⟩
  have hw2 := hw.symm
  subst hw2
  clear hw hvA
  go_wp2_with fail
  refine C2.out.mono ?_
  rintro e w1 ⟨vB, xB, rfl, hvB, NB, hw⟩
  have hw2 := hw.symm
  subst hw2
  clear hw hvB
  have LB := Below.refl w.heap.size w
  go_wp2_with fail
  refine (sum_num _ _ _ _ _ _ _ NA NB (by omega) (by omega) 31 (by omega) (by omega)).mono ?_
  rintro e w1 ⟨vp, rfl, Np, hB⟩
  have NA := NA.below hB
  have NB := NB.below hB
  have LB := LB.trans (hB.mono LB.size)
  clear hB
  go_wp2_with fail
  refine (sub_num _ _ _ _ _ _ _ Np NB (by omega) (by omega) (by have := NA.nonneg; omega)).mono ?_
  rintro e w2 ⟨vq, rfl, Nq, hB⟩
  have NA := NA.below hB
  have NB := NB.below hB
  have LB := LB.trans (hB.mono LB.size)
  clear hB Np
  go_wp2_with fail
  refine (alike_true _ _ _ _ _ _ _ Nq NA (by omega) (by omega) (by omega)).mono ?_
  rintro e w3 ⟨rfl, hD⟩
  have NA := NA.drew hD
  have NB := NB.drew hD
  have LB := hD.below LB
  clear hD Nq
  go_wp2_with fail
  refine (works_any _).mono ?_
  rintro e w4 ⟨rfl, hB⟩
  have NA := NA.below hB
  have NB := NB.below hB
  have LB := LB.trans (hB.mono LB.size)
  clear hB
  by_cases hz : xB = 0
  · subst hz
    go_wp2_with fail
    refine (div_num0 _ _ _ _ _ _ NA NB (by omega)).mono ?_
    rintro e w5 ⟨rfl, hw⟩
    have hw2 := hw.symm
    subst hw2
    clear hw
    go_wp2_with fail
    refine (alike_true _ _ _ _ _ _ _ NB (NumU.nil _ 0) (by omega) (by omega) rfl).mono ?_
    rintro e w6 ⟨rfl, hD⟩
    have LB := hD.below LB
    go_wp2
    go_ret
    exact ⟨rfl, LB⟩
  · go_wp2_with fail
    refine (div_num _ _ _ _ _ _ _ NA NB (by omega) (by omega) hz).mono ?_
    rintro e w5 ⟨vq, vr, q, r, rfl, Nq, Nr, hx, hlt, hB⟩
    have HX := hide hx
    clear hx
    have NA := NA.below hB
    have NB := NB.below hB
    have LB := LB.trans (hB.mono LB.size)
    clear hB
    have hal := alike_num _ _ _ _ _ _ _ NB (NumU.nil w5 0) (by omega) (by omega)
    rw [show decide (xB = 0) = false by simpa using hz] at hal
    have HAL := hide hal
    clear hal
    go_wp2_with fail
    refine HAL.out.mono ?_
    rintro e w6 ⟨rfl, hD⟩
    have NA := NA.drew hD
    have NB := NB.drew hD
    have Nq := Nq.drew hD
    have Nr := Nr.drew hD
    have LB := hD.below LB
    clear hD HAL
    have hcm := compare_num _ _ _ _ _ _ _ Nr NB (by omega) (by omega)
    rw [cmpI_lt hlt] at hcm
    have HCM := hide hcm
    clear hcm
    go_wp2_with fail
    refine HCM.out.mono ?_
    rintro e w7 ⟨rfl, hD⟩
    have NA := NA.drew hD
    have NB := NB.drew hD
    have Nq := Nq.drew hD
    have Nr := Nr.drew hD
    have LB := hD.below LB
    clear hD HCM
    go_wp2_with fail
    refine (product_num _ _ _ _ _ _ _ Nq NB (by omega) (by omega) 60 (by omega)).mono ?_
    rintro e w8 ⟨vp, rfl, Np, hB⟩
    have NA := NA.below hB
    have Nr := Nr.below hB
    have LB := LB.trans (hB.mono LB.size)
    clear hB
    go_wp2_with fail
    refine (sum_num _ _ _ _ _ _ _ Np Nr (by omega) (by omega) 61 (by omega) (by omega)).mono ?_
    rintro e w9 ⟨vs, rfl, Ns, hB⟩
    have NA := NA.below hB
    have LB := LB.trans (hB.mono LB.size)
    clear hB
    go_wp2_with fail
    refine (alike_true _ _ _ _ _ _ _ Ns NA (by omega) (by omega) (by have := HX.out; rw [Int.mul_comm q]; omega)).mono ?_
    rintro e w10 ⟨rfl, hD⟩
    have LB := hD.below LB
    go_wp2
    go_ret
    exact ⟨rfl, LB⟩

end Go.Proofs.Ytekhobmjjoegpaa
