/-
  nat.Compare, nat.Add, nat.Sub, nat.Mul: what they answer of any limbs that may be, or that they may not be.
-/
import Derived.Test.YtobdpcmafjhnlaaNTimes
import Derived.Deep.RegionHeld3
namespace Go.Proofs.Ytobdpcmafjhnlaa
open Go.RowKit Go.IntWalk

theorem SrcG.trm {κ : IntKind} {B : Int} {w : World} {ao : Option Addr} {n c : Nat} {xs : List Int} (hs : SrcG κ B w ao n c xs) : SrcG κ B w ao (trm xs).length (trm xs).length (trm xs) := by
  obtain ⟨m, hm, he⟩ := trm_take xs
  have hl : (Go.Proofs.Ytobdpcmafjhnlaa.trm xs).length = m := by rw [he, List.length_take]; omega
  rw [hl, he]
  exact hs.head m (by rw [← hs.hlen]; exact hm)

theorem makeU (M : Nat) (m : Int) (hm : m = (M : Int)) (hM : M ≤ 1000000) (W : World) :
    (Instr.makeSlice 23 (.int .i64 m) (.int .i64 m)).run Try.prog W = .ok (.slice (some ⟨W.heap.size, 0, none⟩) M M) (W.alloc (.cells (madeCells #[.int .u64 0] M) 52)) := by
  subst hm
  obtain ⟨i0, hi, hz0, hz1, hz2⟩ := info_parts Try.infoU
  rw [run_make W _ _ i0 (.int .u64 0) Try.underlying23 hi hz0 .i64 .i64 (M : Int) (M : Int) (by omega) (by omega) (by rw [hz2]; omega) (by omega)]
  rw [hz1]
  simp [Value.cells]

theorem trm_rest (xs : List Int) : ∃ rest, xs = trm xs ++ rest := by
  obtain ⟨m, _, he⟩ := trm_take xs
  exact ⟨xs.drop m, by rw [he, List.take_append_drop]⟩

theorem RowG.got {κ : IntKind} {B : Int} {T : TypeId} {w : World} {g base : Nat} {Z : List Int} (h : RowG κ B T w g Z) (hb : base ≤ g) (hl : Z.length ≤ 1000000) : GotG κ B T w base (.slice (some ⟨g, 0, none⟩) (trm Z).length (trm Z).length) (trm Z) := by
  obtain ⟨rest, he⟩ := trm_rest Z
  exact ⟨g, rest, rfl, hb, by rw [← he]; exact h, by have := trm_len Z; omega⟩

theorem tr_len_le {b : Int} (hb : 0 < b) {zs : List Int} (hz : Dg b zs) (ht : Tr zs) (m : Nat) (hv : val b zs < pw b m) : zs.length ≤ m := by
  rcases Nat.lt_or_ge m zs.length with h | h
  · exfalso
    have h1 := tr_low hb hz ht (by intro h'; subst h'; simp at h)
    have h2 := pw_mono (show 1 ≤ b by omega) m (zs.length - 1) (by omega)
    omega
  · exact h

/-- What is carried out of a row that is long enough: nothing. -/
theorem no_carry (P Z k s : Int) (hP : 0 < P) (hZ : 0 ≤ Z) (hk : 0 ≤ k) (h : Z + P * k = s) (hs : s < P) : k = 0 := by
  rcases Int.lt_or_le 0 k with h1 | h1
  · exfalso
    have := Int.mul_le_mul_of_nonneg_left (show 1 ≤ k by omega) (show 0 ≤ P by omega)
    omega
  · omega


set_option maxRecDepth 100000 in
set_option maxHeartbeats 1000000 in
theorem compare_long (a1 : Option Addr) (n1 c1 : Nat) (xs : List Int) (a2 : Option Addr) (n2 c2 : Nat) (ys : List Int) (w : World) (h1 : SrcG .u64 18446744073709551616 w a1 n1 c1 xs) (h2 : SrcG .u64 18446744073709551616 w a2 n2 c2 ys) (hL : 64 < (trm xs).length ∨ 64 < (trm ys).length) :
    Calls Try.prog 60 #[.slice a1 n1 c1, .slice a2 n2 c2] w fun e w' => e = .returned (.tuple #[.int .i64 0, .int .i64 3]) ∧ w' = w := by
  by_cases l1 : 64 < (trm xs).length
  · have l2 : (trm ys).length = (trm ys).length := rfl
    have d1 := hide h1.hdg
    have d2 := hide h2.hdg
    obtain ⟨X, hX⟩ : ∃ X, trm xs = X := ⟨_, rfl⟩
    obtain ⟨Y, hY⟩ : ∃ Y, trm ys = Y := ⟨_, rfl⟩
    have vX := hide (show val 18446744073709551616 X = val 18446744073709551616 xs by rw [← hX]; exact trm_val _ _)
    have vY := hide (show val 18446744073709551616 Y = val 18446744073709551616 ys by rw [← hY]; exact trm_val _ _)
    have tX := hide (show Tr X by rw [← hX]; exact trm_tr _)
    have tY := hide (show Tr Y by rw [← hY]; exact trm_tr _)
    have s1 := h1.trm
    have s2 := h2.trm
    have ct1 := hide (trim_any a1 n1 c1 xs w h1)
    have ct2 := hide (trim_any a2 n2 c2 ys w h2)
    rw [hX] at s1 ct1 l1
    rw [hY] at s2 ct2 l2
    clear hX hY
    obtain ⟨m1, hm1⟩ : ∃ m, X.length = m := ⟨_, rfl⟩
    obtain ⟨m2, hm2⟩ : ∃ m, Y.length = m := ⟨_, rfl⟩
    rw [hm1] at s1 ct1 l1
    rw [hm2] at s2 ct2 l2
    have M1 := hide hm1
    have M2 := hide hm2
    clear hm1 hm2
    have i1 := s1.lenI.1
    go_enter Try.func60, Try.ntmps60
    go_wp2_with fail
    refine ct1.out.mono ?_
    rintro e w1 ⟨rfl, _, hw⟩
    have hw2 := hw.symm
    subst hw2
    clear hw
    go_wp2_with fail
    refine ct2.out.mono ?_
    rintro e w1 ⟨rfl, _, hw⟩
    have hw2 := hw.symm
    subst hw2
    clear hw
    go_wp2_with fail
    refine (tooLong_any _ _ _ _ (by omega)).mono ?_
    rintro e w1 ⟨rfl, hw⟩
    have hw2 := hw.symm
    subst hw2
    clear hw
    rw [show decide (64 < m1) = true by simpa using l1]
    go_wp2
    go_ret2
    exact ⟨rfl, rfl⟩
  · have l2 : 64 < (trm ys).length := by omega
    clear hL
    have d1 := hide h1.hdg
    have d2 := hide h2.hdg
    obtain ⟨X, hX⟩ : ∃ X, trm xs = X := ⟨_, rfl⟩
    obtain ⟨Y, hY⟩ : ∃ Y, trm ys = Y := ⟨_, rfl⟩
    have vX := hide (show val 18446744073709551616 X = val 18446744073709551616 xs by rw [← hX]; exact trm_val _ _)
    have vY := hide (show val 18446744073709551616 Y = val 18446744073709551616 ys by rw [← hY]; exact trm_val _ _)
    have tX := hide (show Tr X by rw [← hX]; exact trm_tr _)
    have tY := hide (show Tr Y by rw [← hY]; exact trm_tr _)
    have s1 := h1.trm
    have s2 := h2.trm
    have ct1 := hide (trim_any a1 n1 c1 xs w h1)
    have ct2 := hide (trim_any a2 n2 c2 ys w h2)
    rw [hX] at s1 ct1 l1
    rw [hY] at s2 ct2 l2
    clear hX hY
    obtain ⟨m1, hm1⟩ : ∃ m, X.length = m := ⟨_, rfl⟩
    obtain ⟨m2, hm2⟩ : ∃ m, Y.length = m := ⟨_, rfl⟩
    rw [hm1] at s1 ct1 l1
    rw [hm2] at s2 ct2 l2
    have M1 := hide hm1
    have M2 := hide hm2
    clear hm1 hm2
    have i2 := s2.lenI.1
    go_enter Try.func60, Try.ntmps60
    go_wp2_with fail
    refine ct1.out.mono ?_
    rintro e w1 ⟨rfl, _, hw⟩
    have hw2 := hw.symm
    subst hw2
    clear hw
    go_wp2_with fail
    refine ct2.out.mono ?_
    rintro e w1 ⟨rfl, _, hw⟩
    have hw2 := hw.symm
    subst hw2
    clear hw
    go_wp2_with fail
    refine (tooLong_any _ _ _ _ (by omega)).mono ?_
    rintro e w1 ⟨rfl, hw⟩
    have hw2 := hw.symm
    subst hw2
    clear hw
    rw [show decide (64 < m1) = false by simpa using l1]
    go_wp2_with fail
    refine (tooLong_any _ _ _ _ (by omega)).mono ?_
    rintro e w1 ⟨rfl, hw⟩
    have hw2 := hw.symm
    subst hw2
    clear hw
    rw [show decide (64 < m2) = true by simpa using l2]
    go_wp2
    go_ret2
    exact ⟨rfl, rfl⟩

set_option maxRecDepth 100000 in
set_option maxHeartbeats 1000000 in
theorem add_long (a1 : Option Addr) (n1 c1 : Nat) (xs : List Int) (a2 : Option Addr) (n2 c2 : Nat) (ys : List Int) (w : World) (h1 : SrcG .u64 18446744073709551616 w a1 n1 c1 xs) (h2 : SrcG .u64 18446744073709551616 w a2 n2 c2 ys) (hL : 64 < (trm xs).length ∨ 64 < (trm ys).length) :
    Calls Try.prog 57 #[.slice a1 n1 c1, .slice a2 n2 c2] w fun e w' => e = .returned (.tuple #[.slice none 0 0, .int .i64 3]) ∧ w' = w := by
  by_cases l1 : 64 < (trm xs).length
  · have l2 : (trm ys).length = (trm ys).length := rfl
    have d1 := hide h1.hdg
    have d2 := hide h2.hdg
    obtain ⟨X, hX⟩ : ∃ X, trm xs = X := ⟨_, rfl⟩
    obtain ⟨Y, hY⟩ : ∃ Y, trm ys = Y := ⟨_, rfl⟩
    have vX := hide (show val 18446744073709551616 X = val 18446744073709551616 xs by rw [← hX]; exact trm_val _ _)
    have vY := hide (show val 18446744073709551616 Y = val 18446744073709551616 ys by rw [← hY]; exact trm_val _ _)
    have tX := hide (show Tr X by rw [← hX]; exact trm_tr _)
    have tY := hide (show Tr Y by rw [← hY]; exact trm_tr _)
    have s1 := h1.trm
    have s2 := h2.trm
    have ct1 := hide (trim_any a1 n1 c1 xs w h1)
    have ct2 := hide (trim_any a2 n2 c2 ys w h2)
    rw [hX] at s1 ct1 l1
    rw [hY] at s2 ct2 l2
    clear hX hY
    obtain ⟨m1, hm1⟩ : ∃ m, X.length = m := ⟨_, rfl⟩
    obtain ⟨m2, hm2⟩ : ∃ m, Y.length = m := ⟨_, rfl⟩
    rw [hm1] at s1 ct1 l1
    rw [hm2] at s2 ct2 l2
    have M1 := hide hm1
    have M2 := hide hm2
    clear hm1 hm2
    have i1 := s1.lenI.1
    go_enter Try.func57, Try.ntmps57
    go_wp2_with fail
    refine ct1.out.mono ?_
    rintro e w1 ⟨rfl, _, hw⟩
    have hw2 := hw.symm
    subst hw2
    clear hw
    go_wp2_with fail
    refine ct2.out.mono ?_
    rintro e w1 ⟨rfl, _, hw⟩
    have hw2 := hw.symm
    subst hw2
    clear hw
    go_wp2_with fail
    refine (tooLong_any _ _ _ _ (by omega)).mono ?_
    rintro e w1 ⟨rfl, hw⟩
    have hw2 := hw.symm
    subst hw2
    clear hw
    rw [show decide (64 < m1) = true by simpa using l1]
    go_wp2
    go_ret2
    exact ⟨rfl, rfl⟩
  · have l2 : 64 < (trm ys).length := by omega
    clear hL
    have d1 := hide h1.hdg
    have d2 := hide h2.hdg
    obtain ⟨X, hX⟩ : ∃ X, trm xs = X := ⟨_, rfl⟩
    obtain ⟨Y, hY⟩ : ∃ Y, trm ys = Y := ⟨_, rfl⟩
    have vX := hide (show val 18446744073709551616 X = val 18446744073709551616 xs by rw [← hX]; exact trm_val _ _)
    have vY := hide (show val 18446744073709551616 Y = val 18446744073709551616 ys by rw [← hY]; exact trm_val _ _)
    have tX := hide (show Tr X by rw [← hX]; exact trm_tr _)
    have tY := hide (show Tr Y by rw [← hY]; exact trm_tr _)
    have s1 := h1.trm
    have s2 := h2.trm
    have ct1 := hide (trim_any a1 n1 c1 xs w h1)
    have ct2 := hide (trim_any a2 n2 c2 ys w h2)
    rw [hX] at s1 ct1 l1
    rw [hY] at s2 ct2 l2
    clear hX hY
    obtain ⟨m1, hm1⟩ : ∃ m, X.length = m := ⟨_, rfl⟩
    obtain ⟨m2, hm2⟩ : ∃ m, Y.length = m := ⟨_, rfl⟩
    rw [hm1] at s1 ct1 l1
    rw [hm2] at s2 ct2 l2
    have M1 := hide hm1
    have M2 := hide hm2
    clear hm1 hm2
    have i2 := s2.lenI.1
    go_enter Try.func57, Try.ntmps57
    go_wp2_with fail
    refine ct1.out.mono ?_
    rintro e w1 ⟨rfl, _, hw⟩
    have hw2 := hw.symm
    subst hw2
    clear hw
    go_wp2_with fail
    refine ct2.out.mono ?_
    rintro e w1 ⟨rfl, _, hw⟩
    have hw2 := hw.symm
    subst hw2
    clear hw
    go_wp2_with fail
    refine (tooLong_any _ _ _ _ (by omega)).mono ?_
    rintro e w1 ⟨rfl, hw⟩
    have hw2 := hw.symm
    subst hw2
    clear hw
    rw [show decide (64 < m1) = false by simpa using l1]
    go_wp2_with fail
    refine (tooLong_any _ _ _ _ (by omega)).mono ?_
    rintro e w1 ⟨rfl, hw⟩
    have hw2 := hw.symm
    subst hw2
    clear hw
    rw [show decide (64 < m2) = true by simpa using l2]
    go_wp2
    go_ret2
    exact ⟨rfl, rfl⟩

set_option maxRecDepth 100000 in
set_option maxHeartbeats 1000000 in
theorem sub_long (a1 : Option Addr) (n1 c1 : Nat) (xs : List Int) (a2 : Option Addr) (n2 c2 : Nat) (ys : List Int) (w : World) (h1 : SrcG .u64 18446744073709551616 w a1 n1 c1 xs) (h2 : SrcG .u64 18446744073709551616 w a2 n2 c2 ys) (hL : 64 < (trm xs).length ∨ 64 < (trm ys).length) :
    Calls Try.prog 61 #[.slice a1 n1 c1, .slice a2 n2 c2] w fun e w' => e = .returned (.tuple #[.slice none 0 0, .int .i64 3]) ∧ w' = w := by
  by_cases l1 : 64 < (trm xs).length
  · have l2 : (trm ys).length = (trm ys).length := rfl
    have d1 := hide h1.hdg
    have d2 := hide h2.hdg
    obtain ⟨X, hX⟩ : ∃ X, trm xs = X := ⟨_, rfl⟩
    obtain ⟨Y, hY⟩ : ∃ Y, trm ys = Y := ⟨_, rfl⟩
    have vX := hide (show val 18446744073709551616 X = val 18446744073709551616 xs by rw [← hX]; exact trm_val _ _)
    have vY := hide (show val 18446744073709551616 Y = val 18446744073709551616 ys by rw [← hY]; exact trm_val _ _)
    have tX := hide (show Tr X by rw [← hX]; exact trm_tr _)
    have tY := hide (show Tr Y by rw [← hY]; exact trm_tr _)
    have s1 := h1.trm
    have s2 := h2.trm
    have ct1 := hide (trim_any a1 n1 c1 xs w h1)
    have ct2 := hide (trim_any a2 n2 c2 ys w h2)
    rw [hX] at s1 ct1 l1
    rw [hY] at s2 ct2 l2
    clear hX hY
    obtain ⟨m1, hm1⟩ : ∃ m, X.length = m := ⟨_, rfl⟩
    obtain ⟨m2, hm2⟩ : ∃ m, Y.length = m := ⟨_, rfl⟩
    rw [hm1] at s1 ct1 l1
    rw [hm2] at s2 ct2 l2
    have M1 := hide hm1
    have M2 := hide hm2
    clear hm1 hm2
    have i1 := s1.lenI.1
    go_enter Try.func61, Try.ntmps61
    go_wp2_with fail
    refine ct1.out.mono ?_
    rintro e w1 ⟨rfl, _, hw⟩
    have hw2 := hw.symm
    subst hw2
    clear hw
    go_wp2_with fail
    refine ct2.out.mono ?_
    rintro e w1 ⟨rfl, _, hw⟩
    have hw2 := hw.symm
    subst hw2
    clear hw
    go_wp2_with fail
    refine (tooLong_any _ _ _ _ (by omega)).mono ?_
    rintro e w1 ⟨rfl, hw⟩
    have hw2 := hw.symm
    subst hw2
    clear hw
    rw [show decide (64 < m1) = true by simpa using l1]
    go_wp2
    go_ret2
    exact ⟨rfl, rfl⟩
  · have l2 : 64 < (trm ys).length := by omega
    clear hL
    have d1 := hide h1.hdg
    have d2 := hide h2.hdg
    obtain ⟨X, hX⟩ : ∃ X, trm xs = X := ⟨_, rfl⟩
    obtain ⟨Y, hY⟩ : ∃ Y, trm ys = Y := ⟨_, rfl⟩
    have vX := hide (show val 18446744073709551616 X = val 18446744073709551616 xs by rw [← hX]; exact trm_val _ _)
    have vY := hide (show val 18446744073709551616 Y = val 18446744073709551616 ys by rw [← hY]; exact trm_val _ _)
    have tX := hide (show Tr X by rw [← hX]; exact trm_tr _)
    have tY := hide (show Tr Y by rw [← hY]; exact trm_tr _)
    have s1 := h1.trm
    have s2 := h2.trm
    have ct1 := hide (trim_any a1 n1 c1 xs w h1)
    have ct2 := hide (trim_any a2 n2 c2 ys w h2)
    rw [hX] at s1 ct1 l1
    rw [hY] at s2 ct2 l2
    clear hX hY
    obtain ⟨m1, hm1⟩ : ∃ m, X.length = m := ⟨_, rfl⟩
    obtain ⟨m2, hm2⟩ : ∃ m, Y.length = m := ⟨_, rfl⟩
    rw [hm1] at s1 ct1 l1
    rw [hm2] at s2 ct2 l2
    have M1 := hide hm1
    have M2 := hide hm2
    clear hm1 hm2
    have i2 := s2.lenI.1
    go_enter Try.func61, Try.ntmps61
    go_wp2_with fail
    refine ct1.out.mono ?_
    rintro e w1 ⟨rfl, _, hw⟩
    have hw2 := hw.symm
    subst hw2
    clear hw
    go_wp2_with fail
    refine ct2.out.mono ?_
    rintro e w1 ⟨rfl, _, hw⟩
    have hw2 := hw.symm
    subst hw2
    clear hw
    go_wp2_with fail
    refine (tooLong_any _ _ _ _ (by omega)).mono ?_
    rintro e w1 ⟨rfl, hw⟩
    have hw2 := hw.symm
    subst hw2
    clear hw
    rw [show decide (64 < m1) = false by simpa using l1]
    go_wp2_with fail
    refine (tooLong_any _ _ _ _ (by omega)).mono ?_
    rintro e w1 ⟨rfl, hw⟩
    have hw2 := hw.symm
    subst hw2
    clear hw
    rw [show decide (64 < m2) = true by simpa using l2]
    go_wp2
    go_ret2
    exact ⟨rfl, rfl⟩

set_option maxRecDepth 100000 in
set_option maxHeartbeats 1000000 in
theorem mul_long (a1 : Option Addr) (n1 c1 : Nat) (xs : List Int) (a2 : Option Addr) (n2 c2 : Nat) (ys : List Int) (w : World) (h1 : SrcG .u64 18446744073709551616 w a1 n1 c1 xs) (h2 : SrcG .u64 18446744073709551616 w a2 n2 c2 ys) (hL : 64 < (trm xs).length ∨ 64 < (trm ys).length) :
    Calls Try.prog 62 #[.slice a1 n1 c1, .slice a2 n2 c2] w fun e w' => e = .returned (.tuple #[.slice none 0 0, .int .i64 3]) ∧ w' = w := by
  by_cases l1 : 64 < (trm xs).length
  · have l2 : (trm ys).length = (trm ys).length := rfl
    have d1 := hide h1.hdg
    have d2 := hide h2.hdg
    obtain ⟨X, hX⟩ : ∃ X, trm xs = X := ⟨_, rfl⟩
    obtain ⟨Y, hY⟩ : ∃ Y, trm ys = Y := ⟨_, rfl⟩
    have vX := hide (show val 18446744073709551616 X = val 18446744073709551616 xs by rw [← hX]; exact trm_val _ _)
    have vY := hide (show val 18446744073709551616 Y = val 18446744073709551616 ys by rw [← hY]; exact trm_val _ _)
    have tX := hide (show Tr X by rw [← hX]; exact trm_tr _)
    have tY := hide (show Tr Y by rw [← hY]; exact trm_tr _)
    have s1 := h1.trm
    have s2 := h2.trm
    have ct1 := hide (trim_any a1 n1 c1 xs w h1)
    have ct2 := hide (trim_any a2 n2 c2 ys w h2)
    rw [hX] at s1 ct1 l1
    rw [hY] at s2 ct2 l2
    clear hX hY
    obtain ⟨m1, hm1⟩ : ∃ m, X.length = m := ⟨_, rfl⟩
    obtain ⟨m2, hm2⟩ : ∃ m, Y.length = m := ⟨_, rfl⟩
    rw [hm1] at s1 ct1 l1
    rw [hm2] at s2 ct2 l2
    have M1 := hide hm1
    have M2 := hide hm2
    clear hm1 hm2
    have i1 := s1.lenI.1
    go_enter Try.func62, Try.ntmps62
    go_wp2_with fail
    refine ct1.out.mono ?_
    rintro e w1 ⟨rfl, _, hw⟩
    have hw2 := hw.symm
    subst hw2
    clear hw
    go_wp2_with fail
    refine ct2.out.mono ?_
    rintro e w1 ⟨rfl, _, hw⟩
    have hw2 := hw.symm
    subst hw2
    clear hw
    go_wp2_with fail
    refine (tooLong_any _ _ _ _ (by omega)).mono ?_
    rintro e w1 ⟨rfl, hw⟩
    have hw2 := hw.symm
    subst hw2
    clear hw
    rw [show decide (64 < m1) = true by simpa using l1]
    go_wp2
    go_ret2
    exact ⟨rfl, rfl⟩
  · have l2 : 64 < (trm ys).length := by omega
    clear hL
    have d1 := hide h1.hdg
    have d2 := hide h2.hdg
    obtain ⟨X, hX⟩ : ∃ X, trm xs = X := ⟨_, rfl⟩
    obtain ⟨Y, hY⟩ : ∃ Y, trm ys = Y := ⟨_, rfl⟩
    have vX := hide (show val 18446744073709551616 X = val 18446744073709551616 xs by rw [← hX]; exact trm_val _ _)
    have vY := hide (show val 18446744073709551616 Y = val 18446744073709551616 ys by rw [← hY]; exact trm_val _ _)
    have tX := hide (show Tr X by rw [← hX]; exact trm_tr _)
    have tY := hide (show Tr Y by rw [← hY]; exact trm_tr _)
    have s1 := h1.trm
    have s2 := h2.trm
    have ct1 := hide (trim_any a1 n1 c1 xs w h1)
    have ct2 := hide (trim_any a2 n2 c2 ys w h2)
    rw [hX] at s1 ct1 l1
    rw [hY] at s2 ct2 l2
    clear hX hY
    obtain ⟨m1, hm1⟩ : ∃ m, X.length = m := ⟨_, rfl⟩
    obtain ⟨m2, hm2⟩ : ∃ m, Y.length = m := ⟨_, rfl⟩
    rw [hm1] at s1 ct1 l1
    rw [hm2] at s2 ct2 l2
    have M1 := hide hm1
    have M2 := hide hm2
    clear hm1 hm2
    have i2 := s2.lenI.1
    go_enter Try.func62, Try.ntmps62
    go_wp2_with fail
    refine ct1.out.mono ?_
    rintro e w1 ⟨rfl, _, hw⟩
    have hw2 := hw.symm
    subst hw2
    clear hw
    go_wp2_with fail
    refine ct2.out.mono ?_
    rintro e w1 ⟨rfl, _, hw⟩
    have hw2 := hw.symm
    subst hw2
    clear hw
    go_wp2_with fail
    refine (tooLong_any _ _ _ _ (by omega)).mono ?_
    rintro e w1 ⟨rfl, hw⟩
    have hw2 := hw.symm
    subst hw2
    clear hw
    rw [show decide (64 < m1) = false by simpa using l1]
    go_wp2_with fail
    refine (tooLong_any _ _ _ _ (by omega)).mono ?_
    rintro e w1 ⟨rfl, hw⟩
    have hw2 := hw.symm
    subst hw2
    clear hw
    rw [show decide (64 < m2) = true by simpa using l2]
    go_wp2
    go_ret2
    exact ⟨rfl, rfl⟩

set_option maxRecDepth 100000 in
set_option maxHeartbeats 1000000 in
theorem compare_ok (a1 : Option Addr) (n1 c1 : Nat) (xs : List Int) (a2 : Option Addr) (n2 c2 : Nat) (ys : List Int) (w : World) (h1 : SrcG .u64 18446744073709551616 w a1 n1 c1 xs) (h2 : SrcG .u64 18446744073709551616 w a2 n2 c2 ys) (l1 : (trm xs).length ≤ 64) (l2 : (trm ys).length ≤ 64) :
    Calls Try.prog 60 #[.slice a1 n1 c1, .slice a2 n2 c2] w fun e w' => e = .returned (.tuple #[.int .i64 (cmpI (val 18446744073709551616 xs) (val 18446744073709551616 ys)), .int .i64 0]) ∧ Drew w w' := by
  have d1 := hide h1.hdg
  have d2 := hide h2.hdg
  obtain ⟨X, hX⟩ : ∃ X, trm xs = X := ⟨_, rfl⟩
  obtain ⟨Y, hY⟩ : ∃ Y, trm ys = Y := ⟨_, rfl⟩
  have vX := hide (show val 18446744073709551616 X = val 18446744073709551616 xs by rw [← hX]; exact trm_val _ _)
  have vY := hide (show val 18446744073709551616 Y = val 18446744073709551616 ys by rw [← hY]; exact trm_val _ _)
  have tX := hide (show Tr X by rw [← hX]; exact trm_tr _)
  have tY := hide (show Tr Y by rw [← hY]; exact trm_tr _)
  have s1 := h1.trm
  have s2 := h2.trm
  have ct1 := hide (trim_any a1 n1 c1 xs w h1)
  have ct2 := hide (trim_any a2 n2 c2 ys w h2)
  rw [hX] at s1 ct1 l1
  rw [hY] at s2 ct2 l2
  clear hX hY
  obtain ⟨m1, hm1⟩ : ∃ m, X.length = m := ⟨_, rfl⟩
  obtain ⟨m2, hm2⟩ : ∃ m, Y.length = m := ⟨_, rfl⟩
  rw [hm1] at s1 ct1 l1
  rw [hm2] at s2 ct2 l2
  have M1 := hide hm1
  have M2 := hide hm2
  clear hm1 hm2
  go_enter Try.func60, Try.ntmps60
  go_wp2_with fail
  refine ct1.out.mono ?_
  rintro e w1 ⟨rfl, _, hw⟩
  have hw2 := hw.symm
  subst hw2
  clear hw
  go_wp2_with fail
  refine ct2.out.mono ?_
  rintro e w1 ⟨rfl, _, hw⟩
  have hw2 := hw.symm
  subst hw2
  clear hw
  go_wp2_with fail
  refine (tooLong_any _ _ _ _ (by omega)).mono ?_
  rintro e w1 ⟨rfl, hw⟩
  have hw2 := hw.symm
  subst hw2
  clear hw
  rw [show decide (64 < m1) = false by simpa using l1]
  go_wp2_with fail
  refine (tooLong_any _ _ _ _ (by omega)).mono ?_
  rintro e w1 ⟨rfl, hw⟩
  have hw2 := hw.symm
  subst hw2
  clear hw
  rw [show decide (64 < m2) = false by simpa using l2]
  go_wp2_with fail
  refine (order_any _ _ _ X _ _ _ Y _ s1 s2 tX.out tY.out).mono ?_
  rintro e w1 ⟨rfl, hD⟩
  rw [vX.out, vY.out]
  go_wp2
  go_ret2
  exact ⟨rfl, hD⟩

theorem val_pad (b : Int) (X : List Int) (k : Nat) : val b (X ++ List.replicate k 0) = val b X := by rw [val_append, val_rep]; omega

/-- A number copied to the beginning of a row of noughts. -/
theorem copyU (w : World) (g M m c : Nat) (so : Option Addr) (X : List Int) (hrow : RowG .u64 18446744073709551616 52 w g (List.replicate M 0)) (hsrc : SrcG .u64 18446744073709551616 w so m c X) (hm : m ≤ M) (D : Nat) (w0 : World) (hb : Below D w0 w) (hD : D ≤ g) :
    ∃ w', (Builtin.copy_ #[23, 23] 3 #[.slice (some ⟨g, 0, none⟩) M M, .slice so m c]).run Try.prog w = .ok (goInt m) w' ∧ RowG .u64 18446744073709551616 52 w' g (X ++ List.replicate (M - m) 0) ∧ Below D w0 w' := by
  have hl := hsrc.hlen
  have hc : w.heap[g]? = some (.cells (List.replicate M (Value.int .u64 0)).toArray 52 (0, 0)) := by
    have := hrow.1
    simpa using this
  rcases Nat.eq_zero_or_pos m with h0 | h0
  · subst h0
    obtain rfl : X = [] := List.eq_nil_of_length_eq_zero hl
    exact ⟨w, run_copy_none (P := Try.prog) w _ _ _ 52 _ _ _ _ _ _ Try.underlying23 (by kernel_rfl) (Nat.zero_min _), by simpa using hrow, hb⟩
  · obtain ⟨b, off, rfl, hcell⟩ := hsrc.hrd (by intro h; subst h; simp at hl; omega)
    refine ⟨_, ?_, ?_, below_setRow hb hD ((X.map (Value.int .u64)) ++ List.replicate (M - m) (Value.int .u64 0)).toArray⟩
    · have := run_copy_row (P := Try.prog) w 23 23 3 52 g 0 M M ⟨b, off, none⟩ m c _ 52 (X.map (Value.int .u64)) Try.underlying23 (by kernel_rfl) hc (by rw [List.length_map, hl]; exact (Nat.min_eq_left hm).symm) ?_ (by simp; omega) (ints_one _ _)
      · rw [this]
        simp [hl]
      · intro j v hj
        have hjl : j < X.length := by
          rcases Nat.lt_or_ge j X.length with h | h
          · exact h
          · simp [List.getElem?_eq_none (show (X.map (Value.int .u64)).length ≤ j by simpa using h)] at hj
        rw [addNone, hcell j hjl]
        simp [List.getElem?_eq_getElem hjl] at hj
        subst hj
        simp [List.getD, List.getElem?_eq_getElem hjl]
    · refine ⟨?_, hsrc.hdg.append (fun x hx => by simp [List.mem_replicate] at hx; omega)⟩
      rw [setRow_heap w g _ _ 52 _ hc]
      simp

theorem SrcG.away {κ : IntKind} {B : Int} {w : World} {ao : Option Addr} {n c : Nat} {xs : List Int} (h : SrcG κ B w ao n c xs) {g : Nat} (hg : w.heap.size ≤ g) : ∀ b o, ao = some ⟨b, o, none⟩ → xs ≠ [] → b ≠ g := by
  intro b o he hx hb
  have := h.blk b o he hx
  omega

set_option maxRecDepth 100000 in
set_option maxHeartbeats 1000000 in
theorem add_ok (a1 : Option Addr) (n1 c1 : Nat) (xs : List Int) (a2 : Option Addr) (n2 c2 : Nat) (ys : List Int) (w : World) (h1 : SrcG .u64 18446744073709551616 w a1 n1 c1 xs) (h2 : SrcG .u64 18446744073709551616 w a2 n2 c2 ys) (l1 : (trm xs).length ≤ 64) (l2 : (trm ys).length ≤ 64) :
    Calls Try.prog 57 #[.slice a1 n1 c1, .slice a2 n2 c2] w fun e w' => ∃ v zs, e = .returned (.tuple #[v, .int .i64 0]) ∧ GotG .u64 18446744073709551616 52 w' w.heap.size v zs ∧ Tr zs ∧ val 18446744073709551616 zs = val 18446744073709551616 xs + val 18446744073709551616 ys ∧ Below w.heap.size w w' := by
  have d1 := hide h1.hdg
  have d2 := hide h2.hdg
  obtain ⟨X, hX⟩ : ∃ X, trm xs = X := ⟨_, rfl⟩
  obtain ⟨Y, hY⟩ : ∃ Y, trm ys = Y := ⟨_, rfl⟩
  have vX := hide (show val 18446744073709551616 X = val 18446744073709551616 xs by rw [← hX]; exact trm_val _ _)
  have vY := hide (show val 18446744073709551616 Y = val 18446744073709551616 ys by rw [← hY]; exact trm_val _ _)
  have tX := hide (show Tr X by rw [← hX]; exact trm_tr _)
  have tY := hide (show Tr Y by rw [← hY]; exact trm_tr _)
  have s1 := h1.trm
  have s2 := h2.trm
  have ct1 := hide (trim_any a1 n1 c1 xs w h1)
  have ct2 := hide (trim_any a2 n2 c2 ys w h2)
  rw [hX] at s1 ct1 l1
  rw [hY] at s2 ct2 l2
  clear hX hY
  obtain ⟨m1, hm1⟩ : ∃ m, X.length = m := ⟨_, rfl⟩
  obtain ⟨m2, hm2⟩ : ∃ m, Y.length = m := ⟨_, rfl⟩
  rw [hm1] at s1 ct1 l1
  rw [hm2] at s2 ct2 l2
  have M1 := hide hm1
  have M2 := hide hm2
  clear hm1 hm2
  obtain ⟨M, hM⟩ : ∃ M : Nat, max m1 m2 = M := ⟨_, rfl⟩
  have hMI : max (m1 : Int) (m2 : Int) = (M : Int) := by omega
  have hM64 : M ≤ 64 := by omega
  have hm1M : m1 ≤ M := by omega
  have hm2M : m2 ≤ M := by omega
  clear hM
  have hmk := makeU (M + 1) ((M : Int) + 1) (by omega) (by omega)
  obtain ⟨w2, hcp, hR2, hB2⟩ := copyU (w.alloc (.cells (madeCells #[.int .u64 0] (M + 1)) 52)) w.heap.size (M + 1) m1 m1 a1 X (RowG.made (M + 1) _ _ (by decide) rfl rfl) (s1.alloc _) (by omega) w.heap.size w ((Below.refl _ _).alloc (Nat.le_refl _) _) (Nat.le_refl _)
  go_enter Try.func57, Try.ntmps57
  go_wp2_with fail
  refine ct1.out.mono ?_
  rintro e w1 ⟨rfl, _, hw⟩
  have hw2 := hw.symm
  subst hw2
  clear hw
  go_wp2_with fail
  refine ct2.out.mono ?_
  rintro e w1 ⟨rfl, _, hw⟩
  have hw2 := hw.symm
  subst hw2
  clear hw
  go_wp2_with fail
  refine (tooLong_any _ _ _ _ (by omega)).mono ?_
  rintro e w1 ⟨rfl, hw⟩
  have hw2 := hw.symm
  subst hw2
  clear hw
  rw [show decide (64 < m1) = false by simpa using l1]
  go_wp2_with fail
  refine (tooLong_any _ _ _ _ (by omega)).mono ?_
  rintro e w1 ⟨rfl, hw⟩
  have hw2 := hw.symm
  subst hw2
  clear hw
  rw [show decide (64 < m2) = false by simpa using l2]
  go_wp2_with fail
  refine (addTimes_any w.heap.size 0 (M + 1) (M + 1) _ a2 m2 m2 Y 1 _ hR2 (by simp [M1.out]; omega) (by simp [M1.out]; omega) (s2.below hB2) (s2.away (Nat.le_refl _)) (by omega) (by omega)).mono ?_
  rintro e w3 ⟨Z, k, rfl, hk0, hk1, hZl, hR3, _, hv, hg3, hs3⟩
  have hZl2 : Z.length = M + 1 := by rw [hZl]; simp [M1.out]; omega
  have HV : Hid (val 18446744073709551616 Z = val 18446744073709551616 xs + val 18446744073709551616 ys) := by
    unfold Hid
    have hd1 := val_lt (b := 18446744073709551616) (by decide) s1.hdg
    have hd2 := val_lt (b := 18446744073709551616) (by decide) s2.hdg
    rw [M1.out] at hd1
    rw [M2.out] at hd2
    have q1 := pw_mono (b := 18446744073709551616) (by decide) m1 M hm1M
    have q2 := pw_mono (b := 18446744073709551616) (by decide) m2 M hm2M
    have q3 := pw_pos (b := 18446744073709551616) (by decide) M
    have q4 := val_nonneg (b := 18446744073709551616) (by decide) hR3.2
    rw [val_pad, List.take_of_length_le (by rw [M2.out]; omega), Nat.zero_add, pw, pw] at hv
    have hk := no_carry _ _ _ _ (by omega) q4 hk0 hv (by omega)
    subst hk
    rw [← vX.out, ← vY.out]
    omega
  clear hv hZl
  have tz := trim_any (some ⟨w.heap.size, 0, none⟩) (M + 1) (M + 1) Z w3 (by have := hR3.srcAll (by rw [hZl2]; unfold maxLen; omega); rwa [hZl2] at this)
  have TZ := hide tz
  clear tz
  go_wp2_with fail
  refine TZ.out.mono ?_
  rintro e w4 ⟨rfl, _, hw⟩
  have hw2 := hw.symm
  subst hw2
  clear hw
  go_wp2
  go_ret2
  refine ⟨_, trm Z, rfl, hR3.got (Nat.le_refl _) (by omega), trm_tr _, by rw [trm_val]; exact HV.out, hB2.grown hg3 hB2.size (by intro k hk; cases hk; exact Nat.le_refl _)⟩

end Go.Proofs.Ytobdpcmafjhnlaa
