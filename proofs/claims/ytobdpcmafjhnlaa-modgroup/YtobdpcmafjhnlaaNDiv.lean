/-
  nat.Div: the quotient and the rest of numbers that may be, or why there is none.
-/
import Derived.Test.YtobdpcmafjhnlaaNDivide
import Derived.OwnWalk
namespace Go.Proofs.Ytobdpcmafjhnlaa
open Go.RowKit Go.IntWalk

set_option maxRecDepth 100000 in
set_option maxHeartbeats 1000000 in
theorem div_long (a1 : Option Addr) (n1 c1 : Nat) (xs : List Int) (a2 : Option Addr) (n2 c2 : Nat) (ys : List Int) (w : World) (h1 : SrcG .u64 18446744073709551616 w a1 n1 c1 xs) (h2 : SrcG .u64 18446744073709551616 w a2 n2 c2 ys) (hL : 64 < (trm xs).length ∨ 64 < (trm ys).length) :
    Calls Try.prog 37 #[.slice a1 n1 c1, .slice a2 n2 c2] w fun e w' => e = .returned (.tuple #[.slice none 0 0, .slice none 0 0, .int .i64 3]) ∧ w' = w := by
  by_cases l1 : 64 < (trm xs).length
  · have l2 : (trm ys).length = (trm ys).length := rfl
    have d1 := hide h1.hdg
    have d2 := hide h2.hdg
    obtain ⟨X, hX⟩ : ∃ X, trm xs = X := ⟨_, rfl⟩
    obtain ⟨Y, hY⟩ : ∃ Y, trm ys = Y := ⟨_, rfl⟩
    have vX := hide (show val 18446744073709551616 X = val 18446744073709551616 xs by rw [← hX]; exact trm_val _ _)
    have vY := hide (show val 18446744073709551616 Y = val 18446744073709551616 ys by rw [← hY]; exact trm_val _ _)
    have tX := hide (show Tr X by rw [← hX]; exact trm_tr _)
    have tY := hide (show Tr Y by rw [← hY]; exact trm_tr _)
    have s1 := h1.trm
    have s2 := h2.trm
    have ct1 := hide (trim_any a1 n1 c1 xs w h1)
    have ct2 := hide (trim_any a2 n2 c2 ys w h2)
    rw [hX] at s1 ct1 l1
    rw [hY] at s2 ct2 l2
    clear hX hY
    obtain ⟨m1, hm1⟩ : ∃ m, X.length = m := ⟨_, rfl⟩
    obtain ⟨m2, hm2⟩ : ∃ m, Y.length = m := ⟨_, rfl⟩
    rw [hm1] at s1 ct1 l1
    rw [hm2] at s2 ct2 l2
    have M1 := hide hm1
    have M2 := hide hm2
    clear hm1 hm2
    have i1 := s1.lenI.1
    go_enter Try.func37, Try.ntmps37
    go_wp2_with fail
    refine ct1.out.mono ?_
    rintro e w1 ⟨rfl, _, hw⟩
    have hw2 := hw.symm
    subst hw2
    clear hw
    go_wp2_with fail
    refine ct2.out.mono ?_
    rintro e w1 ⟨rfl, _, hw⟩
    have hw2 := hw.symm
    subst hw2
    clear hw
    go_wp2_with fail
    refine (tooLong_any _ _ _ _ (by omega)).mono ?_
    rintro e w1 ⟨rfl, hw⟩
    have hw2 := hw.symm
    subst hw2
    clear hw
    rw [show decide (64 < m1) = true by first | exact decide_eq_true (by omega) | exact decide_eq_false (by omega)]
    go_wp2
    go_ret3
    exact ⟨rfl, rfl⟩
  · have l2 : 64 < (trm ys).length := by omega
    clear hL
    have d1 := hide h1.hdg
    have d2 := hide h2.hdg
    obtain ⟨X, hX⟩ : ∃ X, trm xs = X := ⟨_, rfl⟩
    obtain ⟨Y, hY⟩ : ∃ Y, trm ys = Y := ⟨_, rfl⟩
    have vX := hide (show val 18446744073709551616 X = val 18446744073709551616 xs by rw [← hX]; exact trm_val _ _)
    have vY := hide (show val 18446744073709551616 Y = val 18446744073709551616 ys by rw [← hY]; exact trm_val _ _)
    have tX := hide (show Tr X by rw [← hX]; exact trm_tr _)
    have tY := hide (show Tr Y by rw [← hY]; exact trm_tr _)
    have s1 := h1.trm
    have s2 := h2.trm
    have ct1 := hide (trim_any a1 n1 c1 xs w h1)
    have ct2 := hide (trim_any a2 n2 c2 ys w h2)
    rw [hX] at s1 ct1 l1
    rw [hY] at s2 ct2 l2
    clear hX hY
    obtain ⟨m1, hm1⟩ : ∃ m, X.length = m := ⟨_, rfl⟩
    obtain ⟨m2, hm2⟩ : ∃ m, Y.length = m := ⟨_, rfl⟩
    rw [hm1] at s1 ct1 l1
    rw [hm2] at s2 ct2 l2
    have M1 := hide hm1
    have M2 := hide hm2
    clear hm1 hm2
    have i2 := s2.lenI.1
    go_enter Try.func37, Try.ntmps37
    go_wp2_with fail
    refine ct1.out.mono ?_
    rintro e w1 ⟨rfl, _, hw⟩
    have hw2 := hw.symm
    subst hw2
    clear hw
    go_wp2_with fail
    refine ct2.out.mono ?_
    rintro e w1 ⟨rfl, _, hw⟩
    have hw2 := hw.symm
    subst hw2
    clear hw
    go_wp2_with fail
    refine (tooLong_any _ _ _ _ (by omega)).mono ?_
    rintro e w1 ⟨rfl, hw⟩
    have hw2 := hw.symm
    subst hw2
    clear hw
    rw [show decide (64 < m1) = false by first | exact decide_eq_true (by omega) | exact decide_eq_false (by omega)]
    go_wp2_with fail
    refine (tooLong_any _ _ _ _ (by omega)).mono ?_
    rintro e w1 ⟨rfl, hw⟩
    have hw2 := hw.symm
    subst hw2
    clear hw
    rw [show decide (64 < m2) = true by first | exact decide_eq_true (by omega) | exact decide_eq_false (by omega)]
    go_wp2
    go_ret3
    exact ⟨rfl, rfl⟩

set_option maxRecDepth 100000 in
set_option maxHeartbeats 1000000 in
theorem div_zero (a1 : Option Addr) (n1 c1 : Nat) (xs : List Int) (a2 : Option Addr) (n2 c2 : Nat) (ys : List Int) (w : World) (h1 : SrcG .u64 18446744073709551616 w a1 n1 c1 xs) (h2 : SrcG .u64 18446744073709551616 w a2 n2 c2 ys) (l1 : (trm xs).length ≤ 64) (hz : val 18446744073709551616 ys = 0) :
    Calls Try.prog 37 #[.slice a1 n1 c1, .slice a2 n2 c2] w fun e w' => e = .returned (.tuple #[.slice none 0 0, .slice none 0 0, .int .i64 60]) ∧ w' = w := by
  have hy : trm ys = [] := (trm_of (b := 18446744073709551616) (by decide) h2.hdg (ys := []) (by intro x hx; simp at hx) (fun h => absurd rfl h) (by rw [hz]; rfl)).symm
  have l2 : (trm ys).length = 0 := by rw [hy]; rfl
  clear hy
  have d1 := hide h1.hdg
  have d2 := hide h2.hdg
  obtain ⟨X, hX⟩ : ∃ X, trm xs = X := ⟨_, rfl⟩
  obtain ⟨Y, hY⟩ : ∃ Y, trm ys = Y := ⟨_, rfl⟩
  have vX := hide (show val 18446744073709551616 X = val 18446744073709551616 xs by rw [← hX]; exact trm_val _ _)
  have vY := hide (show val 18446744073709551616 Y = val 18446744073709551616 ys by rw [← hY]; exact trm_val _ _)
  have tX := hide (show Tr X by rw [← hX]; exact trm_tr _)
  have tY := hide (show Tr Y by rw [← hY]; exact trm_tr _)
  have s1 := h1.trm
  have s2 := h2.trm
  have ct1 := hide (trim_any a1 n1 c1 xs w h1)
  have ct2 := hide (trim_any a2 n2 c2 ys w h2)
  rw [hX] at s1 ct1 l1
  rw [hY] at s2 ct2 l2
  clear hX hY
  obtain ⟨m1, hm1⟩ : ∃ m, X.length = m := ⟨_, rfl⟩
  obtain ⟨m2, hm2⟩ : ∃ m, Y.length = m := ⟨_, rfl⟩
  rw [hm1] at s1 ct1 l1
  rw [hm2] at s2 ct2 l2
  have M1 := hide hm1
  have M2 := hide hm2
  clear hm1 hm2
  subst l2
  have l2 : 0 ≤ 64 := by omega
  go_enter Try.func37, Try.ntmps37
  go_wp2_with fail
  refine ct1.out.mono ?_
  rintro e w1 ⟨rfl, _, hw⟩
  have hw2 := hw.symm
  subst hw2
  clear hw
  go_wp2_with fail
  refine ct2.out.mono ?_
  rintro e w1 ⟨rfl, _, hw⟩
  have hw2 := hw.symm
  subst hw2
  clear hw
  go_wp2_with fail
  refine (tooLong_any _ _ _ _ (by omega)).mono ?_
  rintro e w1 ⟨rfl, hw⟩
  have hw2 := hw.symm
  subst hw2
  clear hw
  rw [show decide (64 < m1) = false by first | exact decide_eq_true (by omega) | exact decide_eq_false (by omega)]
  go_wp2_with fail
  refine (tooLong_any _ _ _ _ (by omega)).mono ?_
  rintro e w1 ⟨rfl, hw⟩
  have hw2 := hw.symm
  subst hw2
  clear hw
  rw [show decide (64 < 0) = false by first | exact decide_eq_true (by omega) | exact decide_eq_false (by omega)]
  go_wp2
  go_ret3
  exact ⟨rfl, rfl⟩

set_option maxRecDepth 100000 in
set_option maxHeartbeats 1000000 in
theorem div_ok (a1 : Option Addr) (n1 c1 : Nat) (xs : List Int) (a2 : Option Addr) (n2 c2 : Nat) (ys : List Int) (w : World) (h1 : SrcG .u64 18446744073709551616 w a1 n1 c1 xs) (h2 : SrcG .u64 18446744073709551616 w a2 n2 c2 ys) (l1 : (trm xs).length ≤ 64) (l2 : (trm ys).length ≤ 64) (hz : val 18446744073709551616 ys ≠ 0) :
    Calls Try.prog 37 #[.slice a1 n1 c1, .slice a2 n2 c2] w fun e w' => ∃ v1 v2 q r, e = .returned (.tuple #[v1, v2, .int .i64 0]) ∧ GotG .u64 18446744073709551616 52 w' w.heap.size v1 q ∧ GotG .u64 18446744073709551616 52 w' w.heap.size v2 r ∧ v1.ownBlock ≠ v2.ownBlock ∧ Tr q ∧ Tr r ∧
      val 18446744073709551616 xs = val 18446744073709551616 ys * val 18446744073709551616 q + val 18446744073709551616 r ∧ val 18446744073709551616 r < val 18446744073709551616 ys ∧ Below w.heap.size w w' := by
  have d1 := hide h1.hdg
  have d2 := hide h2.hdg
  obtain ⟨X, hX⟩ : ∃ X, trm xs = X := ⟨_, rfl⟩
  obtain ⟨Y, hY⟩ : ∃ Y, trm ys = Y := ⟨_, rfl⟩
  have vX := hide (show val 18446744073709551616 X = val 18446744073709551616 xs by rw [← hX]; exact trm_val _ _)
  have vY := hide (show val 18446744073709551616 Y = val 18446744073709551616 ys by rw [← hY]; exact trm_val _ _)
  have tX := hide (show Tr X by rw [← hX]; exact trm_tr _)
  have tY := hide (show Tr Y by rw [← hY]; exact trm_tr _)
  have s1 := h1.trm
  have s2 := h2.trm
  have ct1 := hide (trim_any a1 n1 c1 xs w h1)
  have ct2 := hide (trim_any a2 n2 c2 ys w h2)
  rw [hX] at s1 ct1 l1
  rw [hY] at s2 ct2 l2
  clear hX hY
  obtain ⟨m1, hm1⟩ : ∃ m, X.length = m := ⟨_, rfl⟩
  obtain ⟨m2, hm2⟩ : ∃ m, Y.length = m := ⟨_, rfl⟩
  rw [hm1] at s1 ct1 l1
  rw [hm2] at s2 ct2 l2
  have M1 := hide hm1
  have M2 := hide hm2
  clear hm1 hm2
  obtain ⟨m, hm⟩ : ∃ m, m2 = m + 1 := by
    refine ⟨m2 - 1, ?_⟩
    have : m2 ≠ 0 := by
      intro h
      have e : Y = [] := List.eq_nil_of_length_eq_zero (by rw [M2.out, h])
      have := vY.out
      rw [e] at this
      exact hz this.symm
    omega
  have cd := divide_any a1 m1 X a2 m2 m hm Y w s1 s2 tY.out l1 l2
  rw [vX.out, vY.out] at cd
  have CD := hide cd
  have hmI : ¬ (m2 : Int) = 0 := by omega
  clear cd hm
  go_enter Try.func37, Try.ntmps37
  go_wp2_with fail
  refine ct1.out.mono ?_
  rintro e w1 ⟨rfl, _, hw⟩
  have hw2 := hw.symm
  subst hw2
  clear hw
  go_wp2_with fail
  refine ct2.out.mono ?_
  rintro e w1 ⟨rfl, _, hw⟩
  have hw2 := hw.symm
  subst hw2
  clear hw
  go_wp2_with fail
  refine (tooLong_any _ _ _ _ (by omega)).mono ?_
  rintro e w1 ⟨rfl, hw⟩
  have hw2 := hw.symm
  subst hw2
  clear hw
  rw [show decide (64 < m1) = false by first | exact decide_eq_true (by omega) | exact decide_eq_false (by omega)]
  go_wp2_with fail
  refine (tooLong_any _ _ _ _ (by omega)).mono ?_
  rintro e w1 ⟨rfl, hw⟩
  have hw2 := hw.symm
  subst hw2
  clear hw
  rw [show decide (64 < m2) = false by first | exact decide_eq_true (by omega) | exact decide_eq_false (by omega)]
  go_wp2_with fail
  refine CD.out.mono ?_
  rintro e w5 ⟨N, g1, g3, Q, R, rfl, k1, k2, k3, k4, k5, k6, k7, k8, k9, kB⟩
  have t1 := trim_any (some ⟨g3, 0, none⟩) N N Q w5 (by have := k6.srcAll (by rw [k3]; unfold maxLen; omega); rwa [k3] at this)
  have t2 := trim_any (some ⟨g1, 0, none⟩) (m1 + 1) (m1 + 1) R w5 (by have := k7.srcAll (by rw [k4]; unfold maxLen; omega); rwa [k4] at this)
  have gq := k6.got (base := w.heap.size) (by omega) (by omega)
  have gr := k7.got (base := w.heap.size) (by omega) (by omega)
  have hne : ¬ g3 = g1 := by omega
  have T1 := hide t1
  have T2 := hide t2
  have K8 := hide k8
  have K9 := hide k9
  have GQ := hide gq
  have GR := hide gr
  clear t1 t2 gq gr k1 k2 k3 k4 k5 k6 k7 k8 k9
  go_wp2_with fail
  refine T1.out.mono ?_
  rintro e w6 ⟨rfl, _, hw⟩
  have hw2 := hw.symm
  subst hw2
  clear hw
  go_wp2_with fail
  refine T2.out.mono ?_
  rintro e w6 ⟨rfl, _, hw⟩
  have hw2 := hw.symm
  subst hw2
  clear hw
  go_wp2
  go_ret3
  refine ⟨_, _, trm Q, trm R, rfl, GQ.out, GR.out, by simpa [Value.ownBlock] using hne, trm_tr _, trm_tr _, ?_, ?_, kB⟩
  · rw [trm_val, trm_val]; exact K8.out
  · rw [trm_val]; exact K9.out

end Go.Proofs.Ytobdpcmafjhnlaa
