/-
  nat.size, nat.Bits, nat.Bit, nat.Bytes.
-/
import Derived.Test.YtobdpcmafjhnlaaNDig
import Derived.Laws.Bits64b
namespace Go.Proofs.Ytobdpcmafjhnlaa
open Go.RowKit Go.IntWalk

set_option maxRecDepth 100000 in
theorem size_any (ao : Option Addr) (n c : Nat) (X : List Int) (w : World) (hs : SrcG .u64 18446744073709551616 w ao n c X) (ht : Tr X) (hn : n ≤ 64) :
    Calls Try.prog 71 #[.slice ao n c] w fun e w' => ∃ S : Nat, e = .returned (.int .i64 S) ∧ BL (val 18446744073709551616 X) S ∧ S ≤ 64 * n ∧ w' = w := by
  have hl := hs.hlen
  have hd := hs.hdg
  rcases Nat.eq_zero_or_pos n with h0 | h0
  · subst h0
    obtain rfl : X = [] := List.eq_nil_of_length_eq_zero hl
    go_enter Try.func71, Try.ntmps71
    go_wp2
    go_ret
    exact ⟨0, rfl, .inl ⟨rfl, rfl⟩, by omega, rfl⟩
  · obtain ⟨m, hm⟩ : ∃ m, n = m + 1 := ⟨n - 1, by omega⟩
    have hb := hd.at (by decide : (0 : Int) < 18446744073709551616) m
    have hne : X.getD m 0 ≠ 0 := by
      have := ht (by intro h; rw [h] at hl; simp at hl; omega)
      rwa [hl, hm, Nat.add_sub_cancel] at this
    obtain ⟨L, e0, e1, e2, e3, e4⟩ := bitLen_pw (X.getD m 0) (by omega) hb.2
    have HB := hide (bl_of_top m hd (by omega) L e1 e3 e4)
    have cl : ∀ W : World, Calls Try.prog 72 #[.int .u64 (X.getD m 0)] W fun e w' => e = .returned (.int .i64 (L : Int)) ∧ w' = W := by
      intro W
      have := Try.bits_Len64 (X.getD m 0) W (by omega) (by omega)
      rwa [e0] at this
    obtain ⟨b, o, rfl, ec⟩ := hs.at m (by omega)
    generalize X.getD m 0 = x at ec cl
    have CL := hide cl
    have hsub : (n : Int) - 1 = (m : Int) := by omega
    have hmn : (m : Int) < (n : Int) := by omega
    have hnz : ¬ (n : Int) = 0 := by omega
    have w1 : IntKind.i64.wrap (64 * (m : Int)) = 64 * (m : Int) := i64_in _ (by omega)
    have w2 : IntKind.i64.wrap (64 * (m : Int) + (L : Int)) = 64 * (m : Int) + (L : Int) := i64_in _ (by omega)
    have HS : Hid (64 * m + L ≤ 64 * n) := by unfold Hid; omega
    have mb : (m : Int) ≤ 63 := by omega
    have nb : (n : Int) ≤ 64 := by omega
    have lb : (L : Int) ≤ 64 := by omega
    clear cl e0 e1 e2 e3 e4 hb hne hl hd ht hm hs hn h0
    go_enter Try.func71, Try.ntmps71
    go_wp2_with fail
    refine (CL.out _).mono ?_
    rintro e w1 ⟨rfl, hw⟩
    have hw2 := hw.symm
    subst hw2
    clear hw
    go_wp2
    go_ret
    exact ⟨64 * m + L, by simp, HB.out, HS.out, rfl⟩


set_option maxRecDepth 100000 in
theorem bits_long (a1 : Option Addr) (n1 c1 : Nat) (xs : List Int) (w : World) (h1 : SrcG .u64 18446744073709551616 w a1 n1 c1 xs) (l1 : 64 < (trm xs).length) :
    Calls Try.prog 63 #[.slice a1 n1 c1] w fun e w' => e = .returned (.tuple #[.int .i64 0, .int .i64 3]) ∧ w' = w := by
  have d1 := hide h1.hdg
  obtain ⟨X, hX⟩ : ∃ X, trm xs = X := ⟨_, rfl⟩
  have vX := hide (show val 18446744073709551616 X = val 18446744073709551616 xs by rw [← hX]; exact trm_val _ _)
  have tX := hide (show Tr X by rw [← hX]; exact trm_tr _)
  have s1 := h1.trm
  have ct1 := hide (trim_any a1 n1 c1 xs w h1)
  rw [hX] at s1 ct1 l1
  clear hX
  obtain ⟨m1, hm1⟩ : ∃ m, X.length = m := ⟨_, rfl⟩
  rw [hm1] at s1 ct1 l1
  have M1 := hide hm1
  clear hm1
  have i1 := s1.lenI.1
  go_enter Try.func63, Try.ntmps63
  go_wp2_with fail
  refine ct1.out.mono ?_
  rintro e w1 ⟨rfl, _, hw⟩
  have hw2 := hw.symm
  subst hw2
  clear hw
  go_wp2_with fail
  refine (tooLong_any _ _ _ _ (by omega)).mono ?_
  rintro e w1 ⟨rfl, hw⟩
  have hw2 := hw.symm
  subst hw2
  clear hw
  rw [show decide (64 < m1) = true by first | exact decide_eq_true (by omega) | exact decide_eq_false (by omega)]
  go_wp2
  go_ret2
  exact ⟨rfl, rfl⟩

set_option maxRecDepth 100000 in
theorem bits_ok (a1 : Option Addr) (n1 c1 : Nat) (xs : List Int) (w : World) (h1 : SrcG .u64 18446744073709551616 w a1 n1 c1 xs) (l1 : (trm xs).length ≤ 64) :
    Calls Try.prog 63 #[.slice a1 n1 c1] w fun e w' => ∃ S : Nat, e = .returned (.tuple #[.int .i64 S, .int .i64 0]) ∧ BL (val 18446744073709551616 xs) S ∧ S ≤ 4096 ∧ w' = w := by
  have d1 := hide h1.hdg
  obtain ⟨X, hX⟩ : ∃ X, trm xs = X := ⟨_, rfl⟩
  have vX := hide (show val 18446744073709551616 X = val 18446744073709551616 xs by rw [← hX]; exact trm_val _ _)
  have tX := hide (show Tr X by rw [← hX]; exact trm_tr _)
  have s1 := h1.trm
  have ct1 := hide (trim_any a1 n1 c1 xs w h1)
  rw [hX] at s1 ct1 l1
  clear hX
  obtain ⟨m1, hm1⟩ : ∃ m, X.length = m := ⟨_, rfl⟩
  rw [hm1] at s1 ct1 l1
  have M1 := hide hm1
  clear hm1
  have cs := hide (size_any _ _ _ X _ s1 tX.out l1)
  go_enter Try.func63, Try.ntmps63
  go_wp2_with fail
  refine ct1.out.mono ?_
  rintro e w1 ⟨rfl, _, hw⟩
  have hw2 := hw.symm
  subst hw2
  clear hw
  go_wp2_with fail
  refine (tooLong_any _ _ _ _ (by omega)).mono ?_
  rintro e w1 ⟨rfl, hw⟩
  have hw2 := hw.symm
  subst hw2
  clear hw
  rw [show decide (64 < m1) = false by first | exact decide_eq_true (by omega) | exact decide_eq_false (by omega)]
  go_wp2_with fail
  refine cs.out.mono ?_
  rintro e w1 ⟨S, rfl, hB, hS, hw⟩
  have hw2 := hw.symm
  subst hw2
  clear hw
  rw [vX.out] at hB
  have HB := hide hB
  have HS : Hid (S ≤ 4096) := by unfold Hid; omega
  clear hB hS
  go_wp2
  go_ret2
  exact ⟨S, rfl, HB.out, HS.out, rfl⟩

theorem and1 (a : Int) (h0 : 0 ≤ a) (h1 : a < 18446744073709551616) : bits .and .u64 a 1 = a % 2 := by
  obtain ⟨A, rfl⟩ := Int.eq_ofNat_of_zero_le h0
  have h := bits_and_u64_nat A 1 (by omega) (by omega)
  have e : A &&& 1 = A % 2 := Nat.and_two_pow_sub_one_eq_mod A 1
  rw [e] at h
  rw [show ((1 : Nat) : Int) = 1 from rfl] at h
  rw [h]
  omega

set_option maxRecDepth 100000 in
theorem bit_any (ao : Option Addr) (n c : Nat) (X : List Int) (i : Nat) (I : Int) (hI : I = (i : Int)) (w : World) (hs : SrcG .u64 18446744073709551616 w ao n c X) (hi : (i : Int) ≤ 9223372036854775807) :
    Calls Try.prog 52 #[.slice ao n c, .int .i64 I] w fun e w' => e = .returned (.int .u64 (val 18446744073709551616 X / pw 2 i % 2)) ∧ w' = w := by
  subst hI
  have hl := hs.hlen
  have hq := dig_at 2 (by decide) 64 (by decide) hs.hdg (i / 64) (i % 64) (by omega)
  rw [← pw_64, ← pw_add, show 64 * (i / 64) + i % 64 = i by omega] at hq
  rw [hq]
  clear hq
  obtain ⟨q, hqe⟩ : ∃ q, i / 64 = q := ⟨_, rfl⟩
  obtain ⟨t, hte⟩ : ∃ t, i % 64 = t := ⟨_, rfl⟩
  have td : Int.tdiv (i : Int) 64 = (q : Int) := by rw [Int.tdiv_eq_ediv_of_nonneg (by omega)]; omega
  have tm : Int.tmod (i : Int) 64 = (t : Int) := by rw [Int.tmod_eq_emod_of_nonneg (by omega)]; omega
  rw [hqe, hte]
  have hm := hs.lenI
  have hqb : (q : Int) ≤ 9223372036854775807 := by omega
  have hmb := hm.1
  by_cases hq : q < n
  · obtain ⟨b, o, rfl, e1⟩ := hs.at q hq
    have hqI : ¬ (n : Int) ≤ (q : Int) := by omega
    have hqJ : (q : Int) < (n : Int) := by omega
    have hx := hs.hdg.at (by decide : (0 : Int) < 18446744073709551616) q
    have hp := pw_pos (b := 2) (by decide) t
    generalize X.getD q 0 = x at e1 hx
    have y0 : 0 ≤ x / pw 2 t := Int.ediv_nonneg hx.1 (by omega)
    have y1 : x / pw 2 t < 18446744073709551616 := by have := Int.ediv_le_self (pw 2 t) hx.1; omega
    have ha := and1 _ y0 y1
    obtain ⟨T, hT⟩ : ∃ T : Int, (t : Int) = T := ⟨_, rfl⟩
    have hsh : x / 2 ^ T.toNat = x / pw 2 t := by rw [pw_eq, ← hT, Int.toNat_natCast]
    have t0 : 0 ≤ T := by omega
    have t1 : T ≤ 63 := by omega
    rw [hT] at tm
    obtain ⟨y, hy⟩ : ∃ y, x / pw 2 t = y := ⟨_, rfl⟩
    rw [hy] at ha hsh ⊢
    clear hqe hte hT hl hm hx hp y0 y1 hy hs
    go_enter Try.func52, Try.ntmps52
    go_wp2
    go_ret
    exact ⟨rfl, rfl⟩
  · have hqI : (n : Int) ≤ (q : Int) := by omega
    have hz : X.getD q 0 = 0 := by rw [List.getD, List.getElem?_eq_none (by omega)]; rfl
    rw [hz, Int.zero_ediv]
    clear hqe hte hl hm hz hs tm
    go_enter Try.func52, Try.ntmps52
    go_wp2
    go_ret
    exact ⟨rfl, rfl⟩

end Go.Proofs.Ytobdpcmafjhnlaa
