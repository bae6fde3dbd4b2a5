/-
  num.areBits and the reference's there say the same of any bytes and any number (bitsB).
-/
import Derived.Test.YtmkfdfjpfinbpaaBare
namespace Go.Proofs.Ytmkfdfjpfinbpaa
open Go.RowKit Go.IntWalk

/-- Is there a BIT STRING of these bytes with so many unused bits? -/
def bitsB (xs : List Int) (u : Int) : Bool :=
  decide (0 ≤ u) && decide (u ≤ 7) && (if xs = [] then decide (u = 0) else decide (xs.getD (xs.length - 1) 0 % ((2 ^ u.toNat : Nat) : Int) = 0))

theorem mask0 (x : Int) : bits .and .u8 x 0 = x % 1 := by
  have hm : (BitVec.ofInt 8 0).toNat = 2 ^ 0 - 1 := by decide
  have key : (BitVec.ofInt 8 x &&& BitVec.ofInt 8 0).toNat = (x % ((2 ^ 8 : Nat) : Int)).toNat % 2 ^ 0 := by
    rw [BitVec.toNat_and, BitVec.toNat_ofInt, hm, Nat.and_two_pow_sub_one_eq_mod]
  show IntKind.u8.wrap ((BitVec.ofInt 8 x &&& BitVec.ofInt 8 0).toNat : Nat) = x % 1
  rw [key, IntKind.wrap_u8]
  omega
theorem mask1 (x : Int) : bits .and .u8 x 1 = x % 2 := by
  have hm : (BitVec.ofInt 8 1).toNat = 2 ^ 1 - 1 := by decide
  have key : (BitVec.ofInt 8 x &&& BitVec.ofInt 8 1).toNat = (x % ((2 ^ 8 : Nat) : Int)).toNat % 2 ^ 1 := by
    rw [BitVec.toNat_and, BitVec.toNat_ofInt, hm, Nat.and_two_pow_sub_one_eq_mod]
  show IntKind.u8.wrap ((BitVec.ofInt 8 x &&& BitVec.ofInt 8 1).toNat : Nat) = x % 2
  rw [key, IntKind.wrap_u8]
  omega
theorem mask2 (x : Int) : bits .and .u8 x 3 = x % 4 := by
  have hm : (BitVec.ofInt 8 3).toNat = 2 ^ 2 - 1 := by decide
  have key : (BitVec.ofInt 8 x &&& BitVec.ofInt 8 3).toNat = (x % ((2 ^ 8 : Nat) : Int)).toNat % 2 ^ 2 := by
    rw [BitVec.toNat_and, BitVec.toNat_ofInt, hm, Nat.and_two_pow_sub_one_eq_mod]
  show IntKind.u8.wrap ((BitVec.ofInt 8 x &&& BitVec.ofInt 8 3).toNat : Nat) = x % 4
  rw [key, IntKind.wrap_u8]
  omega
theorem mask3 (x : Int) : bits .and .u8 x 7 = x % 8 := by
  have hm : (BitVec.ofInt 8 7).toNat = 2 ^ 3 - 1 := by decide
  have key : (BitVec.ofInt 8 x &&& BitVec.ofInt 8 7).toNat = (x % ((2 ^ 8 : Nat) : Int)).toNat % 2 ^ 3 := by
    rw [BitVec.toNat_and, BitVec.toNat_ofInt, hm, Nat.and_two_pow_sub_one_eq_mod]
  show IntKind.u8.wrap ((BitVec.ofInt 8 x &&& BitVec.ofInt 8 7).toNat : Nat) = x % 8
  rw [key, IntKind.wrap_u8]
  omega
theorem mask4 (x : Int) : bits .and .u8 x 15 = x % 16 := by
  have hm : (BitVec.ofInt 8 15).toNat = 2 ^ 4 - 1 := by decide
  have key : (BitVec.ofInt 8 x &&& BitVec.ofInt 8 15).toNat = (x % ((2 ^ 8 : Nat) : Int)).toNat % 2 ^ 4 := by
    rw [BitVec.toNat_and, BitVec.toNat_ofInt, hm, Nat.and_two_pow_sub_one_eq_mod]
  show IntKind.u8.wrap ((BitVec.ofInt 8 x &&& BitVec.ofInt 8 15).toNat : Nat) = x % 16
  rw [key, IntKind.wrap_u8]
  omega
theorem mask5 (x : Int) : bits .and .u8 x 31 = x % 32 := by
  have hm : (BitVec.ofInt 8 31).toNat = 2 ^ 5 - 1 := by decide
  have key : (BitVec.ofInt 8 x &&& BitVec.ofInt 8 31).toNat = (x % ((2 ^ 8 : Nat) : Int)).toNat % 2 ^ 5 := by
    rw [BitVec.toNat_and, BitVec.toNat_ofInt, hm, Nat.and_two_pow_sub_one_eq_mod]
  show IntKind.u8.wrap ((BitVec.ofInt 8 x &&& BitVec.ofInt 8 31).toNat : Nat) = x % 32
  rw [key, IntKind.wrap_u8]
  omega
theorem mask6 (x : Int) : bits .and .u8 x 63 = x % 64 := by
  have hm : (BitVec.ofInt 8 63).toNat = 2 ^ 6 - 1 := by decide
  have key : (BitVec.ofInt 8 x &&& BitVec.ofInt 8 63).toNat = (x % ((2 ^ 8 : Nat) : Int)).toNat % 2 ^ 6 := by
    rw [BitVec.toNat_and, BitVec.toNat_ofInt, hm, Nat.and_two_pow_sub_one_eq_mod]
  show IntKind.u8.wrap ((BitVec.ofInt 8 x &&& BitVec.ofInt 8 63).toNat : Nat) = x % 64
  rw [key, IntKind.wrap_u8]
  omega
theorem mask7 (x : Int) : bits .and .u8 x 127 = x % 128 := by
  have hm : (BitVec.ofInt 8 127).toNat = 2 ^ 7 - 1 := by decide
  have key : (BitVec.ofInt 8 x &&& BitVec.ofInt 8 127).toNat = (x % ((2 ^ 8 : Nat) : Int)).toNat % 2 ^ 7 := by
    rw [BitVec.toNat_and, BitVec.toNat_ofInt, hm, Nat.and_two_pow_sub_one_eq_mod]
  show IntKind.u8.wrap ((BitVec.ofInt 8 x &&& BitVec.ofInt 8 127).toNat : Nat) = x % 128
  rw [key, IntKind.wrap_u8]
  omega

theorem bits_out (xs : List Int) (u : Int) (hu : ¬ (0 ≤ u ∧ u ≤ 7)) : bitsB xs u = false := by
  unfold bitsB
  by_cases h : 0 ≤ u
  · have h7 : ¬ u ≤ 7 := fun h' => hu ⟨h, h'⟩
    simp [h7]
  · simp [h]

set_option maxRecDepth 100000 in
set_option maxHeartbeats 1000000 in
theorem areBits_any (ao : Option Addr) (n cap : Nat) (xs : List Int) (u : Int) (w : World) (hs : Src w ao n cap xs) :
    Calls Try.prog 24 #[.slice ao n cap, .int .i64 u] w fun e w' => e = .returned (.bool (bitsB xs u)) ∧ ∃ q, w' = w.drewN q := by
  by_cases hu : 0 ≤ u ∧ u ≤ 7
  · by_cases hn : n = 0
    · subst hn
      obtain rfl : xs = [] := List.eq_nil_of_length_eq_zero hs.hlen
      have e1 := hide (show bitsB [] u = (u == 0) by unfold bitsB; simp [hu.1, hu.2]; rfl)
      obtain ⟨h0, h1⟩ := hu
      go_enter Try.func24, Try.ntmps24
      go_wp2
      go_ret
      rw [e1.out]
      exact ⟨rfl, 0, rfl⟩
    · obtain ⟨m, rfl⟩ : ∃ m, n = m + 1 := ⟨n - 1, by omega⟩
      obtain ⟨b, off, rfl, hc⟩ := hs.at m (by omega)
      have hm : m + 1 ≤ 9223372036854775807 := by have h1 := hs.hcap; have h2 := hs.hmax; unfold maxLen at h2; omega
      have hne := hide (show xs ≠ [] by intro h; have := hs.hlen; subst h; simp at this)
      have hby := hs.hbyt (xs.getD m 0) (by rw [List.getD, List.getElem?_eq_getElem (by rw [hs.hlen]; omega)]; exact List.getElem_mem _)
      have hx := hide (show xs.getD (xs.length - 1) 0 = xs.getD m 0 by rw [hs.hlen]; rfl)
      generalize xs.getD m 0 = x at hc hby hx
      obtain ⟨h0, h1⟩ := hby
      rcases (show u = 0 ∨ u = 1 ∨ u = 2 ∨ u = 3 ∨ u = 4 ∨ u = 5 ∨ u = 6 ∨ u = 7 by omega) with rfl | rfl | rfl | rfl | rfl | rfl | rfl | rfl
      · have hk := mask0 x
        have e1 := hide (show bitsB xs 0 = decide (x % 1 = 0) by unfold bitsB; rw [if_neg hne.out, hx.out]; simp)
        go_enter Try.func24, Try.ntmps24
        go_wp2_with fail
        go_quiet (fail)
        go_wp2
        go_ret
        rw [e1.out]
        exact ⟨by first | rfl | (simp; done), _, rfl⟩
      · have hk := mask1 x
        have e1 := hide (show bitsB xs 1 = decide (x % 2 = 0) by unfold bitsB; rw [if_neg hne.out, hx.out]; simp)
        go_enter Try.func24, Try.ntmps24
        go_wp2_with fail
        go_quiet (fail)
        go_wp2
        go_ret
        rw [e1.out]
        exact ⟨by first | rfl | (simp; done), _, rfl⟩
      · have hk := mask2 x
        have e1 := hide (show bitsB xs 2 = decide (x % 4 = 0) by unfold bitsB; rw [if_neg hne.out, hx.out]; simp)
        go_enter Try.func24, Try.ntmps24
        go_wp2_with fail
        go_quiet (fail)
        go_wp2
        go_ret
        rw [e1.out]
        exact ⟨by first | rfl | (simp; done), _, rfl⟩
      · have hk := mask3 x
        have e1 := hide (show bitsB xs 3 = decide (x % 8 = 0) by unfold bitsB; rw [if_neg hne.out, hx.out]; simp)
        go_enter Try.func24, Try.ntmps24
        go_wp2_with fail
        go_quiet (fail)
        go_wp2
        go_ret
        rw [e1.out]
        exact ⟨by first | rfl | (simp; done), _, rfl⟩
      · have hk := mask4 x
        have e1 := hide (show bitsB xs 4 = decide (x % 16 = 0) by unfold bitsB; rw [if_neg hne.out, hx.out]; simp)
        go_enter Try.func24, Try.ntmps24
        go_wp2_with fail
        go_quiet (fail)
        go_wp2
        go_ret
        rw [e1.out]
        exact ⟨by first | rfl | (simp; done), _, rfl⟩
      · have hk := mask5 x
        have e1 := hide (show bitsB xs 5 = decide (x % 32 = 0) by unfold bitsB; rw [if_neg hne.out, hx.out]; simp)
        go_enter Try.func24, Try.ntmps24
        go_wp2_with fail
        go_quiet (fail)
        go_wp2
        go_ret
        rw [e1.out]
        exact ⟨by first | rfl | (simp; done), _, rfl⟩
      · have hk := mask6 x
        have e1 := hide (show bitsB xs 6 = decide (x % 64 = 0) by unfold bitsB; rw [if_neg hne.out, hx.out]; simp)
        go_enter Try.func24, Try.ntmps24
        go_wp2_with fail
        go_quiet (fail)
        go_wp2
        go_ret
        rw [e1.out]
        exact ⟨by first | rfl | (simp; done), _, rfl⟩
      · have hk := mask7 x
        have e1 := hide (show bitsB xs 7 = decide (x % 128 = 0) by unfold bitsB; rw [if_neg hne.out, hx.out]; simp)
        go_enter Try.func24, Try.ntmps24
        go_wp2_with fail
        go_quiet (fail)
        go_wp2
        go_ret
        rw [e1.out]
        exact ⟨by first | rfl | (simp; done), _, rfl⟩
  · have e1 := hide (show bitsB xs u = false from bits_out xs u hu)
    by_cases h : u < 0
    · clear hu
      go_enter Try.func24, Try.ntmps24
      go_wp2
      go_ret
      rw [e1.out]
      exact ⟨rfl, 0, rfl⟩
    · have h7 : 7 < u := by omega
      clear hu
      go_enter Try.func24, Try.ntmps24
      go_wp2
      go_ret
      rw [e1.out]
      exact ⟨rfl, 0, rfl⟩

set_option maxRecDepth 100000 in
set_option maxHeartbeats 1000000 in
theorem there_any (ao : Option Addr) (n cap : Nat) (xs : List Int) (u : Int) (w : World) (hs : Src w ao n cap xs) :
    Calls Try.prog 25 #[.slice ao n cap, .int .i64 u] w fun e w' => e = .returned (.bool (bitsB xs u)) ∧ w' = w := by
  by_cases hu : 0 ≤ u ∧ u ≤ 7
  · by_cases hn : n = 0
    · subst hn
      obtain rfl : xs = [] := List.eq_nil_of_length_eq_zero hs.hlen
      have e1 := hide (show bitsB [] u = (u == 0) by unfold bitsB; simp [hu.1, hu.2]; rfl)
      obtain ⟨h0, h1⟩ := hu
      go_enter Try.func25, Try.ntmps25
      go_wp2
      go_ret
      rw [e1.out]
      exact ⟨rfl, rfl⟩
    · obtain ⟨m, rfl⟩ : ∃ m, n = m + 1 := ⟨n - 1, by omega⟩
      obtain ⟨b, off, rfl, hc⟩ := hs.at m (by omega)
      have hm : m + 1 ≤ 9223372036854775807 := by have h1 := hs.hcap; have h2 := hs.hmax; unfold maxLen at h2; omega
      have hne := hide (show xs ≠ [] by intro h; have := hs.hlen; subst h; simp at this)
      have hby := hs.hbyt (xs.getD m 0) (by rw [List.getD, List.getElem?_eq_getElem (by rw [hs.hlen]; omega)]; exact List.getElem_mem _)
      have hx := hide (show xs.getD (xs.length - 1) 0 = xs.getD m 0 by rw [hs.hlen]; rfl)
      generalize xs.getD m 0 = x at hc hby hx
      obtain ⟨h0, h1⟩ := hby
      obtain ⟨hu0, hu7⟩ := hu
      obtain ⟨K, rfl⟩ := Int.eq_ofNat_of_zero_le hu0
      have e1 := hide (show bitsB xs K = decide (x % ((2 ^ K : Nat) : Int) = 0) by unfold bitsB; rw [if_neg hne.out, hx.out]; simp [hu7])
      go_enter Try.func25, Try.ntmps25
      go_wp2
      go_loop [5, 6] (fun o i => ∃ k P : Nat, k ≤ K ∧ o = .int .i64 P ∧ i = .int .i64 k ∧ P = 2 ^ k) (fun _ i => K - (intOf i).toNat)
      case atStart => exact ⟨0, 1, Nat.zero_le _, rfl, rfl, rfl⟩
      case round =>
        obtain ⟨k, P, hk, rfl, rfl, hP⟩ := hrel
        have hPb : P ≤ 128 ∧ 1 ≤ P := by
          rcases (show k = 0 ∨ k = 1 ∨ k = 2 ∨ k = 3 ∨ k = 4 ∨ k = 5 ∨ k = 6 ∨ k = 7 by omega) with rfl | rfl | rfl | rfl | rfl | rfl | rfl | rfl <;> simp at hP <;> omega
        have HP := hide hP
        clear hP
        obtain ⟨hP1, hP2⟩ := hPb
        by_cases hlt : k < K
        · go_wp2
          go_round
          case rel => exact ⟨k + 1, 2 * P, by omega, by go_num, by go_num, by rw [HP.out, Nat.pow_succ]; omega⟩
          case measure => simp [intOf]; omega
        · obtain rfl : k = K := by omega
          rw [← HP.out] at e1
          go_wp2
          go_ret
          rw [e1.out]
          exact ⟨rfl, rfl⟩
  · have e1 := hide (show bitsB xs u = false from bits_out xs u hu)
    by_cases h : u < 0
    · clear hu
      go_enter Try.func25, Try.ntmps25
      go_wp2
      go_ret
      rw [e1.out]
      exact ⟨rfl, rfl⟩
    · have h7 : 7 < u := by omega
      clear hu
      go_enter Try.func25, Try.ntmps25
      go_wp2
      go_ret
      rw [e1.out]
      exact ⟨rfl, rfl⟩

theorem bits_in (xs : List Int) (u : Int) (h : bitsB xs u = true) : 0 ≤ u ∧ u ≤ 7 := by
  unfold bitsB at h
  simp at h
  exact ⟨h.1.1, h.1.2⟩

end Go.Proofs.Ytmkfdfjpfinbpaa
