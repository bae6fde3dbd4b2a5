/-
  The document's Sum and Size.
-/
import Derived.Test.YtogemhoempkjoaaDoorSlFind
namespace Go.Proofs.YtogemhoempkjoaaDoor
open Go.RowKit Go.IntWalk

theorem lsb_num (q : W32) : q.getLsbD 0 = decide (num32 q % 2 = 1) := by
  unfold num32
  rw [BitVec.getLsbD, Nat.testBit_zero]
  by_cases h : q.toNat % 2 = 1
  · rw [decide_eq_true h, decide_eq_true (by omega)]
  · rw [decide_eq_false h, decide_eq_false (by omega)]
theorem half_num (q : W32) : num32 q / (2 : Int) = num32 (q >>> 1) := shr_num q 1
theorem stp_odd (q : W32) (h : num32 q % 2 = 1) : bits .xor .u32 (num32 q / 2) 3988292384 = num32 (stp q) := by
  have e : (3988292384 : Int) = num32 (0xedb88320#32) := by decide
  rw [half_num, e, xor_num]
  unfold stp
  rw [lsb_num, decide_eq_true h]
  simp
theorem stp_evn (q : W32) (h : ¬ num32 q % 2 = 1) : num32 q / (2 : Int) = num32 (stp q) := by
  rw [half_num]
  unfold stp
  rw [lsb_num, decide_eq_false h]
  simp
theorem stpN_succ (k : Nat) (q : W32) : stpN (k + 1) q = stp (stpN k q) := by rw [stpN_add]; rfl

set_option maxRecDepth 100000 in
set_option maxHeartbeats 4000000 in
theorem refSum_any (ao : Option Addr) (n cap : Nat) (xs : List Int) (w : World) (hs : Src w ao n cap xs) :
    Calls Tryd.prog 11 #[.slice ao n cap] w fun e w' => e = .returned (.int .u32 (sumS xs)) ∧ w' = w := by
  have HS := hide hs
  have hlen : xs.length = n := hs.hlen
  have hcap : (n : Int) ≤ 9223372036854775807 := by have h1 := hs.hcap; have h2 := hs.hmax; unfold maxLen at h2; omega
  clear hs
  go_enter Tryd.func11, Tryd.ntmps11
  go_wp2
  go_loopw [3, 4] (fun a i wr => ∃ t : Nat, t ≤ n ∧ i = .int .i64 t ∧ a = .int .u32 (num32 (reg (BitVec.allOnes 32) (xs.take t))) ∧ wr = w) (fun _ i _ => n - (intOf i).toNat)
  case atStart => exact ⟨0, by omega, rfl, rfl, rfl⟩
  case round =>
    obtain ⟨t, ht, rfl, rfl, rfl⟩ := hrel
    by_cases hlt : t < n
    · obtain ⟨b, off, rfl, hc⟩ := HS.out.hrd (by intro h; subst h; simp at hlen; omega)
      have hcx := hc t (by omega)
      have hbx := HS.out.hbyt (xs.getD t 0) (by rw [List.getD, List.getElem?_eq_getElem (show t < xs.length by omega)]; simp)
      have hnx : reg (BitVec.allOnes 32) (xs.take (t + 1)) = byt (reg (BitVec.allOnes 32) (xs.take t)) (xs.getD t 0) := by
        rw [List.take_add_one, List.getElem?_eq_getElem (show t < xs.length by omega), reg_append]; simp [reg, List.getD, List.getElem?_eq_getElem (show t < xs.length by omega)]
      generalize xs.getD t 0 = x at hcx hbx hnx
      generalize reg (BitVec.allOnes 32) (xs.take t) = q at hnx ⊢
      unfold byt at hnx
      have e1 : bits .xor .u32 (num32 q) x = num32 (q ^^^ BitVec.ofInt 32 x) := by rw [← xor_num, num_ofInt x (by omega)]
      generalize q ^^^ BitVec.ofInt 32 x = q1 at hnx e1
      have hltI : (t : Int) < (n : Int) := by omega
      have HNX := hide hnx
      clear hc hnx
      go_wp2
      go_loopw [3, 5] (fun a k wr2 => ∃ j : Nat, j ≤ 8 ∧ k = .int .i64 j ∧ a = .int .u32 (num32 (stpN j q1)) ∧ wr2 = wr) (fun _ k _ => 8 - (intOf k).toNat)
      case atStart => exact ⟨0, by omega, rfl, rfl, rfl⟩
      case round =>
        obtain ⟨j, hj, rfl, rfl, rfl⟩ := hrel
        by_cases hj8 : j < 8
        · have hjI : (j : Int) < 8 := by omega
          have hsu := stpN_succ j q1
          have g1 := num32_bd (stpN j q1)
          by_cases ho : num32 (stpN j q1) % 2 = 1
          · have e2 := stp_odd _ ho
            rw [← hsu] at e2
            have HSU := hide e2
            generalize num32 (stpN j q1) = y at *
            have ho' : y.tmod 2 = 1 := by rw [Int.tmod_eq_emod_of_nonneg g1.1]; exact ho
            have hq : y.tdiv 2 = y / 2 := Int.tdiv_eq_ediv_of_nonneg g1.1
            go_wp2
            go_roundw
            case rel => exact ⟨j + 1, by omega, by go_num, by have hb := num32_bd (stp (stpN j q1)); rw [stpN_succ]; try rw [Int.emod_eq_of_lt hb.1 hb.2], trivial⟩
            case measure => simp [intOf]; omega
          · have e2 := stp_evn _ ho
            rw [← hsu] at e2
            have HSU := hide e2
            generalize num32 (stpN j q1) = y at *
            have ho' : ¬ y.tmod 2 = 1 := by rw [Int.tmod_eq_emod_of_nonneg g1.1]; exact ho
            have hq : y.tdiv 2 = y / 2 := Int.tdiv_eq_ediv_of_nonneg g1.1
            go_wp2
            go_roundw
            case rel => exact ⟨j + 1, by omega, by go_num, by have hb := num32_bd (stp (stpN j q1)); rw [stpN_succ]; try rw [Int.emod_eq_of_lt hb.1 hb.2], trivial⟩
            case measure => simp [intOf]; omega
        · obtain rfl : j = 8 := by omega
          rw [← HNX.out]
          go_wp2
          go_roundw
          case rel => exact ⟨t + 1, by omega, by go_num, rfl, trivial⟩
          case measure => simp [intOf]; omega
    · obtain rfl : t = n := by omega
      rw [List.take_of_length_le (by omega)]
      have g1 := num32_bd (reg (BitVec.allOnes 32) xs)
      have hsub : IntKind.u32.wrap (4294967295 - num32 (reg (BitVec.allOnes 32) xs)) = sumS xs := by
        rw [IntKind.wrap_u32']
        unfold sumS
        generalize reg (BitVec.allOnes 32) xs = q at *
        unfold num32 at *
        rw [BitVec.toNat_not]
        omega
      generalize num32 (reg (BitVec.allOnes 32) xs) = y at *
      have hsub2 : 4294967295 - y = sumS xs := by rw [← hsub, IntKind.wrap_u32']; omega
      go_wp2
      go_ret
      exact ⟨by first | rw [← hsub2]; rfl | rw [← hsub]; rfl, rfl⟩

theorem refSize_any (n : Int) (hn : -9223372036854775808 ≤ n ∧ n ≤ 9223372036854775807) (w : World) : Calls Tryd.prog 13 #[.int .i64 n] w fun e w' => e = .returned (.int .i64 (sizeI n)) ∧ w' = w := by
  unfold sizeI
  by_cases h1 : n < 0
  · rw [if_pos (Or.inl h1)]
    go_enter Tryd.func13, Tryd.ntmps13
    go_wp2
    go_ret
    exact ⟨rfl, rfl⟩
  · by_cases h2 : 65535 < n
    · rw [if_pos (Or.inr h2)]
      go_enter Tryd.func13, Tryd.ntmps13
      go_wp2
      go_ret
      exact ⟨rfl, rfl⟩
    · rw [if_neg (by omega)]
      have e1 : IntKind.i64.wrap (n + 7) = n + 7 := i64_in _ (by omega)
      go_enter Tryd.func13, Tryd.ntmps13
      go_wp2
      go_ret
      exact ⟨rfl, rfl⟩

end Go.Proofs.YtogemhoempkjoaaDoor
