/-
  The document's Bit, Bits and Bytes.
-/
import Derived.Test.YtobdpcmafjhnlaaNSize
import Derived.Test.YtobdpcmafjhnlaaNLaw
namespace Go.Proofs.Ytobdpcmafjhnlaa
open Go.RowKit Go.IntWalk

set_option maxRecDepth 100000 in
theorem bit_neg (ao : Option Addr) (n c : Nat) (I : Int) (hI : I < 0) (w : World) :
    Calls Try.prog 52 #[.slice ao n c, .int .i64 I] w fun e w' => e = .returned (.int .u64 0) ∧ w' = w := by
  go_enter Try.func52, Try.ntmps52
  go_wp2
  go_ret
  exact ⟨rfl, rfl⟩

theorem pw_16 (i : Nat) : pw 2 (16 * i) = pw 65536 i := by
  induction i with
  | zero => rfl
  | succ i ih =>
    rw [show 16 * (i + 1) = 16 * i + 16 by omega, pw_add, ih, show pw 2 16 = 65536 by decide, show pw 65536 (i + 1) = 65536 * pw 65536 i from rfl, Int.mul_comm]

theorem bl_of_top16 {X : List Int} (m : Nat) (hX : Dg 65536 X) (hl : X.length = m + 1) (L : Nat) (l1 : 1 ≤ L) (h1 : pw 2 (L - 1) ≤ X.getD m 0) (h2 : X.getD m 0 < pw 2 L) : BL (val 65536 X) (16 * m + L) := by
  have hp := pw_pos (b := 65536) (by decide) m
  have h9 := val_take_succ 65536 X m
  rw [List.take_of_length_le (by omega)] at h9
  have h8 := val_lt (b := 65536) (by decide) (hX.take m)
  rw [List.length_take, Nat.min_eq_left (by omega)] at h8
  have h7 := val_nonneg (b := 65536) (by decide) (hX.take m)
  have q1 := Int.mul_le_mul_of_nonneg_right h1 (show 0 ≤ pw 65536 m by omega)
  have q2 := Int.mul_le_mul_of_nonneg_right (show X.getD m 0 + 1 ≤ pw 2 L by omega) (show 0 ≤ pw 65536 m by omega)
  rw [Int.add_mul, Int.one_mul] at q2
  have q3 := pw_pos (b := 2) (by decide) (L - 1)
  have e1 : pw 2 (16 * m + L) = pw 2 L * pw 65536 m := by rw [pw_add, pw_16, Int.mul_comm]
  have e2 : pw 2 (16 * m + L - 1) = pw 2 (L - 1) * pw 65536 m := by rw [show 16 * m + L - 1 = 16 * m + (L - 1) by omega, pw_add, pw_16, Int.mul_comm]
  have q4 := Int.mul_pos q3 hp
  exact .inr ⟨by omega, by omega, by rw [e2]; omega, by rw [e1]; omega⟩

set_option maxRecDepth 100000 in
set_option maxHeartbeats 1000000 in
theorem refBits_any (v : Value) (x : Int) (L : Nat) (w : World) (h : NumD w v x L) (hL : L ≤ 1000) :
    Calls Try.prog 22 #[v] w fun e w' => ∃ S : Nat, e = .returned (.int .i64 S) ∧ BL x S ∧ w' = w := by
  obtain ⟨ao, n, c, xs, rfl, hs, ht, hl, hv⟩ := h
  subst hv
  have hz := hs.hlen
  rcases Nat.eq_zero_or_pos n with h0 | h0
  · subst h0
    obtain rfl : xs = [] := List.eq_nil_of_length_eq_zero hz
    go_enter Try.func22, Try.ntmps22
    go_wp2
    go_ret
    exact ⟨0, rfl, .inl ⟨rfl, rfl⟩, rfl⟩
  · obtain ⟨m, hm⟩ : ∃ m, n = m + 1 := ⟨n - 1, by omega⟩
    have hd := hs.hdg.at (by decide : (0 : Int) < 65536) m
    have hne : xs.getD m 0 ≠ 0 := by
      have := ht (by intro h; rw [h] at hz; simp at hz; omega)
      rwa [hz, hm, Nat.add_sub_cancel] at this
    obtain ⟨b, o, rfl, ec⟩ := hs.at m (by omega)
    have HTOP := hide (bl_of_top16 m hs.hdg (by omega))
    obtain ⟨d, hdd⟩ : ∃ d, xs.getD m 0 = d := ⟨_, rfl⟩
    rw [hdd] at ec hd hne HTOP
    have hsub : (n : Int) - 1 = (m : Int) := by omega
    have hmn : (m : Int) < (n : Int) := by omega
    have hnz : ¬ (n : Int) = 0 := by omega
    have mb : (m : Int) ≤ 1000 := by omega
    have nb : (n : Int) ≤ 1000 := by omega
    clear hdd hm hz ht hs hl
    go_enter Try.func22, Try.ntmps22
    go_wp2
    go_loop [3, 4] (fun s y => ∃ (k : Nat) (Y : Int), s = .int .i64 (16 * (m : Int) + (k : Int)) ∧ y = .int .i64 Y ∧ 0 ≤ Y ∧ Y < 65536 ∧ Hid (Y = d / pw 2 k) ∧ Hid (k = 0 ∨ pw 2 (k - 1) ≤ d) ∧ Hid (k ≤ 16)) (fun _ y => (intOf y).toNat)
    case atStart => exact ⟨0, d, by go_num, rfl, hd.1, hd.2, by unfold Hid; rw [pw, Int.ediv_one], .inl rfl, by unfold Hid; omega⟩
    case round =>
      obtain ⟨k, Y, rfl, rfl, hY0, hY1, HY, HK, HK16⟩ := hrel
      have hp := pw_pos (b := 2) (by decide) k
      have kb : (k : Int) ≤ 16 := by have := HK16.out; omega
      by_cases hy : 0 < Y
      · have tq : Int.tdiv Y 2 = Y / 2 := Int.tdiv_eq_ediv_of_nonneg hY0
        have HY' : Hid (Y / 2 = d / pw 2 (k + 1)) := by
          unfold Hid
          rw [HY.out, show pw 2 (k + 1) = 2 * pw 2 k from rfl, Int.mul_comm, ← Int.ediv_ediv_of_nonneg (by omega)]
        have hle : pw 2 k ≤ d := by
          have g := HY.out
          rcases Int.lt_or_le d (pw 2 k) with h | h
          · rw [Int.ediv_eq_zero_of_lt hd.1 h] at g; omega
          · exact h
        have HK' : Hid (k + 1 = 0 ∨ pw 2 (k + 1 - 1) ≤ d) := .inr (by rw [Nat.add_sub_cancel]; exact hle)
        have HK2 : Hid (k + 1 ≤ 16) := by
          unfold Hid
          rcases Nat.lt_or_ge k 16 with h | h
          · omega
          · exfalso
            have := pw_mono (b := 2) (by decide) 16 k h
            rw [show pw 2 16 = 65536 by decide] at this
            omega
        clear hle hp
        go_wp2
        go_round
        case rel => exact ⟨k + 1, Y / 2, by go_num, rfl, by omega, by omega, HY', HK', HK2⟩
        case measure => simp [intOf] <;> omega
      · have hlt : d < pw 2 k := by
          have g := HY.out
          rcases Int.lt_or_le d (pw 2 k) with h | h
          · exact h
          · have := (Int.le_ediv_iff_mul_le hp).2 (show 1 * pw 2 k ≤ d by omega)
            omega
        have hk1 : 1 ≤ k := by
          rcases Nat.eq_zero_or_pos k with h | h
          · subst h; rw [show pw 2 0 = 1 from rfl] at hlt; omega
          · exact h
        have HF := hide (HTOP.out k hk1 (by rcases HK.out with h | h; omega; exact h) hlt)
        clear hlt hk1 hp
        go_wp2
        go_ret
        exact ⟨16 * m + k, by simp, HF.out, rfl⟩

end Go.Proofs.Ytobdpcmafjhnlaa
