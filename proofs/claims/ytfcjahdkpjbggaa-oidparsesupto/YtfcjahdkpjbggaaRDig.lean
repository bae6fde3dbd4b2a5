/-
  The document's Digits: the decimal digits of a number of 0 or more.
-/
import Derived.Test.YtfcjahdkpjbggaaONum
import Derived.Lib.ItoaLen
namespace Go.Proofs.Ytfcjahdkpjbggaa
open Go.RowKit Go.IntWalk

theorem dec_step (u : Nat) (h : ¬ u < 10) : Lib.decDigits u = Lib.decDigits (u / 10) ++ [UInt8.ofNat (48 + u % 10)] := by
  rw [Lib.decDigits, dif_neg h]

theorem dec_len (u : Nat) (h : u ≤ 2147483647) : (Lib.decDigits u).length ≤ 21 := by
  have := Lib.itoa_length_le (u : Int) (by omega) (by omega)
  rwa [Lib.itoa_nonneg] at this

theorem one_cat (x : Int) (D : ByteArray) : (strOfNums [x] ++ D).data.toList = UInt8.ofNat x.toNat :: D.data.toList := by
  simp [strOfNums]

set_option maxRecDepth 100000 in
set_option maxHeartbeats 1000000 in
theorem refDigits_any (u : Nat) (h1 : u ≤ 2147483647) (w : World) :
    Calls Try.prog 46 #[.int .i64 u] w fun e w' => e = .returned (.string ⟨(Lib.decDigits u).toArray⟩) ∧ Below w.heap.size w w' := by
  have hU := hide (dec_len u h1)
  go_enter Try.func46, Try.ntmps46
  go_wp2
  go_loopw [0, 3] (fun s v wr => ∃ (N : Nat) (D : ByteArray), s = .int .i64 N ∧ v = .string D ∧ N ≤ 2147483647 ∧ Hid (Lib.decDigits u = Lib.decDigits N ++ D.data.toList) ∧ Below w.heap.size w wr) (fun s _ _ => (intOf s).toNat)
  case atStart => exact ⟨u, _, rfl, rfl, h1, by unfold Hid; simp, Below.refl _ _⟩
  case round =>
    obtain ⟨N, D, rfl, rfl, hN, hD, hB⟩ := hrel
    have hBs := hB.size
    have hsz : D.size ≤ 21 := by
      have h2 := hU.out
      rw [hD.out, List.length_append] at h2
      have e : D.data.toList.length = D.size := by rw [Array.length_toList]; rfl
      omega
    by_cases hz : N < 10
    · have hI : ¬ (9 : Int) < (N : Int) := by omega
      have t1 := (Src.lit (w := wr) [48 + (N : Int)] #[Value.int IntKind.u8 (48 + (N : Int))] 1 rfl rfl (by simp; omega) (by decide)).text
      have hs1 : ¬ 9223372036854775807 < (strOfNums [48 + (N : Int)]).size + D.size := by rw [strOfNums_size]; simp; omega
      have hc := one_cat (48 + (N : Int)) D
      obtain ⟨E, hE⟩ : ∃ E, strOfNums [48 + (N : Int)] ++ D = E := ⟨_, rfl⟩
      rw [hE] at hc
      have hfin : Hid (E = ⟨(Lib.decDigits u).toArray⟩) := by
        unfold Hid
        apply ByteArray.ext
        apply Array.toList_inj.1
        rw [hc, hD.out, Lib.decDigits_one hz]
        have e : (48 + (N : Int)).toNat = 48 + N := by omega
        rw [e]
        rfl
      clear hc
      go_wp2
      go_ret
      exact ⟨by rw [hfin.out]; rfl, hB.alloc hBs _⟩
    · have hI : (9 : Int) < (N : Int) := by omega
      have t1 := (Src.lit (w := wr) [48 + (N : Int) % 10] #[Value.int IntKind.u8 (48 + (N : Int) % 10)] 1 rfl rfl (by simp; omega) (by decide)).text
      have hs1 : ¬ 9223372036854775807 < (strOfNums [48 + (N : Int) % 10]).size + D.size := by rw [strOfNums_size]; simp; omega
      have hc := one_cat (48 + (N : Int) % 10) D
      obtain ⟨E, hE⟩ : ∃ E, strOfNums [48 + (N : Int) % 10] ++ D = E := ⟨_, rfl⟩
      rw [hE] at hc
      have hnx : Hid (Lib.decDigits u = Lib.decDigits (N / 10) ++ E.data.toList) := by
        unfold Hid
        rw [hc, hD.out, dec_step N hz]
        have e : (48 + (N : Int) % 10).toNat = 48 + N % 10 := by omega
        rw [e]
        simp
      clear hc
      go_wp2
      go_roundw
      case rel => exact ⟨N / 10, E, by simp, rfl, by omega, hnx, hB.alloc hBs _⟩
      case measure => simp [intOf]; omega

end Go.Proofs.Ytfcjahdkpjbggaa
