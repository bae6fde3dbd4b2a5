/-
  The document's Digits.
-/
import Derived.Test.YtnpimjfdidbdfaaDoorDig
namespace Go.Proofs.YtnpimjfdidbdfaaDoor
open Go.RowKit

set_option maxRecDepth 100000 in
set_option maxHeartbeats 1000000 in
theorem refDig_any (n k : Nat) (hn : n ≤ 100000) (hk : k ≤ 4) (w : World) :
    Calls Tryd.prog 33 #[.int .i64 n, .int .i64 k] w fun e w' => e = .returned (.string (strOfNums (dg k n))) ∧ Below w.heap.size w w' := by
  go_enter Tryd.func33, Tryd.ntmps33
  go_wp2
  go_loopw [0, 5, 6] (fun a s i wr => ∃ (I N : Nat) (D : ByteArray), I ≤ k ∧ N ≤ 100000 ∧ i = .int .i64 I ∧ a = .int .i64 N ∧ s = .string D ∧ Hid (N = n / 10 ^ I) ∧ Hid (D = strOfNums (dg I n)) ∧ Below w.heap.size w wr) (fun _ _ i _ => k - (intOf i).toNat)
  case atStart => exact ⟨0, n, _, Nat.zero_le _, hn, rfl, rfl, rfl, by unfold Hid; simp, rfl, Below.refl _ _⟩
  case round =>
    obtain ⟨I, N, D, hI, hN, rfl, rfl, rfl, eN, eD, hB⟩ := hrel
    have hBs := hB.size
    by_cases hlt : I < k
    · have kI : (I : Int) < (k : Int) := by omega
      have t1 := (Src.lit (w := wr) [48 + (N : Int) % 10] #[Value.int IntKind.u8 (48 + (N : Int) % 10)] 1 rfl rfl (by simp; omega) (by decide)).text
      have hs1 : ¬ 9223372036854775807 < (strOfNums [48 + (N : Int) % 10]).size + D.size := by rw [eD.out, strOfNums_size, strOfNums_size, dg_len]; simp; omega
      obtain ⟨E, hE⟩ : ∃ E, strOfNums [48 + (N : Int) % 10] ++ D = E := ⟨_, rfl⟩
      have eE : Hid (E = strOfNums (dg (I + 1) n)) := by
        unfold Hid
        rw [← hE, eD.out, strOf_append, dg, ← eN.out]
        rfl
      have eM : Hid (N / 10 = n / 10 ^ (I + 1)) := by unfold Hid; rw [eN.out, Nat.div_div_eq_div_mul]; rfl
      go_wp2
      go_roundw
      case rel => exact ⟨I + 1, N / 10, E, by omega, by omega, by go_num, by simp, rfl, eM, eE, hB.alloc hBs _⟩
      case measure => simp [intOf]; omega
    · obtain rfl : I = k := by omega
      go_wp2
      go_ret
      exact ⟨by rw [eD.out]; rfl, hB⟩

end Go.Proofs.YtnpimjfdidbdfaaDoor
