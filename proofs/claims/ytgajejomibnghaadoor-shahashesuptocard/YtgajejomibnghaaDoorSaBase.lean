/-
  Words of 32 bits: turned right, as the program and as the document turn them.
-/
import Derived.Test.YtgajejomibnghaaDoorChecked
import Derived.Test.YtgajejomibnghaaDoorGRow2
import Derived.WalkKit
import Derived.WalkMore
import Derived.BigQuiet
import Derived.Deep.QuietTactic
import Derived.Laws.BitsAllLaws
import Derived.Deep.MidRow
namespace Go.Proofs.YtgajejomibnghaaDoor
open Go.RowKit Go.IntWalk

/-- A word turned right by n bits. -/
def ror (x : Int) (n : Nat) : Int := bits .or .u32 (x / 2 ^ n) (x * 2 ^ (32 - n) % 4294967296)

theorem bits_bd (o : BinOp) (a b : Int) : 0 ≤ bits o .u32 a b ∧ bits o .u32 a b < 4294967296 := by
  unfold bits
  split <;> (rw [IntKind.wrap_u32']; omega)

theorem or_comm32 (a b : Int) : bits .or .u32 a b = bits .or .u32 b a := by
  show IntKind.u32.wrap ((BitVec.ofInt 32 a ||| BitVec.ofInt 32 b).toNat : Int) = IntKind.u32.wrap ((BitVec.ofInt 32 b ||| BitVec.ofInt 32 a).toNat : Int)
  rw [BitVec.or_comm]

theorem ret_u32 {a b : Int} (h : a = b) : Ending.returned (.int .u32 a) = .returned (.int .u32 b) := by rw [h]

theorem rotl_any (x k : Int) (n : Nat) (hk : k = -(n : Int)) (h1 : 1 ≤ n) (h2 : n ≤ 31) (w : World) :
    Calls Tryd.prog 53 #[.int .u32 x, .int .i64 k] w fun e w' => e = .returned (.int .u32 (ror x n)) ∧ w' = w := by
  have c1 : IntKind.u64.wrap k = 18446744073709551616 - (n : Int) := by rw [IntKind.wrap_u64]; omega
  have c2 : bits .and .u64 (18446744073709551616 - (n : Int)) 31 = ((32 - n : Nat) : Int) := by
    rcases (show n = 1 ∨ n = 2 ∨ n = 3 ∨ n = 4 ∨ n = 5 ∨ n = 6 ∨ n = 7 ∨ n = 8 ∨ n = 9 ∨ n = 10 ∨ n = 11 ∨ n = 12 ∨ n = 13 ∨ n = 14 ∨ n = 15 ∨ n = 16 ∨ n = 17 ∨ n = 18 ∨ n = 19 ∨ n = 20 ∨ n = 21 ∨ n = 22 ∨ n = 23 ∨ n = 24 ∨ n = 25 ∨ n = 26 ∨ n = 27 ∨ n = 28 ∨ n = 29 ∨ n = 30 ∨ n = 31 by omega) with h | h | h | h | h | h | h | h | h | h | h | h | h | h | h | h | h | h | h | h | h | h | h | h | h | h | h | h | h | h | h <;> (subst h; decide +kernel)
  have c3 : IntKind.u64.wrap (32 - ((32 - n : Nat) : Int)) = (n : Int) := by rw [IntKind.wrap_u64]; omega
  obtain ⟨m, hm⟩ : ∃ m : Nat, 32 - n = m := ⟨_, rfl⟩
  have hr : ror x n = bits .or .u32 (x * 2 ^ m % 4294967296) (x / 2 ^ n) := by unfold ror; rw [or_comm32, hm]
  rw [hm] at c2 c3
  rw [hr]
  clear hk hr
  have hm1 : m ≤ 31 := by omega
  go_enter Tryd.func53, Tryd.ntmps53
  go_wp2
  go_ret
  exact ⟨rfl, rfl⟩

theorem turned_any (x N : Int) (n : Nat) (hN : N = (n : Int)) (h1 : 1 ≤ n) (h2 : n ≤ 31) (w : World) :
    Calls Tryd.prog 46 #[.int .u32 x, .int .u64 N] w fun e w' => e = .returned (.int .u32 (ror x n)) ∧ w' = w := by
  subst hN
  go_enter Tryd.func46, Tryd.ntmps46
  go_wp2
  go_ret
  exact ⟨ret_u32 (by unfold ror; first | rfl | (rw [show (32 - (n : Int)).toNat = 32 - n by omega, Int.toNat_natCast])), rfl⟩

theorem right_any (x N : Int) (n : Nat) (hN : N = (n : Int)) (h1 : 1 ≤ n) (h2 : n ≤ 31) (w : World) :
    Calls Tryd.prog 51 #[.int .u32 x, .int .i64 N] w fun e w' => e = .returned (.int .u32 (ror x n)) ∧ w' = w := by
  subst hN
  go_enter Tryd.func51, Tryd.ntmps51
  go_wp2_with (go_at_call 53; refine (rotl_any _ _ n (by omega) h1 h2 _).mono ?_; rintro e w' ⟨rfl, rfl⟩)
  go_ret
  exact ⟨rfl, rfl⟩

end Go.Proofs.YtgajejomibnghaaDoor
