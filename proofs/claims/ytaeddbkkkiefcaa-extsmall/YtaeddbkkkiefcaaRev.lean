/-
  math/bits.Reverse16 as a plain function of a number.
-/
import Derived.Test.YtaeddbkkkiefcaaNOwn
import Derived.Lib.Tables
namespace Go.Proofs.Ytaeddbkkkiefcaa
open Go.RowKit Go.IntWalk

theorem fold_rev : ({ data := (([0, 128, 64, 192, 32, 160, 96, 224, 16, 144, 80, 208, 48, 176, 112, 240, 8, 136, 72, 200, 40, 168, 104, 232, 24, 152, 88, 216, 56, 184, 120, 248, 4, 132, 68, 196, 36, 164, 100, 228, 20, 148, 84, 212, 52, 180, 116, 244, 12, 140, 76, 204, 44, 172, 108, 236, 28, 156, 92, 220, 60, 188, 124, 252].append [2, 130, 66, 194, 34, 162, 98, 226, 18, 146, 82, 210, 50, 178, 114, 242, 10, 138, 74, 202, 42, 170, 106, 234, 26, 154, 90, 218, 58, 186, 122, 250, 6, 134, 70, 198, 38, 166, 102, 230, 22, 150, 86, 214, 54, 182, 118, 246, 14, 142, 78, 206, 46, 174, 110, 238, 30, 158, 94, 222, 62, 190, 126, 254]).append ([1, 129, 65, 193, 33, 161, 97, 225, 17, 145, 81, 209, 49, 177, 113, 241, 9, 137, 73, 201, 41, 169, 105, 233, 25, 153, 89, 217, 57, 185, 121, 249, 5, 133, 69, 197, 37, 165, 101, 229, 21, 149, 85, 213, 53, 181, 117, 245, 13, 141, 77, 205, 45, 173, 109, 237, 29, 157, 93, 221, 61, 189, 125, 253].append [3, 131, 67, 195, 35, 163, 99, 227, 19, 147, 83, 211, 51, 179, 115, 243, 11, 139, 75, 203, 43, 171, 107, 235, 27, 155, 91, 219, 59, 187, 123, 251, 7, 135, 71, 199, 39, 167, 103, 231, 23, 151, 87, 215, 55, 183, 119, 247, 15, 143, 79, 207, 47, 175, 111, 239, 31, 159, 95, 223, 63, 191, 127, 255])).toArray } : ByteArray) = Go.Lib.rev8tab := by decide +kernel
attribute [local go_sem ↓] fold_rev

theorem rev8_le : ∀ i : Nat, i < 256 → 0 ≤ Go.Lib.rev8 i ∧ Go.Lib.rev8 i ≤ 255 := by decide +kernel

theorem rev8_in (x : Int) (h0 : 0 ≤ x) (h1 : x < 256) : 0 ≤ Go.Lib.rev8 x ∧ Go.Lib.rev8 x ≤ 255 := by
  obtain ⟨n, rfl⟩ := Int.eq_ofNat_of_zero_le h0
  exact rev8_le n (by omega)

theorem and255 (x : Int) : bits .and .u16 x 255 = x % 256 := by
  have hm : (BitVec.ofInt 16 255).toNat = 2 ^ 8 - 1 := by decide
  have key : (BitVec.ofInt 16 x &&& BitVec.ofInt 16 255).toNat = (x % ((2 ^ 16 : Nat) : Int)).toNat % 2 ^ 8 := by
    rw [BitVec.toNat_and, BitVec.toNat_ofInt, hm, Nat.and_two_pow_sub_one_eq_mod]
  show IntKind.u16.wrap ((BitVec.ofInt 16 x &&& BitVec.ofInt 16 255).toNat : Nat) = x % 256
  rw [key, IntKind.wrap_u16]
  omega

theorem or_high (n d : Int) (h0 : 0 ≤ n) (h1 : n < 256) (h2 : 0 ≤ d) (h3 : d < 256) : bits .or .u16 (n * 256) d = n * 256 + d := by
  obtain ⟨A, rfl⟩ := Int.eq_ofNat_of_zero_le h0
  obtain ⟨B, rfl⟩ := Int.eq_ofNat_of_zero_le h2
  have e : ((A : Int) * 256) = ((A * 256 : Nat) : Int) := by omega
  rw [e]
  have ka : (BitVec.ofInt 16 ((A * 256 : Nat) : Int)).toNat = A * 256 := by rw [BitVec.ofInt_natCast, BitVec.toNat_ofNat]; omega
  have kb : (BitVec.ofInt 16 (B : Int)).toNat = B := by rw [BitVec.ofInt_natCast, BitVec.toNat_ofNat]; omega
  show IntKind.u16.wrap ((BitVec.ofInt 16 ((A * 256 : Nat) : Int) ||| BitVec.ofInt 16 (B : Int)).toNat : Nat) = _
  rw [BitVec.toNat_or, ka, kb]
  have hor : A * 256 ||| B = A * 256 + B := by
    rw [show A * 256 = A <<< 8 by rw [Nat.shiftLeft_eq], ← Nat.shiftLeft_add_eq_or_of_lt (by omega : B < 2 ^ 8)]
  rw [hor, IntKind.wrap_u16]
  omega

theorem bits_comm (x y : Int) : bits .or .u16 x y = bits .or .u16 y x := by
  show IntKind.u16.wrap ((BitVec.ofInt 16 x ||| BitVec.ofInt 16 y).toNat : Nat) = IntKind.u16.wrap ((BitVec.ofInt 16 y ||| BitVec.ofInt 16 x).toNat : Nat)
  rw [BitVec.or_comm]

/-- The sixteen bits turned round. -/
def revS (s : Int) : Int := Go.Lib.rev8 (s % 256) * 256 + Go.Lib.rev8 (s / 256)

set_option maxRecDepth 100000 in
set_option maxHeartbeats 1000000 in
theorem rev16_any (s : Int) (h0 : 0 ≤ s) (h1 : s < 65536) (w : World) :
    Calls Try.prog 82 #[.int .u16 s] w fun e w' => e = .returned (.int .u16 (revS s)) ∧ ∃ q, w' = w.drewN q := by
  have ha := and255 s
  have d0 : 0 ≤ s / 256 := by omega
  have d1 : s / 256 ≤ 255 := by omega
  have m0 : 0 ≤ s % 256 := by omega
  have m1 : s % 256 ≤ 255 := by omega
  obtain ⟨p0, p1⟩ := rev8_in (s / 256) d0 (by omega)
  obtain ⟨q0, q1⟩ := rev8_in (s % 256) m0 (by omega)
  have ho := or_high (Go.Lib.rev8 (s % 256)) (Go.Lib.rev8 (s / 256)) q0 (by omega) p0 (by omega)
  rw [bits_comm] at ho
  have e1 := hide (show revS s = Go.Lib.rev8 (s % 256) * 256 + Go.Lib.rev8 (s / 256) from rfl)
  go_enter Try.func82, Try.ntmps82
  go_wp2_with fail
  go_quiet (fail)
  go_wp2
  go_ret
  rw [e1.out]
  exact ⟨rfl, _, rfl⟩

end Go.Proofs.Ytaeddbkkkiefcaa
