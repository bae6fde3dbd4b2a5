/-
  sha.word, sha.put: a word out of four bytes, and over four bytes.
-/
import Derived.Test.YtgajejomibnghaaDoorSaBlk
namespace Go.Proofs.YtgajejomibnghaaDoor
open Go.RowKit Go.IntWalk

/-- Four bytes as a word. -/
def w4 (a b c d : Int) : Int := a * 16777216 + b * 65536 + c * 256 + d

theorem w4_bd {a b c d : Int} (ha : 0 ≤ a ∧ a < 256) (hb : 0 ≤ b ∧ b < 256) (hc : 0 ≤ c ∧ c < 256) (hd : 0 ≤ d ∧ d < 256) : 0 ≤ w4 a b c d ∧ w4 a b c d < 4294967296 := by unfold w4; omega

theorem or_add (a b : Nat) (k : Nat) (hb : b < 2 ^ k) (ha : a * 2 ^ k + b < 4294967296) : bits .or .u32 ((a * 2 ^ k : Nat) : Int) (b : Int) = ((a * 2 ^ k + b : Nat) : Int) := by
  rw [u32_or_nat _ _ (by omega) (by omega), Nat.mul_comm, ← Nat.two_pow_add_eq_or_of_lt hb]

theorem w4_or (a b c d : Int) (ha : 0 ≤ a ∧ a < 256) (hb : 0 ≤ b ∧ b < 256) (hc : 0 ≤ c ∧ c < 256) (hd : 0 ≤ d ∧ d < 256) :
    bits .or .u32 (bits .or .u32 (bits .or .u32 (a * 16777216) (b * 65536)) (c * 256)) d = w4 a b c d := by
  obtain ⟨A, rfl⟩ := Int.eq_ofNat_of_zero_le ha.1
  obtain ⟨B, rfl⟩ := Int.eq_ofNat_of_zero_le hb.1
  obtain ⟨C, rfl⟩ := Int.eq_ofNat_of_zero_le hc.1
  obtain ⟨D, rfl⟩ := Int.eq_ofNat_of_zero_le hd.1
  have e1 : bits .or .u32 ((A : Int) * 16777216) ((B : Int) * 65536) = (((A * 256 + B) * 2 ^ 16 : Nat) : Int) := by
    have := or_add A (B * 65536) 24 (by omega) (by omega)
    rw [show ((A : Int) * 16777216) = ((A * 2 ^ 24 : Nat) : Int) by omega, show ((B : Int) * 65536) = ((B * 65536 : Nat) : Int) by omega, this]
    omega
  have e2 : bits .or .u32 (((A * 256 + B) * 2 ^ 16 : Nat) : Int) ((C : Int) * 256) = ((((A * 256 + B) * 256 + C) * 2 ^ 8 : Nat) : Int) := by
    have := or_add (A * 256 + B) (C * 256) 16 (by omega) (by omega)
    rw [show ((C : Int) * 256) = ((C * 256 : Nat) : Int) by omega, this]
    omega
  have e3 := or_add ((A * 256 + B) * 256 + C) D 8 (by omega) (by omega)
  rw [e1, e2, e3]
  unfold w4
  omega

set_option maxRecDepth 100000 in
set_option maxHeartbeats 1000000 in
theorem word_any (g o n c : Nat) (x0 x1 x2 x3 : Int) (w : World) (hn : 4 ≤ n)
    (h0 : w.cell? ⟨g, o, none⟩ = some (.int .u8 x0)) (h1 : w.cell? ⟨g, o + 1, none⟩ = some (.int .u8 x1)) (h2 : w.cell? ⟨g, o + 2, none⟩ = some (.int .u8 x2)) (h3 : w.cell? ⟨g, o + 3, none⟩ = some (.int .u8 x3))
    (b0 : 0 ≤ x0 ∧ x0 < 256) (b1 : 0 ≤ x1 ∧ x1 < 256) (b2 : 0 ≤ x2 ∧ x2 < 256) (b3 : 0 ≤ x3 ∧ x3 < 256) :
    Calls Tryd.prog 52 #[.slice (some ⟨g, o, none⟩) n c] w fun e w' => e = .returned (.int .u32 (w4 x0 x1 x2 x3)) ∧ Drew w w' := by
  have hor := w4_or x0 x1 x2 x3 b0 b1 b2 b3
  have hz0 : (0 : Int) < (n : Int) := by omega
  have hz1 : (1 : Int) < (n : Int) := by omega
  have hz2 : (2 : Int) < (n : Int) := by omega
  have hz3 : (3 : Int) < (n : Int) := by omega
  go_enter Tryd.func52, Tryd.ntmps52
  go_wp2
  go_quiet (fail)
  go_wp2
  go_ret
  exact ⟨rfl, (Drew.refl _).more _⟩

set_option maxRecDepth 100000 in
set_option maxHeartbeats 1000000 in
theorem put_any (g o n c : Nat) (L : List Value) (x : Int) (T : TypeId) (w : World) (hn : 4 ≤ n) (hB : Blk T w g L) (hl : o + 4 ≤ L.length) (hx : 0 ≤ x ∧ x < 4294967296) :
    Calls Tryd.prog 45 #[.slice (some ⟨g, o, none⟩) n c, .int .u32 x] w fun e w' => e = .returned (.tuple #[]) ∧ w' = w.setCells g o [.int .u8 (x / 16777216), .int .u8 (x / 65536 % 256), .int .u8 (x / 256 % 256), .int .u8 (x % 256)] := by
  have hz0 : (0 : Int) < (n : Int) := by omega
  have hz1 : (1 : Int) < (n : Int) := by omega
  have hz2 : (2 : Int) < (n : Int) := by omega
  have hz3 : (3 : Int) < (n : Int) := by omega
  have c0 := hB.cell o
  have c1 := hB.cell (o + 1)
  have c2 := hB.cell (o + 2)
  have c3 := hB.cell (o + 3)
  rw [List.getElem?_eq_getElem (by omega)] at c0 c1 c2 c3
  have f0 := hB.frozen o
  have f1 := hB.frozen (o + 1)
  have f2 := hB.frozen (o + 2)
  have f3 := hB.frozen (o + 3)
  generalize L[o] = v0 at *
  generalize L[o + 1] = v1 at *
  generalize L[o + 2] = v2 at *
  generalize L[o + 3] = v3 at *
  clear hB
  go_enter Tryd.func45, Tryd.ntmps45
  go_wp2
  go_end0
  exact ⟨rfl, rfl⟩

end Go.Proofs.YtgajejomibnghaaDoor
