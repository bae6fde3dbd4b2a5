/-
  The sum of bytes (a register of 32 bits), by its definition, and its laws. No program.
-/
import Derived.WalkKit
import Derived.Laws.BitsAllLaws
namespace Go.Proofs.YtilkbjohekhjcaaDoor
open Go.RowKit Go.IntWalk

abbrev W32 := BitVec 32

/-- One bit falls off. -/
def stp (r : W32) : W32 := (r >>> 1) ^^^ (if r.getLsbD 0 then 0xedb88320#32 else 0#32)
def stpN : Nat → W32 → W32
  | 0, r => r
  | n + 1, r => stpN n (stp r)

theorem stp_xor (a b : W32) : stp (a ^^^ b) = stp a ^^^ stp b := by
  unfold stp
  rw [BitVec.getLsbD_xor, BitVec.ushiftRight_xor_distrib]
  cases a.getLsbD 0 <;> cases b.getLsbD 0 <;> simp
  · rw [BitVec.xor_assoc]
  · rw [BitVec.xor_assoc, BitVec.xor_assoc, BitVec.xor_comm (b >>> 1)]
  · rw [BitVec.xor_assoc, ← BitVec.xor_assoc (0xedb88320#32), BitVec.xor_comm (0xedb88320#32), BitVec.xor_assoc (b >>> 1), BitVec.xor_self, BitVec.xor_zero]

theorem stp_zero : stp 0#32 = 0#32 := by decide

theorem stpN_xor : ∀ (n : Nat) (a b : W32), stpN n (a ^^^ b) = stpN n a ^^^ stpN n b
  | 0, _, _ => rfl
  | n + 1, a, b => by simp only [stpN, stp_xor]; exact stpN_xor n _ _

theorem stpN_zero : ∀ n : Nat, stpN n 0#32 = 0#32
  | 0 => rfl
  | n + 1 => by rw [stpN, stp_zero]; exact stpN_zero n

theorem stpN_add : ∀ (m n : Nat) (r : W32), stpN (m + n) r = stpN n (stpN m r)
  | 0, n, r => by rw [Nat.zero_add]; rfl
  | m + 1, n, r => by rw [show m + 1 + n = (m + n) + 1 by omega, stpN, stpN, stpN_add m n]

/-- The table of what four bits make. -/
def tabL : List Int := [0, 498536548, 997073096, 651767980, 1994146192, 1802195444, 1303535960, 1342533948, 3988292384, 4027552580, 3604390888, 3412177804, 2607071920, 2262029012, 2685067896, 3183342108]

theorem tab_ok : ∀ k : Fin 16, (tabL.getD k.1 0) = ((stpN 4 (BitVec.ofNat 32 k.1)).toNat : Int) := by decide

theorem stp_even (a : W32) (h : a.getLsbD 0 = false) : stp a = a >>> 1 := by
  unfold stp; rw [h]; simp

theorem stp4_hi (a : W32) (h : ∀ i, i < 4 → a.getLsbD i = false) : stpN 4 a = a >>> 4 := by
  have h0 := h 0 (by omega)
  have h1 := h 1 (by omega)
  have h2 := h 2 (by omega)
  have h3 := h 3 (by omega)
  simp only [stpN]
  rw [stp_even a h0, stp_even (a >>> 1) (by simpa using h1), stp_even (a >>> 1 >>> 1) (by simpa using h2), stp_even (a >>> 1 >>> 1 >>> 1) (by simpa using h3)]
  simp [← BitVec.shiftRight_add]

theorem and15 (r : W32) : (r &&& 15#32).toNat = r.toNat % 16 := by
  rw [BitVec.toNat_and]
  exact Nat.and_two_pow_sub_one_eq_mod (n := 4) r.toNat

/-- Four bits at a time. -/
theorem stp4 (r : W32) : stpN 4 r = (r >>> 4) ^^^ stpN 4 (BitVec.ofNat 32 (r.toNat % 16)) := by
  have e : r = (r ^^^ (r &&& 15#32)) ^^^ (r &&& 15#32) := by rw [BitVec.xor_assoc, BitVec.xor_self, BitVec.xor_zero]
  have e2 : BitVec.ofNat 32 (r.toNat % 16) = r &&& 15#32 := by
    apply BitVec.eq_of_toNat_eq
    rw [and15, BitVec.toNat_ofNat, Nat.mod_eq_of_lt (by have := Nat.mod_lt r.toNat (show 0 < 16 by omega); omega)]
  have hb : ∀ i, i < 4 → (r ^^^ (r &&& 15#32)).getLsbD i = false := by
    intro i hi
    have : (15#32).getLsbD i = true := by
      rcases (show i = 0 ∨ i = 1 ∨ i = 2 ∨ i = 3 by omega) with rfl | rfl | rfl | rfl <;> decide
    rw [BitVec.getLsbD_xor, BitVec.getLsbD_and, this]; simp
  have hs : (r ^^^ (r &&& 15#32)) >>> 4 = r >>> 4 := by
    rw [BitVec.ushiftRight_xor_distrib, BitVec.ushiftRight_and_distrib, show (15#32) >>> 4 = 0#32 by decide, BitVec.and_zero, BitVec.xor_zero]
  rw [e2, ← hs, ← stp4_hi _ hb, ← stpN_xor, ← e]

/-- A byte. -/
def byt (r : W32) (x : Int) : W32 := stpN 8 (r ^^^ BitVec.ofInt 32 x)
def reg (r : W32) (xs : List Int) : W32 := xs.foldl byt r
/-- The register as a number; the sum. -/
def num32 (r : W32) : Int := (r.toNat : Int)
def sumS (xs : List Int) : Int := num32 (~~~ reg (BitVec.allOnes 32) xs)

theorem reg_append (r : W32) (xs ys : List Int) : reg r (xs ++ ys) = reg (reg r xs) ys := List.foldl_append ..
theorem reg_cons (r : W32) (x : Int) (xs : List Int) : reg r (x :: xs) = reg (byt r x) xs := rfl

theorem num32_bd (r : W32) : 0 ≤ num32 r ∧ num32 r < 4294967296 := by unfold num32; have := r.isLt; omega
theorem num32_inj {a b : W32} (h : num32 a = num32 b) : a = b := BitVec.eq_of_toNat_eq (by unfold num32 at h; omega)
theorem ofInt_num (r : W32) : BitVec.ofInt 32 (num32 r) = r := by unfold num32; simp
theorem num_ofInt (x : Int) (h : 0 ≤ x ∧ x < 4294967296) : num32 (BitVec.ofInt 32 x) = x := by
  unfold num32
  rw [BitVec.toNat_ofInt]
  omega

theorem xor_num (a b : W32) : bits .xor .u32 (num32 a) (num32 b) = num32 (a ^^^ b) := by
  show IntKind.u32.wrap ((BitVec.ofInt 32 (num32 a) ^^^ BitVec.ofInt 32 (num32 b)).toNat : Int) = _
  rw [ofInt_num, ofInt_num, IntKind.wrap_u32']
  have := num32_bd (a ^^^ b)
  unfold num32 at this ⊢
  omega
theorem and_num (a : W32) : bits .and .u32 (num32 a) 15 = ((a.toNat % 16 : Nat) : Int) := by
  show IntKind.u32.wrap ((BitVec.ofInt 32 (num32 a) &&& BitVec.ofInt 32 15).toNat : Int) = _
  rw [ofInt_num, show BitVec.ofInt 32 15 = 15#32 by decide, and15, IntKind.wrap_u32']
  omega
theorem shr_num (a : W32) (n : Nat) : num32 a / 2 ^ n = num32 (a >>> n) := by
  unfold num32
  rw [BitVec.toNat_ushiftRight, Nat.shiftRight_eq_div_pow]
  norm_cast

theorem nib_num (a : W32) : bits .xor .u32 (num32 a / 16) (tabL.getD (a.toNat % 16) 0) = num32 (stpN 4 a) := by
  have := tab_ok ⟨a.toNat % 16, Nat.mod_lt _ (by omega)⟩
  simp only at this
  have e0 : num32 a / (16 : Int) = num32 (a >>> 4) := shr_num a 4
  rw [this, e0]
  have e : ((stpN 4 (BitVec.ofNat 32 (a.toNat % 16))).toNat : Int) = num32 (stpN 4 (BitVec.ofNat 32 (a.toNat % 16))) := rfl
  rw [e, xor_num, ← stp4]

theorem byt_num (r : W32) (x : Int) : byt r x = stpN 4 (stpN 4 (r ^^^ BitVec.ofInt 32 x)) := by unfold byt; rw [show 8 = 4 + 4 from rfl, stpN_add]

theorem not_num (r : W32) : bits .xor .u32 IntKind.u32.max (num32 r) = num32 (~~~ r) := by
  have e : IntKind.u32.max = num32 (BitVec.allOnes 32) := by decide
  rw [e, xor_num]
  congr 1

end Go.Proofs.YtilkbjohekhjcaaDoor
