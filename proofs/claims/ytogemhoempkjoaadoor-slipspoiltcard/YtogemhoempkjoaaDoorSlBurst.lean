/-
  Bits that are turned within 32 that follow one another change the sum. No program.
-/
import Derived.Test.YtogemhoempkjoaaDoorSlEq
namespace Go.Proofs.YtogemhoempkjoaaDoor
open Go.RowKit Go.IntWalk

theorem stp_ker (c : W32) (h : stp c = 0#32) : c = 0#32 := by
  unfold stp at h
  cases hb : c.getLsbD 0 with
  | false =>
    rw [hb] at h
    simp only [Bool.false_eq_true, if_false, BitVec.xor_zero] at h
    apply BitVec.eq_of_getLsbD_eq
    intro i hi
    cases i with
    | zero => simpa using hb
    | succ i =>
      have := congrArg (fun v : W32 => v.getLsbD i) h
      simpa [BitVec.getLsbD_ushiftRight, Nat.add_comm] using this
  | true =>
    rw [hb] at h
    have := congrArg (fun v : W32 => v.getLsbD 31) h
    simp only [if_true, BitVec.getLsbD_xor, BitVec.getLsbD_ushiftRight] at this
    have h1 : c.getLsbD (1 + 31) = false := BitVec.getLsbD_of_ge _ _ (by omega)
    rw [h1] at this
    exact absurd this (by decide)
theorem stpN_ker : ∀ (n : Nat) (c : W32), stpN n c = 0#32 → c = 0#32
  | 0, _, h => h
  | n + 1, c, h => stp_ker c (stpN_ker n _ h)

theorem reg_xor : ∀ (ys : List Int) (a d : W32), reg (a ^^^ d) ys = reg a ys ^^^ stpN (8 * ys.length) d
  | [], a, d => rfl
  | y :: ys, a, d => by
    rw [reg_cons, reg_cons]
    have e : byt (a ^^^ d) y = byt a y ^^^ stpN 8 d := by
      unfold byt
      rw [← stpN_xor]
      congr 1
      rw [BitVec.xor_assoc, BitVec.xor_assoc, BitVec.xor_comm d]
    rw [e, reg_xor ys, ← stpN_add, List.length_cons, show 8 + 8 * ys.length = 8 * (ys.length + 1) by omega]

theorem stp_pow : ∀ i : Fin 32, stpN i.1 (BitVec.ofNat 32 (2 ^ i.1)) = 1#32 := by decide +kernel

/-- One bit, turned. -/
def flipB (xs : List Int) (p : Nat) : List Int := xs.set (p / 8) (bits .xor .u8 (xs.getD (p / 8) 0) ((2 ^ (p % 8) : Nat) : Int))

theorem xor8_ofInt (x y : Int) (hx : 0 ≤ x ∧ x < 256) (hy : 0 ≤ y ∧ y < 256) : BitVec.ofInt 32 (bits .xor .u8 x y) = BitVec.ofInt 32 x ^^^ BitVec.ofInt 32 y ∧ 0 ≤ bits .xor .u8 x y ∧ bits .xor .u8 x y < 256 := by
  obtain ⟨A, rfl⟩ := Int.eq_ofNat_of_zero_le hx.1
  obtain ⟨B, rfl⟩ := Int.eq_ofNat_of_zero_le hy.1
  have hlt : A ^^^ B < 256 := Nat.xor_lt_two_pow (n := 8) (by omega) (by omega)
  have h1 : (BitVec.ofInt 8 (A : Int)).toNat = A := by rw [BitVec.toNat_ofInt]; omega
  have h2 : (BitVec.ofInt 8 (B : Int)).toNat = B := by rw [BitVec.toNat_ofInt]; omega
  have e : bits .xor .u8 (A : Int) (B : Int) = ((A ^^^ B : Nat) : Int) := by
    show IntKind.u8.wrap ((BitVec.ofInt 8 (A : Int) ^^^ BitVec.ofInt 8 (B : Int)).toNat : Int) = _
    rw [BitVec.toNat_xor, h1, h2, IntKind.wrap_u8]
    omega
  rw [e]
  refine ⟨?_, by omega, by omega⟩
  apply BitVec.eq_of_toNat_eq
  rw [BitVec.toNat_xor, BitVec.toNat_ofInt, BitVec.toNat_ofInt, BitVec.toNat_ofInt]
  have a1 : ((A : Int) % ((2 ^ 32 : Nat) : Int)).toNat = A := by omega
  have a2 : ((B : Int) % ((2 ^ 32 : Nat) : Int)).toNat = B := by omega
  have a3 : (((A ^^^ B : Nat) : Int) % ((2 ^ 32 : Nat) : Int)).toNat = A ^^^ B := by omega
  rw [a1, a2, a3]

theorem pow8 (j : Nat) (hj : j < 8) : (0 : Int) ≤ ((2 ^ j : Nat) : Int) ∧ ((2 ^ j : Nat) : Int) < 256 := by
  have h : 2 ^ j < 256 := Nat.pow_lt_pow_right (show 1 < 2 by omega) hj
  exact ⟨Int.natCast_nonneg _, show ((2 ^ j : Nat) : Int) < ((256 : Nat) : Int) from Int.ofNat_lt.2 h⟩

theorem byt_flip (r : W32) (x : Int) (j : Nat) (hx : 0 ≤ x ∧ x < 256) (hj : j < 8) : byt r (bits .xor .u8 x ((2 ^ j : Nat) : Int)) = byt r x ^^^ stpN (8 - j) 1#32 := by
  have h := stp_pow ⟨j, by omega⟩
  unfold byt
  rw [(xor8_ofInt x _ hx (pow8 j hj)).1, ← BitVec.xor_assoc, stpN_xor]
  congr 1
  rw [← h, ← stpN_add, show j + (8 - j) = 8 by omega, BitVec.ofInt_natCast]

theorem reg_flip : ∀ (xs : List Int) (r : W32) (p : Nat), (∀ x ∈ xs, 0 ≤ x ∧ x < 256) → p < 8 * xs.length → reg r (flipB xs p) = reg r xs ^^^ stpN (8 * xs.length - p) 1#32
  | [], _, p, _, h => by simp at h
  | x :: xs, r, p, hx, h => by
    rcases Nat.lt_or_ge p 8 with hp | hp
    · have h0 : p / 8 = 0 := by omega
      have h1 : p % 8 = p := by omega
      unfold flipB
      rw [h0, h1]
      simp only [List.set_cons_zero, List.getD_cons_zero]
      rw [reg_cons, reg_cons, byt_flip r x p (hx x (by simp)) hp, reg_xor, ← stpN_add]
      congr 2
      simp only [List.length_cons]
      omega
    · obtain ⟨q, rfl⟩ : ∃ q, p = q + 8 := ⟨p - 8, by omega⟩
      have ih := reg_flip xs (byt r x) q (fun a ha => hx a (by simp [ha])) (by simp at h; omega)
      have e : flipB (x :: xs) (q + 8) = x :: flipB xs q := by
        unfold flipB
        rw [show (q + 8) / 8 = q / 8 + 1 by omega, show (q + 8) % 8 = q % 8 by omega]
        simp
      rw [e, reg_cons, reg_cons, ih]
      congr 2
      simp only [List.length_cons]
      omega

theorem flip_len (xs : List Int) (p : Nat) : (flipB xs p).length = xs.length := by simp [flipB]
theorem flip_bd (xs : List Int) (p : Nat) (hx : ∀ x ∈ xs, 0 ≤ x ∧ x < 256) : ∀ x ∈ flipB xs p, 0 ≤ x ∧ x < 256 := by
  intro x h
  unfold flipB at h
  rcases List.mem_or_eq_of_mem_set h with h | h
  · exact hx x h
  · rw [h]; exact (xor8_ofInt _ _ (byte_bd hx _) (pow8 _ (Nat.mod_lt _ (by omega)))).2
theorem flip_at (xs : List Int) (p i : Nat) (h : p / 8 ≠ i) : (flipB xs p).getD i 0 = xs.getD i 0 := by
  unfold flipB
  simp [List.getD, h]

/-- The four bytes of a word take the register to one place if they are its turned bits. -/
theorem low8 (c : W32) : BitVec.ofInt 32 (num32 c % 256) = c &&& 255#32 := by
  apply BitVec.eq_of_toNat_eq
  rw [BitVec.toNat_and, BitVec.toNat_ofInt]
  have h : c.toNat &&& (255#32).toNat = c.toNat % 256 := Nat.and_two_pow_sub_one_eq_mod (n := 8) c.toNat
  rw [h]
  unfold num32
  omega
theorem stp8_hi (a : W32) (h : ∀ i, i < 8 → a.getLsbD i = false) : stpN 8 a = a >>> 8 := by
  rw [show 8 = 4 + 4 from rfl, stpN_add, stp4_hi a (fun i hi => h i (by omega)), stp4_hi (a >>> 4) (fun i hi => by rw [BitVec.getLsbD_ushiftRight]; exact h _ (by omega))]
  rw [← BitVec.shiftRight_add]
theorem byt_low (r c : W32) : stpN 8 (r ^^^ c) = byt r (num32 c % 256) ^^^ (c >>> 8) := by
  have e : c = (c &&& 255#32) ^^^ (c ^^^ (c &&& 255#32)) := by rw [BitVec.xor_comm c, ← BitVec.xor_assoc, BitVec.xor_self, BitVec.zero_xor]
  have hb : ∀ i, i < 8 → (c ^^^ (c &&& 255#32)).getLsbD i = false := by
    intro i hi
    have : (255#32).getLsbD i = true := by
      rcases (show i = 0 ∨ i = 1 ∨ i = 2 ∨ i = 3 ∨ i = 4 ∨ i = 5 ∨ i = 6 ∨ i = 7 by omega) with rfl | rfl | rfl | rfl | rfl | rfl | rfl | rfl <;> decide
    rw [BitVec.getLsbD_xor, BitVec.getLsbD_and, this]; simp
  have hs : (c ^^^ (c &&& 255#32)) >>> 8 = c >>> 8 := by
    rw [BitVec.ushiftRight_xor_distrib, BitVec.ushiftRight_and_distrib, show (255#32) >>> 8 = 0#32 by decide, BitVec.and_zero, BitVec.xor_zero]
  unfold byt
  rw [low8, ← hs, ← stp8_hi _ hb, ← stpN_xor, BitVec.xor_assoc, ← e]
theorem num_shr8 (c : W32) : num32 (c >>> 8) = num32 c / 256 := (shr_num c 8).symm
theorem reg_word (r c : W32) : reg r (le4b (num32 c)) = stpN 32 (r ^^^ c) := by
  have h1 := byt_low r c
  have h2 := byt_low (byt r (num32 c % 256)) (c >>> 8)
  have h3 := byt_low (byt (byt r (num32 c % 256)) (num32 (c >>> 8) % 256)) (c >>> 8 >>> 8)
  have h4 := byt_low (byt (byt (byt r (num32 c % 256)) (num32 (c >>> 8) % 256)) (num32 (c >>> 8 >>> 8) % 256)) (c >>> 8 >>> 8 >>> 8)
  have hz : c >>> 8 >>> 8 >>> 8 >>> 8 = 0#32 := by
    rw [← BitVec.shiftRight_add, ← BitVec.shiftRight_add, ← BitVec.shiftRight_add]
    apply BitVec.eq_of_toNat_eq
    rw [BitVec.toNat_ushiftRight, Nat.shiftRight_eq_div_pow]
    have := c.isLt
    simp
    omega
  have e32 : stpN 32 (r ^^^ c) = stpN 8 (stpN 8 (stpN 8 (stpN 8 (r ^^^ c)))) := by rw [← stpN_add, ← stpN_add, ← stpN_add]
  rw [e32, h1, h2, h3, h4, hz, BitVec.xor_zero]
  simp only [num_shr8]
  have hb := num32_bd c
  unfold le4b reg
  simp only [List.foldl_cons, List.foldl_nil]
  rw [show num32 c / 256 / 256 = num32 c / 65536 by omega, show num32 c / 65536 / 256 = num32 c / 16777216 by omega]

/-- The register behind a slip's bytes, its sum too, is always one. -/
theorem reg_slip (body : List Int) : reg (BitVec.allOnes 32) (body ++ le4b (sumS body)) = stpN 32 (BitVec.allOnes 32) := by
  rw [reg_append]
  unfold sumS
  rw [reg_word]
  congr 1
  generalize reg (BitVec.allOnes 32) body = a
  show a ^^^ (BitVec.allOnes 32 ^^^ a) = BitVec.allOnes 32
  rw [BitVec.xor_comm (BitVec.allOnes 32), ← BitVec.xor_assoc, BitVec.xor_self, BitVec.zero_xor]

/-- What lies within 32 bits changes the register. -/
theorem burst (xs ys : List Int) (N : Nat) (A : W32) (h : reg (BitVec.allOnes 32) ys = reg (BitVec.allOnes 32) xs ^^^ stpN N A) (hA : A ≠ 0#32) : reg (BitVec.allOnes 32) ys ≠ reg (BitVec.allOnes 32) xs := by
  intro e
  rw [e] at h
  have : stpN N A = 0#32 := by
    have := congrArg (fun v => reg (BitVec.allOnes 32) xs ^^^ v) h
    simp only [← BitVec.xor_assoc, BitVec.xor_self, BitVec.zero_xor] at this
    exact this.symm
  exact hA (stpN_ker N A this)

theorem spoilt (k : Int) (ds ys : List Int) (N : Nat) (A : W32) (hb : ∀ x ∈ ys, 0 ≤ x ∧ x < 256) (hd : ds.length ≤ 65535) (hl : ys.length = (slipB k ds).length) (h1 : ys.getD 1 0 = (slipB k ds).getD 1 0) (h2 : ys.getD 2 0 = (slipB k ds).getD 2 0)
    (h : reg (BitVec.allOnes 32) ys = reg (BitVec.allOnes 32) (slipB k ds) ^^^ stpN N A) (hA : A ≠ 0#32) : findS ys = (0, 91) := by
  have hD : dataN ys = (ds.length : Int) := by
    have := dataN_slip k ds [] hd
    rw [List.append_nil] at this
    unfold dataN at this ⊢
    rw [h1, h2]
    exact this
  have hlen : ys.length = ds.length + 7 := by rw [hl, slipB_len]
  unfold findS
  rw [hD, if_neg (by omega), if_neg (by omega), Int.toNat_natCast, if_pos]
  intro hq
  have e := (slip_iff ys hb ds.length hD (by omega)).2 hq
  rw [show ys.take (ds.length + 7) = ys from List.take_of_length_le (by omega)] at e
  have k1 : reg (BitVec.allOnes 32) ys = stpN 32 (BitVec.allOnes 32) := by
    rw [← e]
    exact reg_slip _
  have k2 : reg (BitVec.allOnes 32) (slipB k ds) = stpN 32 (BitVec.allOnes 32) := reg_slip _
  exact burst (slipB k ds) ys N A h hA (k1.trans k2.symm)

/-- One more bit, of those within 32. -/
theorem burst_step (xs ys : List Int) (N i : Nat) (A : W32) (hN : N ≤ 8 * ys.length) (hi : i < 32) (hiN : i < N) (hb : ∀ x ∈ ys, 0 ≤ x ∧ x < 256) (hA : A.toNat < 2 ^ i) (h : reg (BitVec.allOnes 32) ys = reg (BitVec.allOnes 32) xs ^^^ stpN N A) :
    ∃ A' : W32, reg (BitVec.allOnes 32) (flipB ys (8 * ys.length - N + i)) = reg (BitVec.allOnes 32) xs ^^^ stpN N A' ∧ A' ≠ 0#32 ∧ A'.toNat < 2 ^ (i + 1) := by
  have hp := stp_pow ⟨i, hi⟩
  have hpl : 2 ^ i < 2 ^ 32 := Nat.pow_lt_pow_right (by omega) hi
  have hpn : (BitVec.ofNat 32 (2 ^ i)).toNat = 2 ^ i := by rw [BitVec.toNat_ofNat, Nat.mod_eq_of_lt hpl]
  refine ⟨A ^^^ BitVec.ofNat 32 (2 ^ i), ?_, ?_, ?_⟩
  · rw [reg_flip ys _ _ hb (by omega), h, stpN_xor, BitVec.xor_assoc]
    congr 2
    rw [show N = i + (N - i) by omega, stpN_add i (N - i) (BitVec.ofNat 32 (2 ^ i)), hp]
    congr 1
    omega
  · intro e
    have := congrArg BitVec.toNat e
    rw [BitVec.toNat_xor, hpn] at this
    have e2 : A.toNat = 2 ^ i := by
      have h3 : (A.toNat ^^^ 2 ^ i) ^^^ 2 ^ i = 0 ^^^ 2 ^ i := by rw [this]; rfl
      rw [Nat.xor_assoc, Nat.xor_self, Nat.xor_zero, Nat.zero_xor] at h3
      exact h3
    omega
  · rw [BitVec.toNat_xor, hpn]
    have := Nat.pow_succ (n := 2) (m := i)
    exact Nat.xor_lt_two_pow (by omega) (by omega)

end Go.Proofs.YtogemhoempkjoaaDoor
