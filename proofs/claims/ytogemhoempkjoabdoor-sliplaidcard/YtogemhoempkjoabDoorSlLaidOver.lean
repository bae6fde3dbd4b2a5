/-
  The statement SlipLaid: its walk.
-/
import Derived.Test.YtogemhoempkjoabDoorSlWk
import Derived.Test.YtogemhoempkjoabDoorSlCut
import Derived.Deep.RegionHeld3
namespace Go.Proofs.YtogemhoempkjoabDoor
open Go.RowKit Go.IntWalk

theorem ofInt_xor8 (x y : Int) (hx : 0 ≤ x ∧ x < 256) (hy : 0 ≤ y ∧ y < 256) : BitVec.ofInt 32 (bits .xor .u8 x y) = BitVec.ofInt 32 x ^^^ BitVec.ofInt 32 y ∧ 0 ≤ bits .xor .u8 x y ∧ bits .xor .u8 x y < 256 := by
  obtain ⟨A, rfl⟩ := Int.eq_ofNat_of_zero_le hx.1
  obtain ⟨B, rfl⟩ := Int.eq_ofNat_of_zero_le hy.1
  have hlt : A ^^^ B < 256 := Nat.xor_lt_two_pow (n := 8) (by omega) (by omega)
  have h1 : (BitVec.ofInt 8 (A : Int)).toNat = A := by rw [BitVec.toNat_ofInt]; omega
  have h2 : (BitVec.ofInt 8 (B : Int)).toNat = B := by rw [BitVec.toNat_ofInt]; omega
  have e : bits .xor .u8 (A : Int) (B : Int) = ((A ^^^ B : Nat) : Int) := by
    show IntKind.u8.wrap ((BitVec.ofInt 8 (A : Int) ^^^ BitVec.ofInt 8 (B : Int)).toNat : Int) = _
    rw [BitVec.toNat_xor, h1, h2, IntKind.wrap_u8]
    omega
  rw [e]
  refine ⟨?_, by omega, by omega⟩
  apply BitVec.eq_of_toNat_eq
  rw [BitVec.toNat_xor, BitVec.toNat_ofInt, BitVec.toNat_ofInt, BitVec.toNat_ofInt]
  have a1 : ((A : Int) % ((2 ^ 32 : Nat) : Int)).toNat = A := by omega
  have a2 : ((B : Int) % ((2 ^ 32 : Nat) : Int)).toNat = B := by omega
  have a3 : (((A ^^^ B : Nat) : Int) % ((2 ^ 32 : Nat) : Int)).toNat = A ^^^ B := by omega
  rw [a1, a2, a3]

/-- Three rows, laid over one another. -/
def over3 : List Int → List Int → List Int → List Int
  | x :: xs, y :: ys, z :: zs => bits .xor .u8 (bits .xor .u8 x y) z :: over3 xs ys zs
  | _, _, _ => []

theorem byt_xor3 (p q r : W32) (x y z : Int) (hx : 0 ≤ x ∧ x < 256) (hy : 0 ≤ y ∧ y < 256) (hz : 0 ≤ z ∧ z < 256) : byt (p ^^^ q ^^^ r) (bits .xor .u8 (bits .xor .u8 x y) z) = byt p x ^^^ byt q y ^^^ byt r z := by
  obtain ⟨e1, e2⟩ := ofInt_xor8 x y hx hy
  obtain ⟨e3, _⟩ := ofInt_xor8 _ z e2 hz
  unfold byt
  rw [e3, e1, ← stpN_xor, ← stpN_xor]
  congr 1
  generalize BitVec.ofInt 32 x = a
  generalize BitVec.ofInt 32 y = b
  generalize BitVec.ofInt 32 z = c
  ext i hi
  simp only [BitVec.getElem_xor]
  cases p[i] <;> cases q[i] <;> cases r[i] <;> cases a[i] <;> cases b[i] <;> cases c[i] <;> rfl

theorem reg_over : ∀ (xs ys zs : List Int) (p q r : W32), xs.length = ys.length → ys.length = zs.length → (∀ x ∈ xs, 0 ≤ x ∧ x < 256) → (∀ x ∈ ys, 0 ≤ x ∧ x < 256) → (∀ x ∈ zs, 0 ≤ x ∧ x < 256) → reg (p ^^^ q ^^^ r) (over3 xs ys zs) = reg p xs ^^^ reg q ys ^^^ reg r zs
  | [], [], [], _, _, _, _, _, _, _, _ => rfl
  | x :: xs, y :: ys, z :: zs, p, q, r, h1, h2, hx, hy, hz => by
    simp only [over3, reg_cons]
    rw [byt_xor3 p q r x y z (hx x (by simp)) (hy y (by simp)) (hz z (by simp))]
    exact reg_over xs ys zs _ _ _ (by simpa using h1) (by simpa using h2) (fun a ha => hx a (by simp [ha])) (fun a ha => hy a (by simp [ha])) (fun a ha => hz a (by simp [ha]))
  | [], _ :: _, _, _, _, _, h, _, _, _, _ => by simp at h
  | _ :: _, [], _, _, _, _, h, _, _, _, _ => by simp at h
  | [], [], _ :: _, _, _, _, _, h, _, _, _ => by simp at h
  | _ :: _, _ :: _, [], _, _, _, _, h, _, _, _ => by simp at h

theorem sum_over (xs ys zs : List Int) (h1 : xs.length = ys.length) (h2 : ys.length = zs.length) (hx : ∀ x ∈ xs, 0 ≤ x ∧ x < 256) (hy : ∀ x ∈ ys, 0 ≤ x ∧ x < 256) (hz : ∀ x ∈ zs, 0 ≤ x ∧ x < 256) :
    bits .xor .u32 (bits .xor .u32 (sumS xs) (sumS ys)) (sumS zs) = sumS (over3 xs ys zs) := by
  unfold sumS
  rw [xor_num, xor_num]
  have h := reg_over xs ys zs (BitVec.allOnes 32) (BitVec.allOnes 32) (BitVec.allOnes 32) h1 h2 hx hy hz
  rw [show BitVec.allOnes 32 ^^^ BitVec.allOnes 32 ^^^ BitVec.allOnes 32 = BitVec.allOnes 32 by decide] at h
  rw [h]
  congr 1
  generalize reg (BitVec.allOnes 32) xs = a
  generalize reg (BitVec.allOnes 32) ys = b
  generalize reg (BitVec.allOnes 32) zs = c
  ext i hi
  simp only [BitVec.getElem_xor, BitVec.getElem_not]
  cases a[i] <;> cases b[i] <;> cases c[i] <;> rfl

theorem over3_len : ∀ (xs ys zs : List Int), xs.length = ys.length → ys.length = zs.length → (over3 xs ys zs).length = xs.length
  | [], _, _, _, _ => by simp [over3]
  | x :: xs, y :: ys, z :: zs, h1, h2 => by simp [over3, over3_len xs ys zs (by simpa using h1) (by simpa using h2)]
  | _ :: _, [], _, h, _ => by simp at h
  | _ :: _, _ :: _, [], _, h => by simp at h

theorem over3_at : ∀ (xs ys zs : List Int) (i : Nat), i < xs.length → xs.length = ys.length → ys.length = zs.length → (over3 xs ys zs).getD i 0 = bits .xor .u8 (bits .xor .u8 (xs.getD i 0) (ys.getD i 0)) (zs.getD i 0)
  | [], _, _, _, h, _, _ => by simp at h
  | x :: xs, y :: ys, z :: zs, i, h, h1, h2 => by
    cases i with
    | zero => simp [over3]
    | succ i =>
      have := over3_at xs ys zs i (by simpa using h) (by simpa using h1) (by simpa using h2)
      simpa [over3] using this
  | _ :: _, [], _, _, _, h, _ => by simp at h
  | _ :: _, _ :: _, [], _, _, _, h => by simp at h

end Go.Proofs.YtogemhoempkjoabDoor
