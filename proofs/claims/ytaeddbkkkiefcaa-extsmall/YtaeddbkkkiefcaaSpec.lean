/-
  The element with which bytes begin, as a plain function of the bytes: its tag, where its content begins and ends, or the error's number. No Go, no program.
-/
import Derived.Laws.BitsAllLaws
import Derived.Laws.BitsLemmas
import Derived.IntWalk
import Derived.Test.YtaeddbkkkiefcaaMath
namespace Go.Proofs.Ytaeddbkkkiefcaa

def isTagB (t : Int) : Bool := decide (0 ≤ t ∧ t ≤ 255 ∧ t % 32 ≠ 31)

def numOf (ds : List Int) : Int := ds.foldl (fun n d => n * 256 + d) 0

theorem numOf_snoc (ds : List Int) (d : Int) : numOf (ds ++ [d]) = numOf ds * 256 + d := by simp [numOf, List.foldl_append]

theorem numOf_bd : ∀ (k : Nat) (ds : List Int), ds.length = k → (∀ x ∈ ds, 0 ≤ x ∧ x < 256) → 0 ≤ numOf ds ∧ numOf ds < 256 ^ k := by
  intro k
  induction k with
  | zero => intro ds hl _; obtain rfl := List.eq_nil_of_length_eq_zero hl; simp [numOf]
  | succ k ih =>
    intro ds hl hb
    rcases List.eq_nil_or_concat ds with rfl | ⟨r, d, rfl⟩
    · simp at hl
    · simp only [List.concat_eq_append] at *
      have h1 := ih r (by simp at hl; omega) (fun x hx => hb x (by simp [hx]))
      have h2 := hb d (by simp)
      rw [numOf_snoc, Int.pow_succ]
      omega

/-- The number and the size of the length with which bytes begin, or the error's number; there is a first byte. -/
def takeLenS (xs : List Int) : Int × Int × Int :=
  if xs.getD 0 0 ≤ 127 then (xs.getD 0 0, 1, 0)
  else if xs.getD 0 0 = 128 ∨ 131 < xs.getD 0 0 then (0, 0, 12)
  else if 1 < xs.length ∧ xs.getD 1 0 = 0 then (0, 0, 12)
  else if (xs.length : Int) < 1 + (xs.getD 0 0 - 128) then (0, 0, 10)
  else if numOf ((xs.drop 1).take (xs.getD 0 0 - 128).toNat) ≤ 127 then (0, 0, 12)
  else (numOf ((xs.drop 1).take (xs.getD 0 0 - 128).toNat), 1 + (xs.getD 0 0 - 128), 0)

/-- Tag, the content's places, the error's number. -/
def findS (xs : List Int) : Int × Int × Int × Int :=
  if xs.length = 0 then (0, 0, 0, 10)
  else if isTagB (xs.getD 0 0) = false then (0, 0, 0, 11)
  else if xs.length = 1 then (0, 0, 0, 10)
  else if (takeLenS (xs.drop 1)).2.2 ≠ 0 then (0, 0, 0, (takeLenS (xs.drop 1)).2.2)
  else if (xs.length : Int) - (1 + (takeLenS (xs.drop 1)).2.1) < (takeLenS (xs.drop 1)).1 then (0, 0, 0, 10)
  else (xs.getD 0 0, 1 + (takeLenS (xs.drop 1)).2.1, 1 + (takeLenS (xs.drop 1)).2.1 + (takeLenS (xs.drop 1)).1, 0)

theorem and31 (n : Int) : bits .and .i64 n 31 = n % 32 := by
  have h31 : (BitVec.ofInt 64 31).toNat = 2 ^ 5 - 1 := by decide
  have key : (BitVec.ofInt 64 n &&& BitVec.ofInt 64 31).toNat = (n % ((2 ^ 64 : Nat) : Int)).toNat % 2 ^ 5 := by
    rw [BitVec.toNat_and, BitVec.toNat_ofInt, h31, Nat.and_two_pow_sub_one_eq_mod]
  show IntKind.i64.wrap ((BitVec.ofInt 64 n &&& BitVec.ofInt 64 31).toNat : Nat) = n % 32
  rw [key, IntKind.wrap_i64]
  omega

theorem or256 (n d : Int) (h0 : 0 ≤ n) (h1 : n < 1099511627776) (h2 : 0 ≤ d) (h3 : d < 256) : bits .or .i64 (n * 256) d = n * 256 + d := by
  obtain ⟨A, rfl⟩ := Int.eq_ofNat_of_zero_le h0
  obtain ⟨B, rfl⟩ := Int.eq_ofNat_of_zero_le h2
  have e : ((A : Int) * 256) = ((A * 256 : Nat) : Int) := by omega
  rw [e]
  show IntKind.i64.wrap ((BitVec.ofInt 64 ((A * 256 : Nat) : Int) ||| BitVec.ofInt 64 (B : Int)).toNat : Int) = _
  rw [BitVec.toNat_or, BitVec.ofInt_natCast, BitVec.ofInt_natCast, BitVec.toNat_ofNat, BitVec.toNat_ofNat, Nat.mod_eq_of_lt (by omega), Nat.mod_eq_of_lt (by omega), nat_join 8 _ _ (by omega) (by omega), IntKind.wrap_i64]
  omega

end Go.Proofs.Ytaeddbkkkiefcaa
