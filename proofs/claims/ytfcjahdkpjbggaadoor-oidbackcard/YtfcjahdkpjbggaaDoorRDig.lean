/-
  The document's Digits: the decimal digits of a number of 0 or more.
-/
import Derived.Test.YtfcjahdkpjbggaaDoorONum
import Derived.Lib.ItoaLen
namespace Go.Proofs.YtfcjahdkpjbggaaDoor
open Go.RowKit Go.IntWalk

theorem dec_step (u : Nat) (h : ¬ u < 10) : Lib.decDigits u = Lib.decDigits (u / 10) ++ [UInt8.ofNat (48 + u % 10)] := by
  rw [Lib.decDigits, dif_neg h]

theorem dec_len (u : Nat) (h : u ≤ 2147483647) : (Lib.decDigits u).length ≤ 21 := by
  have := Lib.itoa_length_le (u : Int) (by omega) (by omega)
  rwa [Lib.itoa_nonneg] at this

theorem one_cat (x : Int) (D : ByteArray) : (strOfNums [x] ++ D).data.toList = UInt8.ofNat x.toNat :: D.data.toList := by
  simp [strOfNums]

end Go.Proofs.YtfcjahdkpjbggaaDoor
