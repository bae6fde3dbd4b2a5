/-
  The document's Valid: how far a text is UTF-8.
-/
import Derived.Test.YtmfppbamgbfmpabBase
import Derived.Test.YtmfppbamgbfmpabMore
import Derived.Test.YtmfppbamgbfmpabTxM
namespace Go.Proofs.Ytmfppbamgbfmpab
open Go.RowKit Go.IntWalk

/-- Do so many bytes go on with a character? -/
def mores (l : List UInt8) : Nat → Bool
  | 0 => true
  | n + 1 => mores l n && ct l n

theorem mores_stop (l : List UInt8) (k : Nat) (h : ct l k = false) : ∀ n, k < n → mores l n = false
  | 0, hk => by omega
  | n + 1, hk => by
    unfold mores
    by_cases e : k = n
    · subst e; rw [h, Bool.and_false]
    · rw [mores_stop l k h n (by omega), Bool.false_and]

theorem mores_next (l : List UInt8) (k : Nat) (h : mores l k = true) (hc : ct l k = true) : mores l (k + 1) = true := by unfold mores; rw [h, hc]; rfl

/-- The byte at a place behind another one. -/
theorem byte_at (s : ByteArray) (a k : Nat) (h : a + k < s.size) : (s[a + k]'h).toNat = bt (s.data.toList.drop a) k := by
  rw [← get_bt, ByteArray.get!, getElem!_pos s.data (a + k) h]
  rfl

theorem len_at (s : ByteArray) (a : Nat) : (s.data.toList.drop a).length = s.size - a := by rw [List.length_drop, Array.length_toList]; rfl

end Go.Proofs.Ytmfppbamgbfmpab
