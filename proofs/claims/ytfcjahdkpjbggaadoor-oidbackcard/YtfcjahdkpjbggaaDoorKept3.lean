/-
  Layer 3's statements' own 'same', 'kept', 'names' over lists of numbers.
-/
import Derived.Test.YtfcjahdkpjbggaaDoorRCmp
namespace Go.Proofs.YtfcjahdkpjbggaaDoor
open Go.RowKit Go.IntWalk

theorem cutA_zero (ao : Option Addr) (c : Nat) : cutA ao c 0 = ao := by
  unfold cutA
  split
  · rfl
  · cases ao with
    | none => rfl
    | some a => obtain ⟨b, o, s⟩ := a; cases s <;> simp [Addr.add]

theorem SrcI.head {w : World} {ao : Option Addr} {n c : Nat} {xs : List Int} (hs : SrcI w ao n c xs) (h : Nat) (hh : h ≤ n) : SrcI w ao h c (xs.take h) := by
  have := hs.cut 0 h (Nat.zero_le _) hh
  simpa [cutA_zero] using this

end Go.Proofs.YtfcjahdkpjbggaaDoor
