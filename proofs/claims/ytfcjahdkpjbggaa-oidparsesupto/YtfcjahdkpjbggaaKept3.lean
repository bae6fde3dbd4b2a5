/-
  Layer 3's statements' own 'same', 'kept', 'names' over lists of numbers.
-/
import Derived.Test.YtfcjahdkpjbggaaRCmp
namespace Go.Proofs.Ytfcjahdkpjbggaa
open Go.RowKit Go.IntWalk

theorem cutA_zero (ao : Option Addr) (c : Nat) : cutA ao c 0 = ao := by
  unfold cutA
  split
  · rfl
  · cases ao with
    | none => rfl
    | some a => obtain ⟨b, o, s⟩ := a; cases s <;> simp [Addr.add]

theorem SrcI.head {w : World} {ao : Option Addr} {n c : Nat} {xs : List Int} (hs : SrcI w ao n c xs) (h : Nat) (hh : h ≤ n) : SrcI w ao h c (xs.take h) := by
  have := hs.cut 0 h (Nat.zero_le _) hh
  simpa [cutA_zero] using this

set_option maxRecDepth 100000 in
set_option maxHeartbeats 1000000 in
theorem same_any (a1 : Option Addr) (n1 c1 : Nat) (xs : List Int) (a2 : Option Addr) (n2 c2 : Nat) (ys : List Int) (w : World) (h1 : SrcI w a1 n1 c1 xs) (h2 : SrcI w a2 n2 c2 ys) :
    Calls Try.prog 34 #[.slice a1 n1 c1, .slice a2 n2 c2] w fun e w' => e = .returned (.bool (cmpS xs ys == 0)) ∧ Drawn w w' := by
  go_enter Try.func34, Try.ntmps34
  go_wp2_with fail
  refine (refCmp_any _ _ _ xs _ _ _ ys _ h1 h2).mono ?_
  rintro e w1 ⟨rfl, hD⟩
  go_wp2
  go_ret
  exact ⟨rfl, hD⟩

theorem sameI_true (a1 : Option Addr) (n1 c1 : Nat) (xs : List Int) (a2 : Option Addr) (n2 c2 : Nat) (w : World) (h1 : SrcI w a1 n1 c1 xs) (h2 : SrcI w a2 n2 c2 xs) :
    Calls Try.prog 34 #[.slice a1 n1 c1, .slice a2 n2 c2] w fun e w' => e = .returned (.bool true) ∧ Drawn w w' := by
  refine (same_any a1 n1 c1 xs a2 n2 c2 xs w h1 h2).mono ?_
  rintro e w' ⟨rfl, hD⟩
  rw [cmpS_refl]
  exact ⟨rfl, hD⟩

theorem namesI_any (w : World) : Calls Try.prog 19 #[] w fun e w' => e = .returned (.bool true) ∧ w' = w := by
  go_enter Try.func19, Try.ntmps19
  go_wp2
  go_ret
  exact ⟨rfl, rfl⟩

end Go.Proofs.Ytfcjahdkpjbggaa
