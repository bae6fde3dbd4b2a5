/-
  Layer 3's statements' own 'same', 'kept', 'names' over lists of numbers.
-/
import Derived.Test.YtibhlhfnddmelaaDoorRCmp
namespace Go.Proofs.YtibhlhfnddmelaaDoor
open Go.RowKit Go.IntWalk

theorem cutA_zero (ao : Option Addr) (c : Nat) : cutA ao c 0 = ao := by
  unfold cutA
  split
  · rfl
  · cases ao with
    | none => rfl
    | some a => obtain ⟨b, o, s⟩ := a; cases s <;> simp [Addr.add]

theorem SrcI.head {w : World} {ao : Option Addr} {n c : Nat} {xs : List Int} (hs : SrcI w ao n c xs) (h : Nat) (hh : h ≤ n) : SrcI w ao h c (xs.take h) := by
  have := hs.cut 0 h (Nat.zero_le _) hh
  simpa [cutA_zero] using this

set_option maxRecDepth 100000 in
set_option maxHeartbeats 1000000 in
theorem same_any (a1 : Option Addr) (n1 c1 : Nat) (xs : List Int) (a2 : Option Addr) (n2 c2 : Nat) (ys : List Int) (w : World) (h1 : SrcI w a1 n1 c1 xs) (h2 : SrcI w a2 n2 c2 ys) :
    Calls Tryd.prog 22 #[.slice a1 n1 c1, .slice a2 n2 c2] w fun e w' => e = .returned (.bool (cmpS xs ys == 0)) ∧ Drawn w w' := by
  go_enter Tryd.func22, Tryd.ntmps22
  go_wp2_with fail
  refine (refCmp_any _ _ _ xs _ _ _ ys _ h1 h2).mono ?_
  rintro e w1 ⟨rfl, hD⟩
  go_wp2
  go_ret
  exact ⟨rfl, hD⟩

theorem sameI_true (a1 : Option Addr) (n1 c1 : Nat) (xs : List Int) (a2 : Option Addr) (n2 c2 : Nat) (w : World) (h1 : SrcI w a1 n1 c1 xs) (h2 : SrcI w a2 n2 c2 xs) :
    Calls Tryd.prog 22 #[.slice a1 n1 c1, .slice a2 n2 c2] w fun e w' => e = .returned (.bool true) ∧ Drawn w w' := by
  refine (same_any a1 n1 c1 xs a2 n2 c2 xs w h1 h2).mono ?_
  rintro e w' ⟨rfl, hD⟩
  rw [cmpS_refl]
  exact ⟨rfl, hD⟩

set_option maxRecDepth 100000 in
set_option maxHeartbeats 1000000 in
theorem keptI_any (g n c : Nat) (ao : Option Addr) (cap : Nat) (xs : List Int) (w : World) (base : Nat) (hs : SrcI w ao n cap xs) (hn : n ≤ 17592186043904) (hc : n + 1 ≤ c) (hm : c ≤ maxLen)
    (ho : OwnI w base (.slice (some ⟨g, 0, none⟩) (n + 1) c) (xs ++ [-71])) :
    Calls Tryd.prog 12 #[.slice (some ⟨g, 0, none⟩) n c, .slice ao n cap] w fun e w' => e = .returned (.bool true) ∧ Drawn w w' := by
  have HL := hide hs.hlen
  have hall := ho.src (ys := xs ++ [-71]) (by intro x hx; simp at hx; rcases hx with hx | rfl; exact hs.hbyt x hx; omega) (n + 1) (Nat.le_refl _) (by rw [List.take_of_length_le (by simp; have := HL.out; omega)]) hm
  have hh : SrcI w (some ⟨g, 0, none⟩) n c xs := by
    have := hall.head n (by omega)
    rwa [List.take_append_of_le_length (by rw [HL.out]; exact Nat.le_refl _), List.take_of_length_le (by rw [HL.out]; exact Nat.le_refl _)] at this
  have hcell := ho.cell n (by simp; rw [HL.out]; omega)
  rw [show (xs ++ [(-71 : Int)]).getD n 0 = -71 by rw [List.getD, List.getElem?_append_right (by rw [HL.out]; exact Nat.le_refl _), HL.out]; simp] at hcell
  have hcI : (n : Int) + 1 ≤ (c : Int) := by omega
  have hnI : (n : Int) ≤ 17592186043904 := by omega
  have hw : IntKind.i64.wrap ((n : Int) + 1) = (n : Int) + 1 := i64_in _ (by omega)
  have hp : (0 : Int) ≤ (n : Int) + 1 := by omega
  go_enter Tryd.func12, Tryd.ntmps12
  go_wp2_with fail
  refine (sameI_true _ _ _ xs _ _ _ _ hh hs).mono ?_
  rintro e w1 ⟨rfl, hD⟩
  rw [← hD.cell] at hcell
  go_wp2
  go_ret
  exact ⟨rfl, hD⟩

theorem namesI_any (w : World) : Calls Tryd.prog 13 #[] w fun e w' => e = .returned (.bool true) ∧ w' = w := by
  go_enter Tryd.func13, Tryd.ntmps13
  go_wp2
  go_ret
  exact ⟨rfl, rfl⟩

end Go.Proofs.YtibhlhfnddmelaaDoor
