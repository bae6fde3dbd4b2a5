/-
  Bytes, cut at their head or their end; what the append laws are told of the row that they hand on. No program.
-/
import Derived.Test.YtilkbjohekhjcaaDoorMore
namespace Go.Proofs.YtilkbjohekhjcaaDoor
open Go.RowKit Go.IntWalk

theorem cutA_zero (ao : Option Addr) (c : Nat) : cutA ao c 0 = ao := by
  unfold cutA
  split
  · rfl
  · cases ao with
    | none => rfl
    | some a => obtain ⟨b, o, s⟩ := a; cases s <;> simp [Addr.add]

theorem Src.head {w : World} {ao : Option Addr} {n c : Nat} {xs : List Int} (hs : Src w ao n c xs) (h : Nat) (hh : h ≤ n) : Src w ao h c (xs.take h) := by
  have := hs.cut 0 h (Nat.zero_le _) hh
  simpa [cutA_zero] using this

theorem Src.tail {w : World} {ao : Option Addr} {n c : Nat} {xs : List Int} (hs : Src w ao n c xs) (h : Nat) (hh : h ≤ n) : Src w (cutA ao c h) (n - h) (c - h) (xs.drop h) := by
  have := hs.cut h n hh (Nat.le_refl _)
  rwa [List.take_of_length_le (by rw [hs.hlen]; exact Nat.le_refl _)] at this

theorem own_ge {a n c b : Nat} (h : b ≤ a) : ∀ k, (Value.slice (some ⟨a, 0, none⟩) n c).ownBlock = some k → b ≤ k := by intro k hk; cases hk; exact h
theorem some_ge {a b : Nat} (h : b ≤ a) : ∀ k, some a = some k → b ≤ k := by intro k hk; cases hk; exact h

end Go.Proofs.YtilkbjohekhjcaaDoor
