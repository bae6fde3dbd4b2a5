/-
  NatSums answers true at any two numbers, and writes nothing that was there.
-/
import Derived.Test.YtobdpcmafjhnlaaNMul
import Derived.Test.YtobdpcmafjhnlaaNLaw
namespace Go.Proofs.Ytobdpcmafjhnlaa
open Go.RowKit Go.IntWalk

theorem GotG.apart {w1 w2 : World} {b1 : Nat} {v1 v2 : Value} {zs ys : List Int} (h1 : GotG .u64 18446744073709551616 52 w1 b1 v1 zs) (h2 : GotG .u64 18446744073709551616 52 w2 w1.heap.size v2 ys) : v1.ownBlock ≠ v2.ownBlock := by
  obtain ⟨g1, rfl, _, l1⟩ := h1.shape
  obtain ⟨g2, rfl, l2, _⟩ := h2.shape
  simp [Value.ownBlock]
  omega

theorem GotG.row {w : World} {b1 : Nat} {v1 : Value} {zs : List Int} (h1 : GotG .u64 18446744073709551616 52 w b1 v1 zs) : ∀ k, v1.ownBlock = some k → b1 ≤ k := by
  obtain ⟨g1, rfl, l1, _⟩ := h1.shape
  intro k hk
  simp [Value.ownBlock] at hk
  omega

end Go.Proofs.Ytobdpcmafjhnlaa
