/-
  NatProducts answers true at any two numbers, and writes nothing that was there.
-/
import Derived.Test.YtobdpcmafjhnlaaNSums
import Derived.Test.YtobdpcmafjhnlaaNRefMul
namespace Go.Proofs.Ytobdpcmafjhnlaa
open Go.RowKit Go.IntWalk

theorem refMulN_any (v1 v2 : Value) (x y : Int) (L1 L2 : Nat) (w : World) (k1 : NumD w v1 x L1) (k2 : NumD w v2 y L2) (l1 : L1 ≤ 20000) (l2 : L2 ≤ 20000) :
    Calls Try.prog 46 #[v1, v2] w fun e w' => ∃ v, e = .returned v ∧ NumD w' v (x * y) (L1 + L2 + 1) ∧ Below w.heap.size w w' := by
  obtain ⟨a1, n1, c1, xs, rfl, h1, t1, m1, vx⟩ := k1
  obtain ⟨a2, n2, c2, ys, rfl, h2, t2, m2, vy⟩ := k2
  refine (refMul_any a1 n1 c1 xs a2 n2 c2 ys w h1 h2 (by omega) (by omega)).mono ?_
  rintro e w1 ⟨v, rfl, ⟨ao, n, c, zs, he, hs, ht, hl, hv⟩, hB⟩
  exact ⟨v, rfl, ⟨ao, n, c, zs, he, hs, ht, by omega, by rw [hv, vx, vy]⟩, hB⟩

end Go.Proofs.Ytobdpcmafjhnlaa
