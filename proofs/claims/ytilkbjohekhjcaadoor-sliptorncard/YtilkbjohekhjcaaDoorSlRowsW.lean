/-
  The statement SlipRows: its walk.
-/
import Derived.Test.YtilkbjohekhjcaaDoorSlRowB
import Derived.Test.YtilkbjohekhjcaaDoorSlTakes
namespace Go.Proofs.YtilkbjohekhjcaaDoor
open Go.RowKit Go.Shelf Go.IntWalk
attribute [local go_sem] Oper.semAt_some

theorem placesF_len (xs : List Int) : ∀ f p, (placesF xs f p).length ≤ f
  | 0, _ => Nat.le_refl _
  | f + 1, p => by
    unfold placesF
    split
    · have := placesF_len xs f (p + (findS (xs.drop p)).1.toNat)
      simp only [List.length_cons]
      omega
    · simp

theorem seq2_none (w : World) (f : Nat) (c : Array Value) : (binOp .eql 37 (.func (.func f) #[] c) .nilFunc).run Tryd.prog w = .ok (.bool false) w := by
  have h : ∀ d : Nat, (Op.equalIn (d + 1) 37 (.func (.func f) #[] c) .nilFunc).run Tryd.prog w = .ok false w := fun d => by
    simp [Op.equalIn, run_underlying Tryd.underlying37]
  simp only [binOp]
  simp [Op.equal, Op.maxDepth, h 9999]

theorem each_none (X : World) (B : Nat) : (binOp .eql 37 (.func (.func 15) #[] #[.pointer (some ⟨B, 0, none⟩)]) .nilFunc).run Tryd.prog X = .ok (.bool false) X := seq2_none X _ _

end Go.Proofs.YtilkbjohekhjcaaDoor
