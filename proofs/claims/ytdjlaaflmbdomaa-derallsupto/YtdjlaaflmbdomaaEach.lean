/-
  der.Each: a function over a copy of the bytes.
-/
import Derived.Test.YtdjlaaflmbdomaaClone
import Derived.Test.YtdjlaaflmbdomaaAllBase
namespace Go.Proofs.Ytdjlaaflmbdomaa
open Go.RowKit Go.IntWalk

set_option maxRecDepth 100000 in
theorem each_any (ao : Option Addr) (n cap : Nat) (xs : List Int) (w : World) (hs : Src w ao n cap xs) (hN : n ≤ 140737488355328) :
    Calls Try.prog 10 #[.slice ao n cap] w fun e w' => ∃ ao' c' B, e = .returned (.func (.func 20) #[] #[.pointer (some ⟨B, 0, none⟩)]) ∧ OwnB w' w.heap.size (.slice ao' n c') xs ∧ w.heap.size ≤ B ∧ Boxed w' B 22 (.slice ao' n c') ∧ Below w.heap.size w w' := by
  go_enter Try.func10, Try.ntmps10
  go_wp2_with (go_at_call 19; refine (clone_any ao n cap xs _ hs hN).mono ?_; rintro e w1 ⟨ao', c', rfl, hO, B1⟩)
  go_ret
  exact ⟨ao', c', w1.heap.size, rfl, hO.alloc _, B1.size, Boxed.new w1 22 (.slice ao' n c'), B1.alloc B1.size _⟩

end Go.Proofs.Ytdjlaaflmbdomaa
