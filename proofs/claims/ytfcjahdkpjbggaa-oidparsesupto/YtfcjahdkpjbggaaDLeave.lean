/-
  oid.Decode reads a content as decS says.
-/
import Derived.Sort.QuietIn
import Derived.Test.YtfcjahdkpjbggaaDSt
namespace Go.Proofs.Ytfcjahdkpjbggaa
open Go.RowKit Go.Shelf Go.IntWalk
attribute [local go_sem] Oper.semAt_some

/-- Both results are written. -/
theorem DSt.fail {w : World} {ao : Option Addr} {n cap : Nat} {lp : Loop} {acc : List Int} {e : Int} {v : Value} {W : World} (h : DSt w ao n cap lp acc e v W) (x : Int) :
    DSt w ao n cap lp [] x (.slice none 0 0) ((W.setCell ⟨w.heap.size + 1, 0, none⟩ (.slice none 0 0)).setCell ⟨w.heap.size + 2, 0, none⟩ (.int .i64 x)) := by
  refine ⟨?_, ?_, (h.b.other (by omega) _).other (by omega) _, (h.arcs.set _).other (by omega) _, (h.er.other (by omega) _).set _, (h.b2.other (by omega) _).other (by omega) _, OwnI.nil _ _, (h.bel.setCell (by simp) _).setCell (by simp) _⟩
  · rw [Below.heap_setCell _ _ _ _ (by simp), Below.heap_setCell _ _ _ _ (by simp)]; exact h.loop
  · rw [Below.heap_setCell _ _ _ _ (by simp), Below.heap_setCell _ _ _ _ (by simp)]; exact h.dfr

/-- The block of deferred calls is shut. -/
theorem DSt.shut {w : World} {ao : Option Addr} {n cap : Nat} {lp : Loop} {acc : List Int} {e : Int} {v : Value} {W : World} (h : DSt w ao n cap lp acc e v W) :
    Boxed (W.putObj (w.heap.size + 4) (.deferred none)) (w.heap.size + 1) 29 v ∧ Boxed (W.putObj (w.heap.size + 4) (.deferred none)) (w.heap.size + 2) 25 (.int .i64 e) ∧ OwnI (W.putObj (w.heap.size + 4) (.deferred none)) w.heap.size v acc ∧ Below w.heap.size w (W.putObj (w.heap.size + 4) (.deferred none)) := by
  have g := grownBy_putObj' W (w.heap.size + 4) (.deferred none)
  refine ⟨h.arcs.kept g (by simp), h.er.kept g (by simp), h.row.kept g (.inr fun he => ?_), h.bel.grown g h.bel.size (by intro k e; cases e; omega)⟩
  obtain ⟨c, f, hc⟩ := h.row.block _ he
  rw [h.dfr] at hc
  cases hc

end Go.Proofs.Ytfcjahdkpjbggaa
