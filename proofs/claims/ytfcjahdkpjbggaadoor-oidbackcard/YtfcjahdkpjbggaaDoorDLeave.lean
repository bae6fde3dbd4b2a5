/-
  oid.Decode reads a content as decS says.
-/
import Derived.Sort.QuietIn
import Derived.Test.YtfcjahdkpjbggaaDoorDSt
namespace Go.Proofs.YtfcjahdkpjbggaaDoor
open Go.RowKit Go.Shelf Go.IntWalk
attribute [local go_sem] Oper.semAt_some

/-- Both results are written. -/
theorem DSt.fail {w : World} {ao : Option Addr} {n cap : Nat} {lp : Loop} {acc : List Int} {e : Int} {v : Value} {W : World} (h : DSt w ao n cap lp acc e v W) (x : Int) :
    DSt w ao n cap lp [] x (.slice none 0 0) ((W.setCell ⟨w.heap.size + 1, 0, none⟩ (.slice none 0 0)).setCell ⟨w.heap.size + 2, 0, none⟩ (.int .i64 x)) := by
  refine ⟨?_, ?_, (h.b.other (by omega) _).other (by omega) _, (h.arcs.set _).other (by omega) _, (h.er.other (by omega) _).set _, (h.b2.other (by omega) _).other (by omega) _, OwnI.nil _ _, (h.bel.setCell (by simp) _).setCell (by simp) _⟩
  · rw [Below.heap_setCell _ _ _ _ (by simp), Below.heap_setCell _ _ _ _ (by simp)]; exact h.loop
  · rw [Below.heap_setCell _ _ _ _ (by simp), Below.heap_setCell _ _ _ _ (by simp)]; exact h.dfr

/-- The block of deferred calls is shut. -/
theorem DSt.shut {w : World} {ao : Option Addr} {n cap : Nat} {lp : Loop} {acc : List Int} {e : Int} {v : Value} {W : World} (h : DSt w ao n cap lp acc e v W) :
    Boxed (W.putObj (w.heap.size + 4) (.deferred none)) (w.heap.size + 1) 22 v ∧ Boxed (W.putObj (w.heap.size + 4) (.deferred none)) (w.heap.size + 2) 24 (.int .i64 e) ∧ OwnI (W.putObj (w.heap.size + 4) (.deferred none)) w.heap.size v acc ∧ Below w.heap.size w (W.putObj (w.heap.size + 4) (.deferred none)) := by
  have g := grownBy_putObj' W (w.heap.size + 4) (.deferred none)
  refine ⟨h.arcs.kept g (by simp), h.er.kept g (by simp), h.row.kept g (.inr fun he => ?_), h.bel.grown g h.bel.size (by intro k e; cases e; omega)⟩
  obtain ⟨c, f, hc⟩ := h.row.block _ he
  rw [h.dfr] at hc
  cases hc

set_option maxRecDepth 100000 in
/-- How Decode is left: the loop's mark, then the deferred function; what it catches is the answer. -/
theorem dec_leave (w : World) (ao : Option Addr) (n cap : Nat) (lp : Loop) (acc : List Int) (e : Int) (v : Value) (W : World) (tmps : Array Value) (u : FrameMode) (res : List Int × Int)
    (ht1 : tmps[2]? = some (.pointer (some ⟨w.heap.size + 1, 0, none⟩))) (ht2 : tmps[3]? = some (.pointer (some ⟨w.heap.size + 1 + 1, 0, none⟩)))
    (hD : DSt w ao n cap lp acc e v W) (hv : ∃ ao' L c', v = .slice ao' L c') (hu : (u = .returning ∧ res = (acc, e)) ∨ (∃ x, u = .panicking (errP x) ∧ res = ([], x))) :
    LeavesInM Fence.wide 4 Tryd.prog Tryd.f8 tmps (fun e w' => ∃ ao' L c', e = .returned (.tuple #[.slice ao' L c', .int .i64 res.2]) ∧ OwnI w' w.heap.size (.slice ao' L c') res.1 ∧ Below w.heap.size w w')
      [{ target := .collected (w.heap.size + 4), args := #[] }, { target := .fn (.func 14) #[.pointer (some ⟨w.heap.size + 1, 0, none⟩), .pointer (some ⟨w.heap.size + 1 + 1, 0, none⟩)], args := #[] }] u W := by
  have hru : u ≠ .run := by rcases hu with ⟨rfl, _⟩ | ⟨x, rfl, _⟩ <;> simp
  obtain ⟨a1, e1, o1, b1⟩ := hD.shut
  refine ⟨hru, .inl ⟨_, _, rfl, run_takeDeferred hD.dfr, hru, .inr ⟨by simp [Fence.wide], .func 14, _, 14, #[.pointer (some ⟨w.heap.size + 1, 0, none⟩), .pointer (some ⟨w.heap.size + 1 + 1, 0, none⟩)], rfl, ?_, fun _ _ => trivial, ?_⟩⟩⟩
  · simp [invoke, go_sem]
  · rcases hu with ⟨rfl, rfl⟩ | ⟨x, rfl, rfl⟩
    · refine (decode1_idle 3 _ _ _).mono ?_
      rintro e' u' w' ⟨rfl, rfl, rfl⟩
      obtain ⟨ao', L, c', rfl⟩ := hv
      have c1 := a1.cell
      have c2 := e1.cell
      exact ⟨.tuple #[.slice ao' L c', .int .i64 e], by simp [results, Tryd.results8, go_sem, ht1, ht2, c1, c2, Array.getD_eq_getD_getElem?], _, _, _, rfl, o1, b1⟩
    · have e2 := e1.other (B' := w.heap.size + 1) (by omega) (.slice none 0 0)
      refine (decode1_caught 3 x _ _ _ _ _ a1.cell a1.frozen e2.cell e2.frozen).mono ?_
      rintro e' u' w' ⟨rfl, hu', rfl⟩
      simp only [hu']
      have c1 := ((a1.set (.slice none 0 0)).other (B' := w.heap.size + 2) (by omega) (.int .i64 x)).cell
      have c2 := (e2.set (.int .i64 x)).cell
      exact ⟨.tuple #[.slice none 0 0, .int .i64 x], by simp [results, Tryd.results8, go_sem, ht1, ht2, c1, c2, Array.getD_eq_getD_getElem?], none, 0, 0, rfl, OwnI.nil _ _, (b1.setCell (by simp) _).setCell (by simp) _⟩

end Go.Proofs.YtfcjahdkpjbggaaDoor
