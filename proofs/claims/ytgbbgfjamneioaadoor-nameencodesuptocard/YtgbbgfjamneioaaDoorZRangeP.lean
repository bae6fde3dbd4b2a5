/-
  A range over a function, in three steps of its own, so that the function may also give up: the statement is entered; a round; how it ends is told by the library's rangePost. No program.
-/
import Derived.RangeFuncNested
import Derived.RangeFuncIn
import Derived.RangeFuncRecord
namespace Go.Proofs.YtgbbgfjamneioaaDoor
open Go.RowKit
variable {F : Fence} {n : Nat} {P : Program}

/-- A loop's record. -/
def recOf (fn : FuncId) (tmps : Array Value) (ps : Array Tmp) (assign body : Code) (D : Nat) (st : LoopState) (pe : Option Code) : Loop :=
  { state := st, pending := pe, fn := fn, tmps := tmps, params := ps, assign := assign, body := body, defers := D }

theorem range_enter {g : Operand} {ps : Array Tmp} {assign body : Code} {Q : Exit → Act → World → Prop} {a : Act} {w : World} (hro : F.round = none) (h1 : 1 ≤ n) {gf : Nat} {lb : Array Value}
    (hg : a.eval g = .func (.func gf) #[] lb) (hFg : F.fn gf) (eg : ∀ args w, (callFunc gf args).run P w = .ok (.enter gf args) w)
    (h : ∀ fn, F.fn fn → CallsIn F (n - 1) P gf (#[.func (.yield (w.heap.size + 1)) #[] #[]] ++ lb) ((w.alloc (.deferred (some []))).alloc (.loop (recOf fn a.tmps ps assign body w.heap.size .ready none)))
      (rangePost F n P (w.heap.size + 1) Q { a with defers := { target := .collected w.heap.size, args := #[] } :: a.defers })) :
    (Code.rangeFunc g ps assign body).wpIn F n P Q a w := by
  refine wpIn_rangeFunc ?_
  intro fn hfn
  have hc := h fn hfn
  obtain ⟨W1, hW1⟩ : ∃ W1, (w.alloc (.deferred (some []))).alloc (.loop (recOf fn a.tmps ps assign body w.heap.size .ready none)) = W1 := ⟨_, rfl⟩
  rw [hW1] at hc
  refine ⟨w.heap.size + 1, [{ target := .collected w.heap.size, args := #[] }], W1, { target := .fn (.func gf) lb, args := #[.func (.yield (w.heap.size + 1)) #[] #[]] }, W1, gf, #[.func (.yield (w.heap.size + 1)) #[] #[]] ++ lb, W1, ?_, ?_, ?_, ?_, fun _ => h1, ?_⟩
  · rw [hro, ← hW1]; unfold recOf; exact run_enterLoop_outer _ _ _ _ _
  · simp only [resolve, hg]
    simp [go_sem]
  · intro f' hf'
    simp [Target.leads] at hf'
    subst hf'
    exact hFg
  · simp [invoke, go_sem, eg]
  · exact hc

/-- How a round's body may end. -/
def rEnd (l : Nat) (r : LoopState → Option Code → Loop) (R : Ending → World → Prop) : Exit → Act → World → Prop
  | .normal, _, W => W.heap[l]? = some (.loop (r .busy none)) ∧ R (.returned (.bool true)) (W.putObj l (.loop (r .ready none)))
  | .ret, _, W => W.heap[l]? = some (.loop (r .busy none)) ∧ R (.returned (.bool false)) (W.putObj l (.loop (r .done (some .ret))))
  | .exit id, _, W => W.heap[l]? = some (.loop (r .busy none)) ∧ R (.returned (.bool false)) (W.putObj l (.loop (r .done (some (.exit id)))))
  | _, _, _ => False

theorem range_round {fn : FuncId} {l D : Nat} {tmps args : Array Value} {ps : Array Tmp} {assign body : Code} {W : World} {a₁ : Act} {R : Ending → World → Prop} (hfn : F.fn fn)
    (hl : W.heap[l]? = some (.loop (recOf fn tmps ps assign body D .ready none))) (hs : args.size = ps.size)
    (hassign : ∀ K : Act → World → Prop, K a₁ W → assign.wpIn (F.inRound l) n P (Exit.then K (fun _ _ _ => False)) { tmps := (ps.zip args).foldl (fun t (p, v) => t.setIfInBounds p v) tmps, defers := [] } W)
    (hbody : body.wpIn (F.inRound l) n P (rEnd l (recOf fn tmps ps assign body D) R) a₁ (W.putObj l (.loop (recOf fn tmps ps assign body D .busy none)))) :
    YieldAt F n P l args W R := by
  refine ⟨fn, _, assign, body, run_yield (P := P) (args := args) hl hs, roundIn_of_wpIn hfn (hassign _ ⟨_, run_beginRound hl rfl, ?_⟩)⟩
  refine wpIn_mono hbody ?_
  rintro e a' W3 h
  cases e with
  | normal => exact ⟨_, _, run_endRound none h.1, h.2⟩
  | ret => exact ⟨_, _, run_endRound (some .ret) h.1, h.2⟩
  | exit id => exact ⟨_, _, run_endRound (some (.exit id)) h.1, h.2⟩
  | goto t => exact h.elim
  | panic c => exact h.elim
  | outgrown => exact h.elim

/-- The function has returned: no round has left, or one has. -/
theorem range_done {fn : FuncId} {l D : Nat} {tmps : Array Value} {ps : Array Tmp} {assign body : Code} {W : World} {Q : Exit → Act → World → Prop} {a : Act} {v : Value}
    (hl : W.heap[l]? = some (.loop (recOf fn tmps ps assign body D .ready none))) (h : Q .normal a (W.putObj l (.loop (recOf fn tmps ps assign body D .exhausted none)))) : rangePost F n P l Q a (.returned v) W :=
  ⟨none, _, run_endLoop hl (by simp [recOf]), h⟩

theorem range_left {fn : FuncId} {l D : Nat} {tmps : Array Value} {ps : Array Tmp} {assign body c : Code} {W : World} {Q : Exit → Act → World → Prop} {a : Act} {v : Value}
    (hl : W.heap[l]? = some (.loop (recOf fn tmps ps assign body D .done (some c)))) (h : c.wpIn F n P Q a (W.putObj l (.loop (recOf fn tmps ps assign body D .exhausted (some c))))) : rangePost F n P l Q a (.returned v) W :=
  ⟨some c, _, run_endLoop hl (by simp [recOf]), h⟩

end Go.Proofs.YtgbbgfjamneioaaDoor
