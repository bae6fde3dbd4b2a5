/-
  The function that der.Each answers: it tells the elements that stand one behind the other, each with its place, its content in new memory.
-/
import Derived.Test.YtklchpdpooikdaaGreatDoorYElemToEach
import Derived.Test.YtklchpdpooikdaaGreatDoorYOSizeToRangeP
import Derived.Test.YtklchpdpooikdaaGreatDoorYNumbersToQRound
namespace Go.Proofs.YtklchpdpooikdaaGreatDoor
open Go.RowKit Go.Shelf Go.IntWalk
attribute [local go_sem] Oper.semAt_some

structure KO (wb : World) (N0 : Nat) (v : Value) (A B : World) : Prop where
  below : Below wb.heap.size A B
  span : ∀ (k : Nat) (c : Array Value), A.heap[k]? = some (Obj.cells c 165 (0, 0)) → B.heap[k]? = some (Obj.cells c 165 (0, 0))
  rest : ∀ k, N0 ≤ k → k < A.heap.size → v.ownBlock ≠ some k → B.heap[k]? = A.heap[k]?

theorem range_roundA {F : Fence} {n : Nat} {P : Program} {fn : FuncId} {l D : Nat} {tmps args : Array Value} {ps : Array Tmp} {assign body : Code} {W W₁ : World} {a₁ : Act} {R : Ending → World → Prop} (hfn : F.fn fn)
    (hl : W.heap[l]? = some (.loop (recOf fn tmps ps assign body D .ready none))) (hs : args.size = ps.size) (hl1 : W₁.heap[l]? = some (.loop (recOf fn tmps ps assign body D .ready none)))
    (hassign : ∀ K : Act → World → Prop, K a₁ W₁ → assign.wpIn (F.inRound l) n P (Exit.then K (fun _ _ _ => False)) { tmps := (ps.zip args).foldl (fun t (p, v) => t.setIfInBounds p v) tmps, defers := [] } W)
    (hbody : body.wpIn (F.inRound l) n P (rEnd l (recOf fn tmps ps assign body D) R) a₁ (W₁.putObj l (.loop (recOf fn tmps ps assign body D .busy none)))) :
    YieldAt F n P l args W R := by
  refine ⟨fn, _, assign, body, run_yield (P := P) (args := args) hl hs, roundIn_of_wpIn hfn (hassign _ ⟨_, run_beginRound hl1 rfl, ?_⟩)⟩
  refine wpIn_mono hbody ?_
  rintro e a' W3 h
  cases e with
  | normal => exact ⟨_, _, run_endRound none h.1, h.2⟩
  | ret => exact ⟨_, _, run_endRound (some .ret) h.1, h.2⟩
  | exit id => exact ⟨_, _, run_endRound (some (.exit id)) h.1, h.2⟩
  | goto t => exact h.elim
  | panic c => exact h.elim
  | outgrown => exact h.elim

theorem ndE_of (ops : List Oper) (h : ops.all noDefer = true) : ∀ (i : Nat) o, ops.toArray[i]? = some o → ∀ c, o.op ≠ .defer c := by
  intro i o ho c hc
  have h1 := List.all_eq_true.1 h o (by simp at ho; exact List.mem_of_getElem? ho)
  simp [noDefer, hc] at h1

structure EI (wb : World) (N l : Nat) (ao : Option Addr) (len cap : Nat) (lp : Loop) (A : World) : Prop where
  yb : Boxed A N 170 (.func (.yield l) #[] #[])
  sb : Boxed A (N + 1) 64 (.slice ao len cap)
  dfr : A.heap[N + 2]? = some (.deferred (some []))
  loop : A.heap[N + 3]? = some (.loop lp)
  bel : Below wb.heap.size wb A

theorem EI.kept {wb : World} {N l : Nat} {ao : Option Addr} {len cap : Nat} {lp : Loop} {A C : World} (h : EI wb N l ao len cap lp A) (hb : Below wb.heap.size A C) (hk : ∀ k, N ≤ k → k < N + 4 → C.heap[k]? = A.heap[k]?) : EI wb N l ao len cap lp C :=
  ⟨(hk N (by omega) (by omega)).trans h.yb, (hk (N + 1) (by omega) (by omega)).trans h.sb, (hk (N + 2) (by omega) (by omega)).trans h.dfr, (hk (N + 3) (by omega) (by omega)).trans h.loop, h.bel.trans hb⟩

theorem EI.size {wb : World} {N l : Nat} {ao : Option Addr} {len cap : Nat} {lp : Loop} {A : World} (h : EI wb N l ao len cap lp A) : N + 4 ≤ A.heap.size := (Array.getElem?_eq_some_iff.1 h.loop).1

theorem EI.put {wb : World} {N l : Nat} {ao : Option Addr} {len cap : Nat} {lp : Loop} {A : World} (h : EI wb N l ao len cap lp A) (hN : wb.heap.size ≤ N) (lp' : Loop) : EI wb N l ao len cap lp' (A.putObj (N + 3) (.loop lp')) := by
  have hlt : N + 3 < A.heap.size := h.size
  exact ⟨(World.putObj_heap_other (by omega)).trans h.yb, (World.putObj_heap_other (by omega)).trans h.sb, (World.putObj_heap_other (by omega)).trans h.dfr, World.putObj_heap_same hlt, h.bel.grown (grownBy_putObj' A (N + 3) (.loop lp')) h.bel.size (by intro k hk; cases hk; omega)⟩

theorem belowPut {N k : Nat} {A : World} {o : Obj} (hk : N ≤ k) : Below N A (A.putObj k o) := by
  have g := grownBy_putObj' A k o
  exact ⟨g.os, g.tape, g.output, g.size, fun j hj => World.putObj_heap_other (by omega)⟩

end Go.Proofs.YtklchpdpooikdaaGreatDoor
