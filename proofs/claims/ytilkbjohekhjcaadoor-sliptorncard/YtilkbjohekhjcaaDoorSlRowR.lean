/-
  Memory while DerAlls runs its ranges.
-/
import Derived.Test.YtilkbjohekhjcaaDoorSlRowM
namespace Go.Proofs.YtilkbjohekhjcaaDoor
open Go.RowKit Go.Shelf Go.IntWalk

/-- All is as it lay in V; behind it lies the variable n. -/
structure RA (V : World) (k : Int) (A : World) : Prop where
  bel : Below V.heap.size V A
  nb : Boxed A V.heap.size 3 (.int .i64 k)

structure RL (V : World) (l : Nat) (Ds : List Nat) (lp : Loop) (k : Int) (A : World) : Prop where
  ra : RA V k A
  loop : A.heap[l]? = some (.loop lp)
  dfr : ∀ D ∈ Ds, A.heap[D]? = some (.deferred (some []))
  od : ∀ D ∈ Ds, V.heap.size < D ∧ D < l
  ol : V.heap.size < l

theorem RA.kept {V A C : World} {k : Int} (h : RA V k A) {N : Nat} (hb : Below N A C) (hN : V.heap.size < N) : RA V k C :=
  ⟨h.bel.trans (hb.mono (by omega)), (hb.block _ hN).trans h.nb⟩

theorem RA.setN {V A : World} {k : Int} (h : RA V k A) (k' : Int) : RA V k' (A.setCell ⟨V.heap.size, 0, none⟩ (.int .i64 k')) :=
  ⟨h.bel.setCell (by simp) _, h.nb.set _⟩

theorem RL.kept {V A C : World} {l : Nat} {Ds : List Nat} {lp : Loop} {k : Int} (h : RL V l Ds lp k A) (hb : Below (l + 1) A C) : RL V l Ds lp k C :=
  ⟨h.ra.kept hb (by have := h.ol; omega), (hb.block _ (by omega)).trans h.loop, fun D hD => (hb.block _ (by have := (h.od D hD).2; omega)).trans (h.dfr D hD), h.od, h.ol⟩

theorem RL.put {V A : World} {l : Nat} {Ds : List Nat} {lp : Loop} {k : Int} (h : RL V l Ds lp k A) (lp' : Loop) : RL V l Ds lp' k (A.putObj l (.loop lp')) := by
  have hlt : l < A.heap.size := (Array.getElem?_eq_some_iff.1 h.loop).1
  have ho := h.ol
  exact ⟨⟨h.ra.bel.trans (belowPut (by omega)), (World.putObj_heap_other (by omega)).trans h.ra.nb⟩, World.putObj_heap_same hlt, fun D hD => (World.putObj_heap_other (by have := (h.od D hD).2; omega)).trans (h.dfr D hD), h.od, h.ol⟩

theorem RL.setN {V A : World} {l : Nat} {Ds : List Nat} {lp : Loop} {k : Int} (h : RL V l Ds lp k A) (k' : Int) : RL V l Ds lp k' (A.setCell ⟨V.heap.size, 0, none⟩ (.int .i64 k')) := by
  have ho := h.ol
  exact ⟨h.ra.setN k', by rw [Below.heap_setCell _ _ _ _ (by simp; omega)]; exact h.loop, fun D hD => by have := h.od D hD; rw [Below.heap_setCell _ _ _ _ (by simp; omega)]; exact h.dfr D hD, h.od, h.ol⟩

theorem RL.enter {V A : World} {Ds : List Nat} {k : Int} (h : RA V k A) (hd : ∀ D ∈ Ds, A.heap[D]? = some (.deferred (some [])) ∧ V.heap.size < D) (lp : Loop) :
    RL V (A.heap.size + 1) (A.heap.size :: Ds) lp k ((A.alloc (.deferred (some []))).alloc (.loop lp)) := by
  have hn := h.nb.lt
  have hb : Below A.heap.size A ((A.alloc (.deferred (some []))).alloc (.loop lp)) := ((Below.refl _ _).alloc (Nat.le_refl _) _).alloc (by simp) _
  refine ⟨h.kept hb hn, ?_, fun D hD => ?_, fun D hD => ?_, by omega⟩
  · have := World.alloc_heap_new (A.alloc (.deferred (some []))) (.loop lp); rwa [World.size_alloc] at this
  · rcases List.mem_cons.1 hD with rfl | hD
    · rw [Below.heap_alloc _ _ _ (by simp)]; exact World.alloc_heap_new A _
    · have h1 := (hd D hD).1
      exact (hb.block _ (Array.getElem?_eq_some_iff.1 h1).1).trans h1
  · rcases List.mem_cons.1 hD with rfl | hD
    · exact ⟨hn, by omega⟩
    · have h1 := hd D hD
      have hlt := (Array.getElem?_eq_some_iff.1 h1.1).1
      exact ⟨h1.2, by omega⟩

/-- What a round's body may write: the variable n, the loop's record, the content that it was handed. -/
def RS (V : World) (l : Nat) (v : Value) (q : Nat) : Prop := q = V.heap.size ∨ q = l ∨ v.ownBlock = some q

theorem KO.of {V W1 W' : World} {l : Nat} {v : Value} {ys : List Int} {x : Value} {lp : Loop} (h : GB (RS V l v) W1 W') (hb : Boxed W1 V.heap.size 3 x) (_hl : W1.heap[l]? = some (.loop lp)) (hol : V.heap.size < l) (ho : OwnB W1 (l + 1) v ys) : KO V (l + 1) v W1 W' := by
  refine ⟨h.toBelow (by have := hb.lt; omega) (fun q hq => ?_), fun k h1 h2 h3 => h.same k h2 (fun hs => ?_)⟩
  · rcases hq with rfl | rfl | hq
    · exact Nat.le_refl _
    · omega
    · have := (ho.lt q hq).1; omega
  · rcases hs with rfl | rfl | hs
    · omega
    · omega
    · exact h3 hs

theorem GB.put {V A B : World} {l : Nat} {v : Value} {o : Obj} (h : GB (RS V l v) A B) : GB (RS V l v) A (B.putObj l o) := h.step (grownBy_putObj' B l o) (fun _ h => h) (fun q hq => by cases hq; exact .inr (.inl rfl))

theorem GB.setN {V A B : World} {l : Nat} {v : Value} {u : Value} (h : GB (RS V l v) A B) : GB (RS V l v) A (B.setCell ⟨V.heap.size, 0, none⟩ u) := h.step (grownBy_setCell' B V.heap.size u) (fun _ h => h) (fun q hq => by cases hq; exact .inl rfl)

theorem each_enters : ∀ args w, (callFunc 15 args).run Tryd.prog w = .ok (.enter 15 args) w := enters_of Tryd.func15 (by kernel_rfl) rfl

/-- A range over der.Each's function. -/
theorem each_enter {g : Operand} {ps : Array Tmp} {assign body : Code} {Q : Exit → Act → World → Prop} {a : Act} {w : World} {B : Nat} (hg : a.eval g = .func (.func 15) #[] #[.pointer (some ⟨B, 0, none⟩)])
    (h : ∀ fn, Fence.wide.fn fn → CallsIn Fence.wide 7 Tryd.prog 15 #[.func (.yield (w.heap.size + 1)) #[] #[], .pointer (some ⟨B, 0, none⟩)] ((w.alloc (.deferred (some []))).alloc (.loop (recOf fn a.tmps ps assign body w.heap.size .ready none)))
      (rangePost Fence.wide 8 Tryd.prog (w.heap.size + 1) Q { a with defers := { target := .collected w.heap.size, args := #[] } :: a.defers })) :
    (Code.rangeFunc g ps assign body).wp Tryd.prog Q a w :=
  wpIn_wide.1 (range_enter (n := 8) rfl (by decide) hg trivial each_enters h)

end Go.Proofs.YtilkbjohekhjcaaDoor
