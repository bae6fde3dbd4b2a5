/-
  The memory of a function that ranges over a function: its variables' boxes, the marks for the rounds' deferred calls, the loop's record; how they move. No function of the program.
-/
import Derived.RangeFuncNested
import Derived.RangeFuncBound
import Derived.RangeFuncCalls
import Derived.RangeFuncLeaves
import Derived.RangeFuncBox
import Derived.Shelf.Abstract
import Derived.Shelf.RegionOpen
import Derived.WalkKit
import Derived.OwnWalkIn
import Derived.Test.YtgbbgfjamneioaaZAllBaseToQRound
import Derived.Test.YtgbbgfjamneioaaZOpenToMore
namespace Go.Proofs.Ytgbbgfjamneioaa
open Go.RowKit Go.Shelf Go.IntWalk

/-- Boxes laid since w, marks laid since w; what lay in w lies as it lay. -/
structure BSt (w : World) (bx : List (Nat × TypeId × Value)) (ds : List Nat) (W : World) : Prop where
  box : ∀ (i : Nat) x, bx[i]? = some x → w.heap.size ≤ x.1 ∧ Boxed W x.1 x.2.1 x.2.2
  nd : ∀ (i j : Nat) x y, bx[i]? = some x → bx[j]? = some y → x.1 = y.1 → i = j
  dfr : ∀ D ∈ ds, w.heap.size ≤ D ∧ W.heap[D]? = some (.deferred (some []))
  bel : Below w.heap.size w W

theorem BSt.start (w : World) : BSt w [] [] w := ⟨fun _ _ h => by simp at h, fun _ _ _ _ h => by simp at h, fun _ h => by simp at h, Below.refl _ _⟩

theorem BSt.get {w W : World} {bx : List (Nat × TypeId × Value)} {ds : List Nat} (h : BSt w bx ds W) (i : Nat) {b : Nat} {t : TypeId} {v : Value} (hi : bx[i]? = some (b, t, v)) : Boxed W b t v := (h.box i _ hi).2

theorem BSt.new {w W : World} {bx : List (Nat × TypeId × Value)} {ds : List Nat} (h : BSt w bx ds W) (t : TypeId) (v : Value) : BSt w (bx ++ [(W.heap.size, t, v)]) ds (W.alloc (.cells #[v] t)) := by
  have hz := h.bel.size
  refine ⟨fun i x hx => ?_, fun i j x y hx hy he => ?_, fun D hD => ?_, h.bel.alloc hz _⟩
  · rw [List.getElem?_append] at hx
    split at hx
    · have := h.box i x hx; exact ⟨this.1, this.2.alloc _⟩
    · have e : x = (W.heap.size, t, v) := by
        cases hd : i - bx.length with
        | zero => rw [hd] at hx; simpa using hx.symm
        | succ k => rw [hd] at hx; simp at hx
      subst e
      exact ⟨hz, Boxed.new W t v⟩
  · have key : ∀ (i : Nat) x, (bx ++ [(W.heap.size, t, v)])[i]? = some x → (i < bx.length ∧ bx[i]? = some x ∧ x.1 < W.heap.size) ∨ (i = bx.length ∧ x.1 = W.heap.size) := by
      intro i x hx
      rw [List.getElem?_append] at hx
      split at hx
      · rename_i hl; exact .inl ⟨hl, hx, (h.box i x hx).2.lt⟩
      · rename_i hl
        cases hd : i - bx.length with
        | zero => rw [hd] at hx; simp at hx; subst hx; exact .inr ⟨by omega, rfl⟩
        | succ k => rw [hd] at hx; simp at hx
    rcases key i x hx with ⟨_, a2, a3⟩ | ⟨a1, a2⟩ <;> rcases key j y hy with ⟨_, b2, b3⟩ | ⟨b1, b2⟩
    · exact h.nd i j x y a2 b2 he
    · omega
    · omega
    · omega
  · have := h.dfr D hD
    exact ⟨this.1, (Below.heap_alloc W _ D (Array.getElem?_eq_some_iff.1 this.2).1).trans this.2⟩

theorem BSt.below {w W W' : World} {bx : List (Nat × TypeId × Value)} {ds : List Nat} (h : BSt w bx ds W) (hb : Below W.heap.size W W') : BSt w bx ds W' :=
  ⟨fun i x hx => ⟨(h.box i x hx).1, (hb.block _ (h.box i x hx).2.lt).trans (h.box i x hx).2⟩, h.nd, fun D hD => ⟨(h.dfr D hD).1, (hb.block _ (Array.getElem?_eq_some_iff.1 (h.dfr D hD).2).1).trans (h.dfr D hD).2⟩, h.bel.trans (hb.mono h.bel.size)⟩

theorem BSt.set {w W : World} {bx : List (Nat × TypeId × Value)} {ds : List Nat} (h : BSt w bx ds W) (i : Nat) {b : Nat} {t : TypeId} {v : Value} (hi : bx[i]? = some (b, t, v)) (v' : Value) : BSt w (bx.set i (b, t, v')) ds (W.setCell ⟨b, 0, none⟩ v') := by
  have hb := h.box i _ hi
  have hil : i < bx.length := (List.getElem?_eq_some_iff.1 hi).1
  refine ⟨fun j x hx => ?_, fun j k x y hx hy he => ?_, fun D hD => ?_, h.bel.setCell (p := ⟨b, 0, none⟩) hb.1 _⟩
  · by_cases hj : i = j
    · subst hj
      rw [List.getElem?_set_self hil] at hx
      cases hx
      exact ⟨hb.1, hb.2.set _⟩
    · rw [List.getElem?_set_ne hj] at hx
      have hx2 := h.box j x hx
      refine ⟨hx2.1, ?_⟩
      have hne : x.1 ≠ b := fun e => hj (h.nd j i x _ hx hi e).symm
      exact (Below.heap_setCell W ⟨b, 0, none⟩ v' x.1 hne).trans hx2.2
  · have key : ∀ (j : Nat) x, (bx.set i (b, t, v'))[j]? = some x → ∃ x', bx[j]? = some x' ∧ x'.1 = x.1 := by
      intro j x hx
      by_cases hj : i = j
      · subst hj
        rw [List.getElem?_set_self hil] at hx
        cases hx
        exact ⟨_, hi, rfl⟩
      · rw [List.getElem?_set_ne hj] at hx
        exact ⟨x, hx, rfl⟩
    obtain ⟨x', a1, a2⟩ := key j x hx
    obtain ⟨y', b1, b2⟩ := key k y hy
    exact h.nd j k x' y' a1 b1 (by omega)
  · have := h.dfr D hD
    refine ⟨this.1, (Below.heap_setCell W ⟨b, 0, none⟩ v' D ?_).trans this.2⟩
    rintro rfl
    have e := hb.2.symm.trans this.2
    cases e

theorem BSt.mark {w W : World} {bx : List (Nat × TypeId × Value)} {ds : List Nat} (h : BSt w bx ds W) : BSt w bx (W.heap.size :: ds) (W.alloc (.deferred (some []))) := by
  have hz := h.bel.size
  refine ⟨fun i x hx => ⟨(h.box i x hx).1, (h.box i x hx).2.alloc _⟩, h.nd, fun D hD => ?_, h.bel.alloc hz _⟩
  rcases List.mem_cons.1 hD with rfl | hD
  · exact ⟨hz, World.alloc_heap_new W _⟩
  · exact ⟨(h.dfr D hD).1, (Below.heap_alloc W _ D (Array.getElem?_eq_some_iff.1 (h.dfr D hD).2).1).trans (h.dfr D hD).2⟩

/-- A block that is no cells and no mark is turned. -/
theorem BSt.put {w W : World} {bx : List (Nat × TypeId × Value)} {ds : List Nat} (h : BSt w bx ds W) {l : Nat} {r : Loop} (hl : W.heap[l]? = some (.loop r)) (hlw : w.heap.size ≤ l) (o : Obj) : BSt w bx ds (W.putObj l o) := by
  refine ⟨fun i x hx => ⟨(h.box i x hx).1, ?_⟩, h.nd, fun D hD => ⟨(h.dfr D hD).1, ?_⟩, h.bel.grown (grownBy_putObj' W l o) h.bel.size (by intro k e; cases e; exact hlw)⟩
  · have hx2 := (h.box i x hx).2
    refine (World.putObj_heap_other ?_).trans hx2
    rintro e
    have e2 : W.heap[l]? = some (.cells #[x.2.2] x.2.1 (0, 0)) := by rw [← e]; exact hx2
    rw [hl] at e2; cases e2
  · have hd := (h.dfr D hD).2
    refine (World.putObj_heap_other ?_).trans hd
    rintro e
    rw [e, hl] at hd; cases hd

/-- The same while a loop runs: its record, too. -/
structure LSt (w : World) (bx : List (Nat × TypeId × Value)) (ds : List Nat) (l : Nat) (r : Loop) (W : World) : Prop where
  st : BSt w bx ds W
  loop : W.heap[l]? = some (.loop r)
  ol : w.heap.size ≤ l

theorem LSt.enter {w W : World} {bx : List (Nat × TypeId × Value)} {ds : List Nat} (h : BSt w bx ds W) (r : Loop) : LSt w bx (W.heap.size :: ds) (W.heap.size + 1) r ((W.alloc (.deferred (some []))).alloc (.loop r)) := by
  have h1 := h.mark
  have hz := h.bel.size
  refine ⟨h1.below ((Below.refl _ _).alloc (Nat.le_refl _) _), ?_, by omega⟩
  have := World.alloc_heap_new (W.alloc (.deferred (some []))) (.loop r)
  rwa [World.size_alloc] at this
theorem LSt.below {w W W' : World} {bx : List (Nat × TypeId × Value)} {ds : List Nat} {l : Nat} {r : Loop} (h : LSt w bx ds l r W) (hb : Below W.heap.size W W') : LSt w bx ds l r W' :=
  ⟨h.st.below hb, (hb.block _ (Array.getElem?_eq_some_iff.1 h.loop).1).trans h.loop, h.ol⟩
theorem LSt.put {w W : World} {bx : List (Nat × TypeId × Value)} {ds : List Nat} {l : Nat} {r : Loop} (h : LSt w bx ds l r W) (r' : Loop) : LSt w bx ds l r' (W.putObj l (.loop r')) :=
  ⟨h.st.put h.loop h.ol _, World.putObj_heap_same (Array.getElem?_eq_some_iff.1 h.loop).1, h.ol⟩
theorem LSt.set {w W : World} {bx : List (Nat × TypeId × Value)} {ds : List Nat} {l : Nat} {r : Loop} (h : LSt w bx ds l r W) (i : Nat) {b : Nat} {t : TypeId} {v : Value} (hi : bx[i]? = some (b, t, v)) (v' : Value) : LSt w (bx.set i (b, t, v')) ds l r (W.setCell ⟨b, 0, none⟩ v') := by
  refine ⟨h.st.set i hi v', (Below.heap_setCell W ⟨b, 0, none⟩ v' l ?_).trans h.loop, h.ol⟩
  rintro rfl
  have e := (h.st.get i hi).symm.trans h.loop
  cases e

/-- What stands behind the marks' taking. -/
theorem BSt.take {w W : World} {bx : List (Nat × TypeId × Value)} {D : Nat} {ds : List Nat} (h : BSt w bx (D :: ds) W) (hn : D ∉ ds) : BSt w bx ds (W.putObj D (.deferred none)) := by
  have hD := h.dfr D (by simp)
  refine ⟨fun i x hx => ⟨(h.box i x hx).1, ?_⟩, h.nd, fun E hE => ⟨(h.dfr E (by simp [hE])).1, ?_⟩, h.bel.grown (grownBy_putObj' W D _) h.bel.size (by intro k e; cases e; exact hD.1)⟩
  · have hx2 := (h.box i x hx).2
    refine (World.putObj_heap_other ?_).trans hx2
    rintro e
    have e2 : W.heap[D]? = some (.cells #[x.2.2] x.2.1 (0, 0)) := by rw [← e]; exact hx2
    rw [hD.2] at e2; cases e2
  · have hd := (h.dfr E (by simp [hE])).2
    exact (World.putObj_heap_other (by rintro rfl; exact hn hE)).trans hd

/-- The same where what lies from N on may have turned. -/
theorem LSt.belowN {w W W' : World} {bx : List (Nat × TypeId × Value)} {ds : List Nat} {l N : Nat} {r : Loop} (h : LSt w bx ds l r W) (hb : Below N W W') (hbx : ∀ x ∈ bx, x.1 < N) (hds : ∀ D ∈ ds, D < N) (hl : l < N) (hw : w.heap.size ≤ N) : LSt w bx ds l r W' :=
  ⟨⟨fun i x hx => ⟨(h.st.box i x hx).1, (hb.block _ (hbx x (List.mem_of_getElem? hx))).trans (h.st.box i x hx).2⟩, h.st.nd, fun D hD => ⟨(h.st.dfr D hD).1, (hb.block _ (hds D hD)).trans (h.st.dfr D hD).2⟩, h.st.bel.trans (hb.mono hw)⟩, (hb.block _ hl).trans h.loop, h.ol⟩

end Go.Proofs.Ytgbbgfjamneioaa
