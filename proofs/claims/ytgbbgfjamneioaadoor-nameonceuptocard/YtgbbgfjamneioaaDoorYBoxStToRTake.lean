/-
  The memory of a function that ranges over a function: its variables' boxes, the marks for the rounds' deferred calls, the loop's record; how they move. No function of the program.
  'append' of bytes to a row of the call's own, as one step of a region that draws its order.
  The reference's IsTag answers as the plain function of the number says.
  The reference's Take answers as the plain function of the bytes says, the content copied into new memory.
-/
import Derived.RangeFuncNested
import Derived.RangeFuncBound
import Derived.RangeFuncCalls
import Derived.RangeFuncLeaves
import Derived.RangeFuncBox
import Derived.Shelf.Abstract
import Derived.Shelf.RegionOpen
import Derived.WalkKit
import Derived.OwnWalkIn
import Derived.Test.YtgbbgfjamneioaaDoorYAllBaseToQRound
import Derived.Test.YtgbbgfjamneioaaDoorYMoreToFind
import Derived.Test.YtgbbgfjamneioaaDoorYBaseToBts
import Derived.Deep.RegionHeld3
import Derived.WalkSpells
import Derived.Test.YtgbbgfjamneioaaDoorYElemToSpans
namespace Go.Proofs.YtgbbgfjamneioaaDoor
open Go.RowKit Go.Shelf Go.IntWalk

/-- Boxes laid since w, marks laid since w; what lay in w lies as it lay. -/
structure BSt (w : World) (bx : List (Nat × TypeId × Value)) (ds : List Nat) (W : World) : Prop where
  box : ∀ (i : Nat) x, bx[i]? = some x → w.heap.size ≤ x.1 ∧ Boxed W x.1 x.2.1 x.2.2
  nd : ∀ (i j : Nat) x y, bx[i]? = some x → bx[j]? = some y → x.1 = y.1 → i = j
  dfr : ∀ D ∈ ds, w.heap.size ≤ D ∧ W.heap[D]? = some (.deferred (some []))
  bel : Below w.heap.size w W

theorem BSt.start (w : World) : BSt w [] [] w := ⟨fun _ _ h => by simp at h, fun _ _ _ _ h => by simp at h, fun _ h => by simp at h, Below.refl _ _⟩

theorem BSt.get {w W : World} {bx : List (Nat × TypeId × Value)} {ds : List Nat} (h : BSt w bx ds W) (i : Nat) {b : Nat} {t : TypeId} {v : Value} (hi : bx[i]? = some (b, t, v)) : Boxed W b t v := (h.box i _ hi).2

theorem BSt.new {w W : World} {bx : List (Nat × TypeId × Value)} {ds : List Nat} (h : BSt w bx ds W) (t : TypeId) (v : Value) : BSt w (bx ++ [(W.heap.size, t, v)]) ds (W.alloc (.cells #[v] t)) := by
  have hz := h.bel.size
  refine ⟨fun i x hx => ?_, fun i j x y hx hy he => ?_, fun D hD => ?_, h.bel.alloc hz _⟩
  · rw [List.getElem?_append] at hx
    split at hx
    · have := h.box i x hx; exact ⟨this.1, this.2.alloc _⟩
    · have e : x = (W.heap.size, t, v) := by
        cases hd : i - bx.length with
        | zero => rw [hd] at hx; simpa using hx.symm
        | succ k => rw [hd] at hx; simp at hx
      subst e
      exact ⟨hz, Boxed.new W t v⟩
  · have key : ∀ (i : Nat) x, (bx ++ [(W.heap.size, t, v)])[i]? = some x → (i < bx.length ∧ bx[i]? = some x ∧ x.1 < W.heap.size) ∨ (i = bx.length ∧ x.1 = W.heap.size) := by
      intro i x hx
      rw [List.getElem?_append] at hx
      split at hx
      · rename_i hl; exact .inl ⟨hl, hx, (h.box i x hx).2.lt⟩
      · rename_i hl
        cases hd : i - bx.length with
        | zero => rw [hd] at hx; simp at hx; subst hx; exact .inr ⟨by omega, rfl⟩
        | succ k => rw [hd] at hx; simp at hx
    rcases key i x hx with ⟨_, a2, a3⟩ | ⟨a1, a2⟩ <;> rcases key j y hy with ⟨_, b2, b3⟩ | ⟨b1, b2⟩
    · exact h.nd i j x y a2 b2 he
    · omega
    · omega
    · omega
  · have := h.dfr D hD
    exact ⟨this.1, (Below.heap_alloc W _ D (Array.getElem?_eq_some_iff.1 this.2).1).trans this.2⟩

theorem BSt.below {w W W' : World} {bx : List (Nat × TypeId × Value)} {ds : List Nat} (h : BSt w bx ds W) (hb : Below W.heap.size W W') : BSt w bx ds W' :=
  ⟨fun i x hx => ⟨(h.box i x hx).1, (hb.block _ (h.box i x hx).2.lt).trans (h.box i x hx).2⟩, h.nd, fun D hD => ⟨(h.dfr D hD).1, (hb.block _ (Array.getElem?_eq_some_iff.1 (h.dfr D hD).2).1).trans (h.dfr D hD).2⟩, h.bel.trans (hb.mono h.bel.size)⟩

theorem BSt.set {w W : World} {bx : List (Nat × TypeId × Value)} {ds : List Nat} (h : BSt w bx ds W) (i : Nat) {b : Nat} {t : TypeId} {v : Value} (hi : bx[i]? = some (b, t, v)) (v' : Value) : BSt w (bx.set i (b, t, v')) ds (W.setCell ⟨b, 0, none⟩ v') := by
  have hb := h.box i _ hi
  have hil : i < bx.length := (List.getElem?_eq_some_iff.1 hi).1
  refine ⟨fun j x hx => ?_, fun j k x y hx hy he => ?_, fun D hD => ?_, h.bel.setCell (p := ⟨b, 0, none⟩) hb.1 _⟩
  · by_cases hj : i = j
    · subst hj
      rw [List.getElem?_set_self hil] at hx
      cases hx
      exact ⟨hb.1, hb.2.set _⟩
    · rw [List.getElem?_set_ne hj] at hx
      have hx2 := h.box j x hx
      refine ⟨hx2.1, ?_⟩
      have hne : x.1 ≠ b := fun e => hj (h.nd j i x _ hx hi e).symm
      exact (Below.heap_setCell W ⟨b, 0, none⟩ v' x.1 hne).trans hx2.2
  · have key : ∀ (j : Nat) x, (bx.set i (b, t, v'))[j]? = some x → ∃ x', bx[j]? = some x' ∧ x'.1 = x.1 := by
      intro j x hx
      by_cases hj : i = j
      · subst hj
        rw [List.getElem?_set_self hil] at hx
        cases hx
        exact ⟨_, hi, rfl⟩
      · rw [List.getElem?_set_ne hj] at hx
        exact ⟨x, hx, rfl⟩
    obtain ⟨x', a1, a2⟩ := key j x hx
    obtain ⟨y', b1, b2⟩ := key k y hy
    exact h.nd j k x' y' a1 b1 (by omega)
  · have := h.dfr D hD
    refine ⟨this.1, (Below.heap_setCell W ⟨b, 0, none⟩ v' D ?_).trans this.2⟩
    rintro rfl
    have e := hb.2.symm.trans this.2
    cases e

theorem BSt.mark {w W : World} {bx : List (Nat × TypeId × Value)} {ds : List Nat} (h : BSt w bx ds W) : BSt w bx (W.heap.size :: ds) (W.alloc (.deferred (some []))) := by
  have hz := h.bel.size
  refine ⟨fun i x hx => ⟨(h.box i x hx).1, (h.box i x hx).2.alloc _⟩, h.nd, fun D hD => ?_, h.bel.alloc hz _⟩
  rcases List.mem_cons.1 hD with rfl | hD
  · exact ⟨hz, World.alloc_heap_new W _⟩
  · exact ⟨(h.dfr D hD).1, (Below.heap_alloc W _ D (Array.getElem?_eq_some_iff.1 (h.dfr D hD).2).1).trans (h.dfr D hD).2⟩

/-- A block that is no cells and no mark is turned. -/
theorem BSt.put {w W : World} {bx : List (Nat × TypeId × Value)} {ds : List Nat} (h : BSt w bx ds W) {l : Nat} {r : Loop} (hl : W.heap[l]? = some (.loop r)) (hlw : w.heap.size ≤ l) (o : Obj) : BSt w bx ds (W.putObj l o) := by
  refine ⟨fun i x hx => ⟨(h.box i x hx).1, ?_⟩, h.nd, fun D hD => ⟨(h.dfr D hD).1, ?_⟩, h.bel.grown (grownBy_putObj' W l o) h.bel.size (by intro k e; cases e; exact hlw)⟩
  · have hx2 := (h.box i x hx).2
    refine (World.putObj_heap_other ?_).trans hx2
    rintro e
    have e2 : W.heap[l]? = some (.cells #[x.2.2] x.2.1 (0, 0)) := by rw [← e]; exact hx2
    rw [hl] at e2; cases e2
  · have hd := (h.dfr D hD).2
    refine (World.putObj_heap_other ?_).trans hd
    rintro e
    rw [e, hl] at hd; cases hd

/-- The same while a loop runs: its record, too. -/
structure LSt (w : World) (bx : List (Nat × TypeId × Value)) (ds : List Nat) (l : Nat) (r : Loop) (W : World) : Prop where
  st : BSt w bx ds W
  loop : W.heap[l]? = some (.loop r)
  ol : w.heap.size ≤ l

theorem LSt.enter {w W : World} {bx : List (Nat × TypeId × Value)} {ds : List Nat} (h : BSt w bx ds W) (r : Loop) : LSt w bx (W.heap.size :: ds) (W.heap.size + 1) r ((W.alloc (.deferred (some []))).alloc (.loop r)) := by
  have h1 := h.mark
  have hz := h.bel.size
  refine ⟨h1.below ((Below.refl _ _).alloc (Nat.le_refl _) _), ?_, by omega⟩
  have := World.alloc_heap_new (W.alloc (.deferred (some []))) (.loop r)
  rwa [World.size_alloc] at this
theorem LSt.below {w W W' : World} {bx : List (Nat × TypeId × Value)} {ds : List Nat} {l : Nat} {r : Loop} (h : LSt w bx ds l r W) (hb : Below W.heap.size W W') : LSt w bx ds l r W' :=
  ⟨h.st.below hb, (hb.block _ (Array.getElem?_eq_some_iff.1 h.loop).1).trans h.loop, h.ol⟩
theorem LSt.put {w W : World} {bx : List (Nat × TypeId × Value)} {ds : List Nat} {l : Nat} {r : Loop} (h : LSt w bx ds l r W) (r' : Loop) : LSt w bx ds l r' (W.putObj l (.loop r')) :=
  ⟨h.st.put h.loop h.ol _, World.putObj_heap_same (Array.getElem?_eq_some_iff.1 h.loop).1, h.ol⟩
theorem LSt.set {w W : World} {bx : List (Nat × TypeId × Value)} {ds : List Nat} {l : Nat} {r : Loop} (h : LSt w bx ds l r W) (i : Nat) {b : Nat} {t : TypeId} {v : Value} (hi : bx[i]? = some (b, t, v)) (v' : Value) : LSt w (bx.set i (b, t, v')) ds l r (W.setCell ⟨b, 0, none⟩ v') := by
  refine ⟨h.st.set i hi v', (Below.heap_setCell W ⟨b, 0, none⟩ v' l ?_).trans h.loop, h.ol⟩
  rintro rfl
  have e := (h.st.get i hi).symm.trans h.loop
  cases e

/-- What stands behind the marks' taking. -/
theorem BSt.take {w W : World} {bx : List (Nat × TypeId × Value)} {D : Nat} {ds : List Nat} (h : BSt w bx (D :: ds) W) (hn : D ∉ ds) : BSt w bx ds (W.putObj D (.deferred none)) := by
  have hD := h.dfr D (by simp)
  refine ⟨fun i x hx => ⟨(h.box i x hx).1, ?_⟩, h.nd, fun E hE => ⟨(h.dfr E (by simp [hE])).1, ?_⟩, h.bel.grown (grownBy_putObj' W D _) h.bel.size (by intro k e; cases e; exact hD.1)⟩
  · have hx2 := (h.box i x hx).2
    refine (World.putObj_heap_other ?_).trans hx2
    rintro e
    have e2 : W.heap[D]? = some (.cells #[x.2.2] x.2.1 (0, 0)) := by rw [← e]; exact hx2
    rw [hD.2] at e2; cases e2
  · have hd := (h.dfr E (by simp [hE])).2
    exact (World.putObj_heap_other (by rintro rfl; exact hn hE)).trans hd

/-- The same where what lies from N on may have turned. -/
theorem LSt.belowN {w W W' : World} {bx : List (Nat × TypeId × Value)} {ds : List Nat} {l N : Nat} {r : Loop} (h : LSt w bx ds l r W) (hb : Below N W W') (hbx : ∀ x ∈ bx, x.1 < N) (hds : ∀ D ∈ ds, D < N) (hl : l < N) (hw : w.heap.size ≤ N) : LSt w bx ds l r W' :=
  ⟨⟨fun i x hx => ⟨(h.st.box i x hx).1, (hb.block _ (hbx x (List.mem_of_getElem? hx))).trans (h.st.box i x hx).2⟩, h.st.nd, fun D hD => ⟨(h.st.dfr D hD).1, (hb.block _ (hds D hD)).trans (h.st.dfr D hD).2⟩, h.st.bel.trans (hb.mono hw)⟩, (hb.block _ hl).trans h.loop, h.ol⟩

end Go.Proofs.YtgbbgfjamneioaaDoor

namespace Go.Proofs.YtgbbgfjamneioaaDoor
open Go.RowKit

theorem run_appB (w : World) (ty : TypeId) (base : Nat) (v : Value) (xs : List Int) (hown : OwnB w base v xs)
    (ao : Option Addr) (m c : Nat) (ys : List Int) (hsrc : Src w ao m c ys) (hb : xs.length + m ≤ 140737488355328) (hbase : base ≤ w.heap.size) :
    ∃ v' w', (Builtin.append_ #[25, 25] ty #[v, .slice ao m c]).run Tryd.prog w = .ok v' w' ∧ OwnB w' base v' (xs ++ ys) ∧ w.grownBy w' v.ownBlock ∧ (v ≠ .slice none 0 0 → v' ≠ .slice none 0 0) := by
  obtain ⟨i0, hi, hz0, hz1, hz2⟩ := info_parts Tryd.infoB
  obtain ⟨hlen, hcap, hmax, hnil, hrd, hbyt⟩ := hsrc
  cases ao with
  | none =>
    obtain ⟨rfl, rfl⟩ := hnil rfl
    obtain rfl : ys = [] := List.eq_nil_of_length_eq_zero hlen
    exact ⟨v, w, run_append_owned_none (P := Tryd.prog) w base 25 ty 5 i0 1 Tryd.underlying25 hi v _ _ hown, by simpa using hown, ⟨rfl, rfl, rfl, Nat.le_refl _, fun _ _ _ => rfl⟩, fun h => h⟩
  | some ad =>
    obtain ⟨v', w', h1, h2, h3, h4⟩ := run_append_own (P := Tryd.prog) w base 25 ty 5 i0 (.int .u8 0) 1 1 Tryd.underlying25 hi hz0 hz1 hz2 rfl (by decide) v _ _ hown ad m c (ys.map (Value.int .u8)) (by simpa using hlen)
      (by
        intro j u hj
        have hjl : j < ys.length := by
          rcases Nat.lt_or_ge j ys.length with h | h
          · exact h
          · simp [List.getElem?_eq_none (show (ys.map (Value.int .u8)).length ≤ j by simpa using h)] at hj
        obtain ⟨b, off, he, hc⟩ := hrd (by intro h; simp [h] at hjl)
        cases he
        rw [add_none, hc j hjl]
        simp [List.getElem?_eq_getElem hjl] at hj
        subst hj
        simp [List.getD, List.getElem?_eq_getElem hjl])
      (ints_one _ _) (by unfold maxLen; omega) (by omega) hbase
    refine ⟨v', w', h1, ?_, h3, fun hv hv' => hv (h4.1 hv').1⟩
    unfold OwnB
    have e1 : (xs ++ ys).length = xs.length + m := by simp [hlen]
    rw [e1]
    simpa using h2

theorem run_appN (w : World) (ty : TypeId) (base : Nat) (v : Value) (xs : List Int) (hown : OwnB w base v xs)
    (ao : Option Addr) (m c : Nat) (ys : List Int) (hsrc : Src w ao m c ys)
    (t : Nat) (ht : (xs ++ ys).length = t) (hne : v ≠ .slice none 0 0 ∨ ys ≠ []) (hb : t ≤ 140737488355328) (hbase : base ≤ w.heap.size) :
    ∃ g c' w', (Builtin.append_ #[25, 25] ty #[v, .slice ao m c]).run Tryd.prog w = .ok (.slice (some ⟨g, 0, none⟩) t c') w' ∧ OwnB w' base (.slice (some ⟨g, 0, none⟩) t c') (xs ++ ys) ∧
      base ≤ g ∧ g < w'.heap.size ∧ t ≤ c' ∧ c' ≤ maxLen ∧ w.grownBy w' v.ownBlock := by
  have ht' : xs.length + m = t := by rw [← ht, List.length_append, hsrc.hlen]
  obtain ⟨v', w', h1, h2, h3, h4⟩ := run_appB w ty base v xs hown ao m c ys hsrc (by omega) hbase
  rcases h2.split with ⟨hv, hx'⟩ | ⟨g, c', hv, hb', hl', hc', hm'⟩
  · rcases hne with hne | hne
    · exact absurd hv (h4 hne)
    · simp at hx'; exact absurd hx'.2 hne
  · rw [ht] at hv hc'
    subst hv
    exact ⟨g, c', w', h1, h2, hb', hl', hc', hm', h3⟩

/-- The same where what comes of it may be nil. -/
theorem step_appS {ops : Array Oper} {o : Oper} {a : Act} {K : Act → World → Prop} {Q : Exit → Act → World → Prop} {E : Prop} (w : World) (hgd : o.guard = none) (s x : Operand)
    (ho : o.op = .call { callee := .builtin .append, args := #[s, x], argTypes := #[25, 25] })
    (base : Nat) (v : Value) (xs : List Int) (hs : a.eval s = v) (hown : OwnB w base v xs)
    (ao : Option Addr) (m c : Nat) (ys : List Int) (hx : a.eval x = .slice ao m c) (hsrc : Src w ao m c ys)
    (t : Nat) (ht : (xs ++ ys).length = t) (hb : t ≤ 140737488355328) (hbase : base ≤ w.heap.size)
    (hK : ∀ ad c' w', OwnB w' base (.slice ad t c') (xs ++ ys) → w.grownBy w' v.ownBlock → K (a.put o.dst (.slice ad t c')) w') :
    if Region.wanted o (yielded ops a.tmps) = true then Oper.wp Tryd.prog o a w K Q else E := by
  have hw : Region.wanted o (yielded ops a.tmps) = true := by simp [Region.wanted, hgd]
  rw [if_pos hw]
  have ht' : xs.length + m = t := by rw [← ht, List.length_append, hsrc.hlen]
  obtain ⟨v', w', hrun, h2, h3, h4⟩ := run_appB w o.type base v xs hown ao m c ys hsrc (by omega) hbase
  have hshape : ∃ ad c', v' = .slice ad t c' := by
    rcases h2.split with ⟨hv, hx'⟩ | ⟨g, c', hv, _⟩
    · rw [hx'] at ht
      simp at ht
      exact ⟨none, 0, by rw [hv, ← ht]⟩
    · exact ⟨some ⟨g, 0, none⟩, c', by rw [hv, ht]⟩
  obtain ⟨ad, c', rfl⟩ := hshape
  unfold Oper.wp
  simp [execOp, ho, resolve, invoke, builtin, hs, hx, hrun, Result.andThen]
  exact hK ad c' w' h2 h3

theorem step_appN {ops : Array Oper} {o : Oper} {a : Act} {K : Act → World → Prop} {Q : Exit → Act → World → Prop} {E : Prop} (w : World) (hgd : o.guard = none) (s x : Operand)
    (ho : o.op = .call { callee := .builtin .append, args := #[s, x], argTypes := #[25, 25] })
    (base : Nat) (v : Value) (xs : List Int) (hs : a.eval s = v) (hown : OwnB w base v xs)
    (ao : Option Addr) (m c : Nat) (ys : List Int) (hx : a.eval x = .slice ao m c) (hsrc : Src w ao m c ys)
    (t : Nat) (ht : (xs ++ ys).length = t) (hne : v ≠ .slice none 0 0 ∨ ys ≠ []) (hb : t ≤ 140737488355328) (hbase : base ≤ w.heap.size)
    (hK : ∀ g c' w', OwnB w' base (.slice (some ⟨g, 0, none⟩) t c') (xs ++ ys) → base ≤ g → g < w'.heap.size → t ≤ c' → c' ≤ maxLen → w.grownBy w' v.ownBlock → K (a.put o.dst (.slice (some ⟨g, 0, none⟩) t c')) w') :
    if Region.wanted o (yielded ops a.tmps) = true then Oper.wp Tryd.prog o a w K Q else E := by
  have hw : Region.wanted o (yielded ops a.tmps) = true := by simp [Region.wanted, hgd]
  rw [if_pos hw]
  obtain ⟨g, c', w', hrun, h1, h2, h3, h4, h5, h6⟩ := run_appN w o.type base v xs hown ao m c ys hsrc t ht hne hb hbase
  unfold Oper.wp
  simp [execOp, ho, resolve, invoke, builtin, hs, hx, hrun, Result.andThen]
  exact hK g c' w' h1 h2 h3 h4 h5 h6

end Go.Proofs.YtgbbgfjamneioaaDoor

namespace Go.Proofs.YtgbbgfjamneioaaDoor
open Go.RowKit Go.IntWalk

end Go.Proofs.YtgbbgfjamneioaaDoor

namespace Go.Proofs.YtgbbgfjamneioaaDoor
open Go.RowKit Go.IntWalk

theorem tl_cases (xs : List Int) (hb : ∀ x ∈ xs, 0 ≤ x ∧ x < 256) (h2 : 2 ≤ xs.length) :
    (xs.getD 1 0 ≤ 127 ∧ takeLenS (xs.drop 1) = (xs.getD 1 0, 1, 0)) ∨
    ((xs.getD 1 0 = 128 ∨ 131 < xs.getD 1 0) ∧ takeLenS (xs.drop 1) = (0, 0, 12)) ∨
    ∃ k : Nat, xs.getD 1 0 = 128 + (k : Int) ∧ 1 ≤ k ∧ k ≤ 3 ∧
      ((2 < xs.length ∧ xs.getD 2 0 = 0 ∧ takeLenS (xs.drop 1) = (0, 0, 12)) ∨
       ((2 < xs.length → xs.getD 2 0 ≠ 0) ∧ xs.length < 2 + k ∧ takeLenS (xs.drop 1) = (0, 0, 10)) ∨
       (2 < xs.length ∧ xs.getD 2 0 ≠ 0 ∧ 2 + k ≤ xs.length ∧ takeLenS (xs.drop 1) = if numOf ((xs.drop 2).take k) ≤ 127 then (0, 0, 12) else (numOf ((xs.drop 2).take k), 1 + (k : Int), 0))) := by
  have g0 : (xs.drop 1).getD 0 0 = xs.getD 1 0 := by simp [List.getD]
  have g1 : (xs.drop 1).getD 1 0 = xs.getD 2 0 := by simp [List.getD]
  have gl : (xs.drop 1).length = xs.length - 1 := by simp
  have gd : (xs.drop 1).drop 1 = xs.drop 2 := by simp
  have hf := hb (xs.getD 1 0) (by simp [List.getD, List.getElem?_eq_getElem (show 1 < xs.length by omega)])
  unfold takeLenS
  rw [g0, g1, gl, gd]
  generalize xs.getD 1 0 = f at *
  by_cases h3 : f ≤ 127
  · rw [if_pos h3]; exact .inl ⟨h3, rfl⟩
  · rw [if_neg h3]
    by_cases h4 : f = 128 ∨ 131 < f
    · rw [if_pos h4]; exact .inr (.inl ⟨h4, rfl⟩)
    · rw [if_neg h4]
      refine .inr (.inr ⟨(f - 128).toNat, by omega, by omega, by omega, ?_⟩)
      by_cases h5 : 1 < xs.length - 1 ∧ xs.getD 2 0 = 0
      · rw [if_pos h5]; exact .inl ⟨by omega, h5.2, rfl⟩
      · rw [if_neg h5]
        by_cases h6 : ((xs.length - 1 : Nat) : Int) < 1 + (f - 128)
        · rw [if_pos h6]; exact .inr (.inl ⟨fun h => by intro h'; exact h5 ⟨by omega, h'⟩, by omega, rfl⟩)
        · rw [if_neg h6]
          refine .inr (.inr ⟨by omega, fun h' => h5 ⟨by omega, h'⟩, by omega, ?_⟩)
          by_cases h7 : numOf ((xs.drop 2).take (f - 128).toNat) ≤ 127
          · rw [if_pos h7, if_pos h7]
          · rw [if_neg h7, if_neg h7, Int.toNat_of_nonneg (by omega)]

theorem ne_own {b n : Nat} (h : b < n) {l c : Nat} : some b ≠ (Value.slice (some ⟨n + 1, 0, none⟩) l c).ownBlock := by
  simp [Value.ownBlock]; omega
theorem ne_own2 (n : Nat) {l c : Nat} : some n ≠ (Value.slice (some ⟨n + 1, 0, none⟩) l c).ownBlock := by
  simp [Value.ownBlock]
theorem grown_frozen {w w1 : World} {r : Option Nat} (h : w.grownBy w1 r) (b : Nat) (hb : b < w.heap.size) (hr : some b ≠ r) : ∀ o, w1.frozen? ⟨b, o, none⟩ = w.frozen? ⟨b, o, none⟩ :=
  fun _ => World.frozen?_of_block (h.block b hb hr)
theorem cell?_alloc_lt2 {w : World} {b off : Nat} {v : Value} {o o' : Obj} (hb : b < w.heap.size) (hc : w.cell? ⟨b, off, none⟩ = some v) : ((w.alloc o).alloc o').cell? ⟨b, off, none⟩ = some v :=
  (World.cell?_alloc_lt _ _ _ (by simp; omega)).trans ((World.cell?_alloc_lt _ _ _ hb).trans hc)

end Go.Proofs.YtgbbgfjamneioaaDoor
