/-
  oid.Parse: what its deferred function catches (parse1), the memory while it runs (PSt), how it is left (parse_leave).
-/
import Derived.Test.YtfcjahdkpjbggaaDoorDLeave
import Derived.Test.YtfcjahdkpjbggaaDoorThrough
import Derived.Test.YtfcjahdkpjbggaaDoorParts
import Derived.Test.YtfcjahdkpjbggaaDoorMay
namespace Go.Proofs.YtfcjahdkpjbggaaDoor
open Go.RowKit Go.Shelf Go.IntWalk
attribute [local go_sem] Oper.semAt_some

set_option maxRecDepth 100000 in
set_option maxHeartbeats 1000000 in
theorem parse1_idle (n : Nat) (p q : Addr) (w : World) :
    CallsDIn Fence.wide n Tryd.prog 17 #[.pointer (some p), .pointer (some q)] .returning w fun e u' w' => e = .returned (.tuple #[]) ∧ u' = .returning ∧ w' = w := by
  refine callsDIn_of_wpSIn Tryd.func17 rfl trivial fun c₀ cs hu => ?_
  have h1 := ta_nil
  apply wpSIn_seq
  apply wpSIn_region
  simp [wpOpsSIn, go_sem, recoverD, hu, Tryd.ntmps17, Exit.thenS, h1, Array.replicate]
  apply wpSIn_seq
  apply wpSIn_region
  simp [wpOpsSIn, go_sem, Exit.thenS]
  refine wpSIn_cond (t := false) (by simp [Act.eval]) ?_
  simp only [Bool.false_eq_true, if_false]
  refine wpSIn_of_wpIn rfl (wpIn_skip ?_)
  cases c₀
  simp_all [bodyPostS, results, Tryd.results17]

set_option maxRecDepth 100000 in
set_option maxHeartbeats 1000000 in
theorem parse1_caught (n : Nat) (x : Int) (p q : Addr) (w : World) (v1 v2 : Value) (hp : w.cell? p = some v1) (hf : w.frozen? p = false) (hq : (w.setCell p (.slice none 0 0)).cell? q = some v2) (hg : (w.setCell p (.slice none 0 0)).frozen? q = false) :
    CallsDIn Fence.wide n Tryd.prog 17 #[.pointer (some p), .pointer (some q)] (.panicking (errP x)) w fun e u' w' => e = .returned (.tuple #[]) ∧ settle u' = .returning ∧ w' = (w.setCell p (.slice none 0 0)).setCell q (.int .i64 x) := by
  refine callsDIn_of_wpSIn Tryd.func17 rfl trivial fun c₀ cs hu => ?_
  unfold errP at hu
  have h1 := ta_err x
  apply wpSIn_seq
  apply wpSIn_region
  simp [wpOpsSIn, go_sem, recoverD, hu, Tryd.ntmps17, Exit.thenS, h1, Array.replicate]
  apply wpSIn_seq
  apply wpSIn_region
  simp [wpOpsSIn, go_sem, Exit.thenS]
  refine wpSIn_cond (t := true) (by simp [Act.eval]) ?_
  simp only [if_true]
  apply wpSIn_region
  simp [wpOpsSIn, go_sem, hp, hf, hq, hg, bodyPostS, results, Tryd.results17, settle]

structure PSt (w : World) (sv : ByteArray) (lp : Loop) (acc : List Int) (e : Int) (v : Value) (W : World) : Prop where
  loop : W.heap[w.heap.size + 4]? = some (.loop lp)
  dfr : W.heap[w.heap.size + 3]? = some (.deferred (some []))
  arcs : Boxed W (w.heap.size) 22 v
  er : Boxed W (w.heap.size + 1) 24 (.int .i64 e)
  b2 : Boxed W (w.heap.size + 2) 9 (.string sv)
  row : OwnI W w.heap.size v acc
  bel : Below w.heap.size w W

theorem PSt.drawn {w : World} {sv : ByteArray} {lp : Loop} {acc : List Int} {e : Int} {v : Value} {W W' : World} (h : PSt w sv lp acc e v W) (d : Drawn W W') : PSt w sv lp acc e v W' :=
  ⟨by rw [d.heap]; exact h.loop, by rw [d.heap]; exact h.dfr, by unfold Boxed; rw [d.heap]; exact h.arcs, by unfold Boxed; rw [d.heap]; exact h.er, by unfold Boxed; rw [d.heap]; exact h.b2, h.row.heap d.heap, d.below h.bel⟩

/-- The record is turned. -/
theorem PSt.put {w : World} {sv : ByteArray} {lp : Loop} {acc : List Int} {e : Int} {v : Value} {W : World} (h : PSt w sv lp acc e v W) (lp' : Loop) : PSt w sv lp' acc e v (W.putObj (w.heap.size + 4) (.loop lp')) := by
  have hlt : w.heap.size + 4 < W.heap.size := (Array.getElem?_eq_some_iff.1 h.loop).1
  have g := grownBy_putObj' W (w.heap.size + 4) (.loop lp')
  refine ⟨World.putObj_heap_same hlt, (World.putObj_heap_other (by omega)).trans h.dfr, h.arcs.kept g (by simp), h.er.kept g (by simp), h.b2.kept g (by simp), h.row.kept g (.inr fun he => ?_), h.bel.grown g h.bel.size (by intro k e; cases e; omega)⟩
  obtain ⟨c, f, hc⟩ := h.row.block _ he
  rw [h.loop] at hc
  cases hc

/-- Numbers are appended, and the variable is written. -/
theorem PSt.append {w : World} {sv : ByteArray} {lp : Loop} {acc acc' : List Int} {e : Int} {v v' : Value} {W w2 : World} (h : PSt w sv lp acc e v W) (o : Obj) (hg : (W.alloc o).grownBy w2 v.ownBlock) (ho : OwnI w2 w.heap.size v' acc') :
    PSt w sv lp acc' e v' (w2.setCell ⟨w.heap.size, 0, none⟩ v') := by
  have nb : ∀ (k : Nat) (x : Obj), W.heap[k]? = some x → (∀ c f, x ≠ .cells c 3 f) → w2.heap[k]? = some x := by
    intro k x hx hn
    have hlt := (Array.getElem?_eq_some_iff.1 hx).1
    rw [hg.block k (by simp; omega) (fun he => ?_), Below.heap_alloc _ _ _ hlt]
    · exact hx
    · obtain ⟨c, f, hc⟩ := h.row.block k he.symm
      rw [hx] at hc
      cases hc
      exact hn _ _ rfl
  have nx : ∀ (B : Nat) (t : TypeId) (u : Value), t ≠ 3 → Boxed W B t u → Boxed w2 B t u := fun B t u ht hb => nb B _ hb (by intro c f hc; cases hc; exact ht rfl)
  have a2 := nx _ _ _ (by decide) h.arcs
  refine ⟨?_, ?_, a2.set _, (nx _ _ _ (by decide) h.er).other (by omega) _, (nx _ _ _ (by decide) h.b2).other (by omega) _, ho.kept (grownBy_setCell' w2 (w.heap.size) v') (.inr fun he => ?_), ?_⟩
  · rw [Below.heap_setCell _ _ _ _ (by simp)]; exact nb _ _ h.loop (by intro c f hc; cases hc)
  · rw [Below.heap_setCell _ _ _ _ (by simp)]; exact nb _ _ h.dfr (by intro c f hc; cases hc)
  · obtain ⟨c, f, hc⟩ := ho.block _ he
    have h3 : w2.heap[w.heap.size]? = some (.cells #[v] 22 (0, 0)) := a2
    rw [h3] at hc
    cases hc
  · refine ((h.bel.alloc h.bel.size _).grown hg (by have := h.bel.size; simp; omega) (fun k hk => (h.row.lt k hk).1)).setCell (by simp) _

/-- Both results are written. -/
theorem PSt.fail {w : World} {sv : ByteArray} {lp : Loop} {acc : List Int} {e : Int} {v : Value} {W : World} (h : PSt w sv lp acc e v W) (x : Int) :
    PSt w sv lp [] x (.slice none 0 0) ((W.setCell ⟨w.heap.size, 0, none⟩ (.slice none 0 0)).setCell ⟨w.heap.size + 1, 0, none⟩ (.int .i64 x)) := by
  refine ⟨?_, ?_, (h.arcs.set _).other (by omega) _, (h.er.other (by omega) _).set _, (h.b2.other (by omega) _).other (by omega) _, OwnI.nil _ _, (h.bel.setCell (by simp) _).setCell (by simp) _⟩
  · rw [Below.heap_setCell _ _ _ _ (by simp), Below.heap_setCell _ _ _ _ (by simp)]; exact h.loop
  · rw [Below.heap_setCell _ _ _ _ (by simp), Below.heap_setCell _ _ _ _ (by simp)]; exact h.dfr

/-- The block of deferred calls is shut. -/
theorem PSt.shut {w : World} {sv : ByteArray} {lp : Loop} {acc : List Int} {e : Int} {v : Value} {W : World} (h : PSt w sv lp acc e v W) :
    Boxed (W.putObj (w.heap.size + 3) (.deferred none)) (w.heap.size) 22 v ∧ Boxed (W.putObj (w.heap.size + 3) (.deferred none)) (w.heap.size + 1) 24 (.int .i64 e) ∧ OwnI (W.putObj (w.heap.size + 3) (.deferred none)) w.heap.size v acc ∧ Below w.heap.size w (W.putObj (w.heap.size + 3) (.deferred none)) := by
  have g := grownBy_putObj' W (w.heap.size + 3) (.deferred none)
  refine ⟨h.arcs.kept g (by simp), h.er.kept g (by simp), h.row.kept g (.inr fun he => ?_), h.bel.grown g h.bel.size (by intro k e; cases e; omega)⟩
  obtain ⟨c, f, hc⟩ := h.row.block _ he
  rw [h.dfr] at hc
  cases hc

set_option maxRecDepth 100000 in
/-- How Decode is left: the loop's mark, then the deferred function; what it catches is the answer. -/
theorem parse_leave (w : World) (sv : ByteArray) (lp : Loop) (acc : List Int) (e : Int) (v : Value) (W : World) (tmps : Array Value) (u : FrameMode) (res : List Int × Int)
    (ht1 : tmps[2]? = some (.pointer (some ⟨w.heap.size, 0, none⟩))) (ht2 : tmps[3]? = some (.pointer (some ⟨w.heap.size + 1, 0, none⟩)))
    (hD : PSt w sv lp acc e v W) (hv : ∃ ao' L c', v = .slice ao' L c') (hu : (u = .returning ∧ res = (acc, e)) ∨ (∃ x, u = .panicking (errP x) ∧ res = ([], x))) :
    LeavesInM Fence.wide 4 Tryd.prog Tryd.f9 tmps (fun e w' => ∃ ao' L c', e = .returned (.tuple #[.slice ao' L c', .int .i64 res.2]) ∧ OwnI w' w.heap.size (.slice ao' L c') res.1 ∧ Below w.heap.size w w')
      [{ target := .collected (w.heap.size + 3), args := #[] }, { target := .fn (.func 17) #[.pointer (some ⟨w.heap.size, 0, none⟩), .pointer (some ⟨w.heap.size + 1, 0, none⟩)], args := #[] }] u W := by
  have hru : u ≠ .run := by rcases hu with ⟨rfl, _⟩ | ⟨x, rfl, _⟩ <;> simp
  obtain ⟨a1, e1, o1, b1⟩ := hD.shut
  refine ⟨hru, .inl ⟨_, _, rfl, run_takeDeferred hD.dfr, hru, .inr ⟨by simp [Fence.wide], .func 17, _, 17, #[.pointer (some ⟨w.heap.size, 0, none⟩), .pointer (some ⟨w.heap.size + 1, 0, none⟩)], rfl, ?_, fun _ _ => trivial, ?_⟩⟩⟩
  · simp [invoke, go_sem]
  · rcases hu with ⟨rfl, rfl⟩ | ⟨x, rfl, rfl⟩
    · refine (parse1_idle 3 _ _ _).mono ?_
      rintro e' u' w' ⟨rfl, rfl, rfl⟩
      obtain ⟨ao', L, c', rfl⟩ := hv
      have c1 := a1.cell
      have c2 := e1.cell
      exact ⟨.tuple #[.slice ao' L c', .int .i64 e], by simp [results, Tryd.results9, go_sem, ht1, ht2, c1, c2, Array.getD_eq_getD_getElem?], _, _, _, rfl, o1, b1⟩
    · have e2 := e1.other (B' := w.heap.size) (by omega) (.slice none 0 0)
      refine (parse1_caught 3 x _ _ _ _ _ a1.cell a1.frozen e2.cell e2.frozen).mono ?_
      rintro e' u' w' ⟨rfl, hu', rfl⟩
      simp only [hu']
      have c1 := ((a1.set (.slice none 0 0)).other (B' := w.heap.size + 1) (by omega) (.int .i64 x)).cell
      have c2 := (e2.set (.int .i64 x)).cell
      exact ⟨.tuple #[.slice none 0 0, .int .i64 x], by simp [results, Tryd.results9, go_sem, ht1, ht2, c1, c2, Array.getD_eq_getD_getElem?], none, 0, 0, rfl, OwnI.nil _ _, (b1.setCell (by simp) _).setCell (by simp) _⟩

theorem PSt.box {w : World} {sv : ByteArray} {lp : Loop} {acc : List Int} {e : Int} {v : Value} {W w2 : World} (h : PSt w sv lp acc e v W) (o : Obj) (hg : (W.alloc o).grownBy w2 v.ownBlock) : Boxed w2 (w.heap.size) 22 v :=
  (h.arcs.alloc o).kept hg (h.arcs.not_row (by decide) h.row)

/-- The results are written as they are. -/
theorem PSt.again {w : World} {sv : ByteArray} {lp : Loop} {acc : List Int} {e : Int} {v : Value} {W : World} (h : PSt w sv lp acc e v W) (x : Int) :
    PSt w sv lp acc x v ((W.setCell ⟨w.heap.size, 0, none⟩ v).setCell ⟨w.heap.size + 1, 0, none⟩ (.int .i64 x)) := by
  have a1 := h.arcs.set v
  have e1 := h.er.other (B' := w.heap.size) (by omega) v
  have r1 := h.row.kept (grownBy_setCell' W (w.heap.size) v) (.inr fun he => h.arcs.not_row (by decide) h.row he.symm)
  have r2 := r1.kept (grownBy_setCell' _ (w.heap.size + 1) (.int .i64 x)) (.inr fun he => e1.not_row (by decide) r1 he.symm)
  refine ⟨?_, ?_, a1.other (by omega) _, e1.set _, (h.b2.other (by omega) _).other (by omega) _, r2, (h.bel.setCell (by simp) _).setCell (by simp) _⟩
  · rw [Below.heap_setCell _ _ _ _ (by simp), Below.heap_setCell _ _ _ _ (by simp)]; exact h.loop
  · rw [Below.heap_setCell _ _ _ _ (by simp), Below.heap_setCell _ _ _ _ (by simp)]; exact h.dfr

end Go.Proofs.YtfcjahdkpjbggaaDoor
