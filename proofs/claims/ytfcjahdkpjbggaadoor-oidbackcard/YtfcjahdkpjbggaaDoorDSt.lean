/-
  What lies in memory while oid.Decode goes over the numbers: its variables, the row of arcs, the loop's record. And appending to rows of numbers within a fence.
-/
import Derived.Test.YtfcjahdkpjbggaaDoorSound
import Derived.Test.YtfcjahdkpjbggaaDoorDecS
namespace Go.Proofs.YtfcjahdkpjbggaaDoor
open Go.RowKit Go.Shelf Go.IntWalk

theorem wpListIn_appIN {F : Fence} {n : Nat} {ops : Array Oper} {rest : List Oper} {o : Oper} {a : Act} {Q : Exit → Act → World → Prop} (w : World) (hgd : o.guard = none) (s x : Operand)
    (ho : o.op = .call { callee := .builtin .append, args := #[s, x], argTypes := #[22, 22] })
    (base : Nat) (v : Value) (xs : List Int) (hs : a.eval s = v) (hown : OwnI w base v xs)
    (ad : Addr) (m c : Nat) (ys : List Int) (hx : a.eval x = .slice (some ad) m c) (hsrc : SrcI w (some ad) m c ys)
    (t : Nat) (ht : (xs ++ ys).length = t) (hne : ys ≠ []) (hb : t ≤ 17592186044416) (hbase : base ≤ w.heap.size)
    (h : ∀ g c' w', OwnI w' base (.slice (some ⟨g, 0, none⟩) t c') (xs ++ ys) → base ≤ g → g < w'.heap.size → t ≤ c' → c' ≤ maxLen → w.grownBy w' v.ownBlock →
      wpListIn F n Tryd.prog ops Q rest (a.put o.dst (.slice (some ⟨g, 0, none⟩) t c')) w') :
    wpListIn F n Tryd.prog ops Q (o :: rest) a w := by
  obtain ⟨i0, hi, hz0, hz1, hz2⟩ := info_parts Tryd.infoI
  obtain ⟨hlen, hcap, hmax, hnil, hrd, hbyt⟩ := hsrc
  have ht' : xs.length + m = t := by rw [← ht, List.length_append, hlen]
  refine wpListIn_append_own w hgd s x 22 ho base 3 i0 (.int .i64 0) 1 8 Tryd.underlying22 hi hz0 hz1 hz2 rfl (by decide) v _ _ hs hown ad m c (ys.map (Value.int .i64)) hx (by simpa using hlen) ?_ (ints_one _ _) (by unfold maxLen; omega) (by omega) hbase ?_
  · intro j u hj
    have hjl : j < ys.length := by
      rcases Nat.lt_or_ge j ys.length with h | h
      · exact h
      · simp [List.getElem?_eq_none (show (ys.map (Value.int .i64)).length ≤ j by simpa using h)] at hj
    obtain ⟨b, off, he, hc⟩ := hrd hne
    cases he
    rw [add_none, hc j hjl]
    simp [List.getElem?_eq_getElem hjl] at hj
    subst hj
    simp [List.getD, List.getElem?_eq_getElem hjl]
  · intro v' w' h1 h2 h3
    have h1' : OwnI w' base v' (xs ++ ys) := by
      unfold OwnI
      have e1 : (xs ++ ys).length = xs.length + m := by simp [hlen]
      rw [e1]
      simpa using h1
    rcases h1'.split with ⟨hv, hx'⟩ | ⟨g, c', hv, hb', hl', hc', hm'⟩
    · simp at hx'
      exact absurd hx'.2 hne
    · rw [ht] at hv hc'
      subst hv
      exact h g c' w' h1' hb' hl' hc' hm' h2

theorem OwnI.block {W : World} {base : Nat} {v : Value} {acc : List Int} (h : OwnI W base v acc) : ∀ k, v.ownBlock = some k → ∃ c f, W.heap[k]? = some (.cells c 3 f) := by
  intro k hk
  obtain ⟨_, h⟩ := h
  rcases h with ⟨rfl, _⟩ | ⟨g, cap, cur, rfl, _, hh, _⟩
  · simp [Value.ownBlock] at hk
  · simp [Value.ownBlock] at hk
    subst hk
    exact ⟨_, _, hh⟩

/-- Memory while Decode goes over the numbers. -/
structure DSt (w : World) (ao : Option Addr) (n cap : Nat) (lp : Loop) (acc : List Int) (e : Int) (v : Value) (W : World) : Prop where
  loop : W.heap[w.heap.size + 5]? = some (.loop lp)
  dfr : W.heap[w.heap.size + 4]? = some (.deferred (some []))
  b : Boxed W w.heap.size 23 (.slice ao n cap)
  arcs : Boxed W (w.heap.size + 1) 22 v
  er : Boxed W (w.heap.size + 2) 24 (.int .i64 e)
  b2 : Boxed W (w.heap.size + 3) 23 (.slice ao n cap)
  row : OwnI W w.heap.size v acc
  bel : Below w.heap.size w W

theorem DSt.drawn {w : World} {ao : Option Addr} {n cap : Nat} {lp : Loop} {acc : List Int} {e : Int} {v : Value} {W W' : World} (h : DSt w ao n cap lp acc e v W) (d : Drawn W W') : DSt w ao n cap lp acc e v W' :=
  ⟨by rw [d.heap]; exact h.loop, by rw [d.heap]; exact h.dfr, by unfold Boxed; rw [d.heap]; exact h.b, by unfold Boxed; rw [d.heap]; exact h.arcs, by unfold Boxed; rw [d.heap]; exact h.er, by unfold Boxed; rw [d.heap]; exact h.b2, h.row.heap d.heap, d.below h.bel⟩

/-- The record is turned. -/
theorem DSt.put {w : World} {ao : Option Addr} {n cap : Nat} {lp : Loop} {acc : List Int} {e : Int} {v : Value} {W : World} (h : DSt w ao n cap lp acc e v W) (lp' : Loop) : DSt w ao n cap lp' acc e v (W.putObj (w.heap.size + 5) (.loop lp')) := by
  have hlt : w.heap.size + 5 < W.heap.size := (Array.getElem?_eq_some_iff.1 h.loop).1
  have g := grownBy_putObj' W (w.heap.size + 5) (.loop lp')
  refine ⟨World.putObj_heap_same hlt, (World.putObj_heap_other (by omega)).trans h.dfr, h.b.kept g (by simp), h.arcs.kept g (by simp), h.er.kept g (by simp), h.b2.kept g (by simp), h.row.kept g (.inr fun he => ?_), h.bel.grown g h.bel.size (by intro k e; cases e; omega)⟩
  obtain ⟨c, f, hc⟩ := h.row.block _ he
  rw [h.loop] at hc
  cases hc

/-- Numbers are appended, and the variable is written. -/
theorem DSt.append {w : World} {ao : Option Addr} {n cap : Nat} {lp : Loop} {acc acc' : List Int} {e : Int} {v v' : Value} {W w2 : World} (h : DSt w ao n cap lp acc e v W) (o : Obj) (hg : (W.alloc o).grownBy w2 v.ownBlock) (ho : OwnI w2 w.heap.size v' acc') :
    DSt w ao n cap lp acc' e v' (w2.setCell ⟨w.heap.size + 1, 0, none⟩ v') := by
  have nb : ∀ (k : Nat) (x : Obj), W.heap[k]? = some x → (∀ c f, x ≠ .cells c 3 f) → w2.heap[k]? = some x := by
    intro k x hx hn
    have hlt := (Array.getElem?_eq_some_iff.1 hx).1
    rw [hg.block k (by simp; omega) (fun he => ?_), Below.heap_alloc _ _ _ hlt]
    · exact hx
    · obtain ⟨c, f, hc⟩ := h.row.block k he.symm
      rw [hx] at hc
      cases hc
      exact hn _ _ rfl
  have nx : ∀ (B : Nat) (t : TypeId) (u : Value), t ≠ 3 → Boxed W B t u → Boxed w2 B t u := fun B t u ht hb => nb B _ hb (by intro c f hc; cases hc; exact ht rfl)
  have a2 := nx _ _ _ (by decide) h.arcs
  refine ⟨?_, ?_, (nx _ _ _ (by decide) h.b).other (by omega) _, a2.set _, (nx _ _ _ (by decide) h.er).other (by omega) _, (nx _ _ _ (by decide) h.b2).other (by omega) _, ho.kept (grownBy_setCell' w2 (w.heap.size + 1) v') (.inr fun he => ?_), ?_⟩
  · rw [Below.heap_setCell _ _ _ _ (by simp)]; exact nb _ _ h.loop (by intro c f hc; cases hc)
  · rw [Below.heap_setCell _ _ _ _ (by simp)]; exact nb _ _ h.dfr (by intro c f hc; cases hc)
  · obtain ⟨c, f, hc⟩ := ho.block _ he
    have h3 : w2.heap[w.heap.size + 1]? = some (.cells #[v] 22 (0, 0)) := a2
    rw [h3] at hc
    cases hc
  · refine ((h.bel.alloc h.bel.size _).grown hg (by have := h.bel.size; simp; omega) (fun k hk => (h.row.lt k hk).1)).setCell (by simp) _

end Go.Proofs.YtfcjahdkpjbggaaDoor
