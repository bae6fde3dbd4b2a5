/-
  A list of lent byte strings, as the statements make it: a row of the call's own that holds slices, each of them lent.
-/
import Derived.Test.YtgajejomibnghaaDoorBts
import Derived.Test.YtgajejomibnghaaDoorStep
namespace Go.Proofs.YtgajejomibnghaaDoor
open Go.RowKit Go.IntWalk

theorem OwnB.belowA' {w w' : World} {base : Nat} {v : Value} {xs : List Int} (h : OwnB w base v xs) (hb : Below w.heap.size w w') : OwnB w' base v xs := h.below hb (fun k hk => (World.ownsRow.lt h k hk).2)

theorem Tryd.infoV : (Tryd.prog.info? 22).map (fun i => (i.zero, i.size, i.bytes)) = some (some (.slice none 0 0), 1, 24) := by kernel_rfl

/-- A row of slices that the call owns. -/
def OwnV (w : World) (base : Nat) (v : Value) (vs : List Value) : Prop := w.ownsRow base 22 1 v vs.length vs

theorem OwnV.nil (w : World) (base : Nat) : OwnV w base (.slice none 0 0) [] := World.ownsRow_nil _ _ _ _

theorem OwnV.split {w : World} {base : Nat} {v : Value} {vs : List Value} (h : OwnV w base v vs) :
    (v = .slice none 0 0 ∧ vs = []) ∨ ∃ g cap, v = .slice (some ⟨g, 0, none⟩) vs.length cap ∧ base ≤ g ∧ g < w.heap.size ∧ vs.length ≤ cap ∧ cap ≤ maxLen := by
  rcases own_split h with ⟨h1, _, h3⟩ | h
  · exact .inl ⟨h1, h3⟩
  · exact .inr h

theorem OwnV.lt {w : World} {base : Nat} {v : Value} {vs : List Value} (h : OwnV w base v vs) : ∀ k, v.ownBlock = some k → base ≤ k ∧ k < w.heap.size := World.ownsRow.lt h

theorem OwnV.belowA {w w' : World} {base : Nat} {v : Value} {vs : List Value} (h : OwnV w base v vs) (hb : Below w.heap.size w w') : OwnV w' base v vs := by
  have hlt := h.lt
  obtain ⟨hl, h⟩ := h
  refine ⟨hl, ?_⟩
  rcases h with h | ⟨g, cap, cur, rfl, hbg, hh, r⟩
  · exact .inl h
  · exact .inr ⟨g, cap, cur, rfl, hbg, by rw [hb.block g (hlt g rfl).2]; exact hh, r⟩

theorem OwnV.kept {w w' : World} {base : Nat} {v : Value} {vs : List Value} {row : Option Nat} (h : OwnV w base v vs) (hg : w.grownBy w' row) (hne : v.ownBlock = none ∨ v.ownBlock ≠ row) : OwnV w' base v vs :=
  World.ownsRow.kept h hg hne

theorem OwnV.alloc {w : World} {base : Nat} {v : Value} {vs : List Value} (h : OwnV w base v vs) (o : Obj) : OwnV (w.alloc o) base v vs := World.ownsRow.alloc h o

theorem OwnV.cell {w : World} {base g n cap : Nat} {vs : List Value} (h : OwnV w base (.slice (some ⟨g, 0, none⟩) n cap) vs) (i : Nat) (hi : i < vs.length) (d : Value) : w.cell? ⟨g, i, none⟩ = some (vs.getD i d) := by
  have h1 := World.ownsRow.cells h (g := g) rfl i (vs.getD i d) (by simp [List.getElem?_eq_getElem hi, List.getD])
  rw [add_none] at h1
  simpa using h1

theorem OwnV.eqlen {w : World} {base g n cap : Nat} {vs : List Value} (h : OwnV w base (.slice (some ⟨g, 0, none⟩) n cap) vs) : n = vs.length := by
  rcases OwnV.split h with ⟨h, _⟩ | ⟨g', cap', he, _⟩
  · simp at h
  · simp at he; exact he.2.1

/-- A row of bytes and a row of slices are not one block. -/
theorem own_types {w : World} {base base' g n c : Nat} {xs : List Int} {v : Value} {vs : List Value} (h : OwnB w base (.slice (some ⟨g, 0, none⟩) n c) xs) (h' : OwnV w base' v vs) : v.ownBlock ≠ some g := by
  intro he
  obtain ⟨_, h⟩ := h
  obtain ⟨_, h'⟩ := h'
  rcases h with ⟨h, _⟩ | ⟨g1, c1, cur1, e1, _, hh1, _⟩
  · simp at h
  · simp at e1
    obtain ⟨rfl, _, _⟩ := e1
    rcases h' with ⟨h, _⟩ | ⟨g2, c2, cur2, e2, _, hh2, _⟩
    · rw [h] at he; simp [Value.ownBlock] at he
    · rw [e2] at he
      simp [Value.ownBlock] at he
      subst he
      rw [hh1] at hh2
      simp at hh2

/-- 'append(parts, x)'. -/
theorem wpList_appV {ops : Array Oper} {rest : List Oper} {o : Oper} {a : Act} {Q : Exit → Act → World → Prop} (w : World) (hgd : o.guard = none) (s x : Operand)
    (ho : o.op = .call { callee := .builtin .append, args := #[s, x], argTypes := #[23, 23] })
    (base : Nat) (v : Value) (vs : List Value) (hs : a.eval s = v) (hown : OwnV w base v vs) (b : Nat) (ao : Option Addr) (m c : Nat) (hx : a.eval x = .slice (some ⟨b, 0, none⟩) 1 1) (hcell : w.cell? ⟨b, 0, none⟩ = some (.slice ao m c))
    (t : Nat) (ht : vs.length + 1 = t) (hb : t ≤ 4000000000) (hbase : base ≤ w.heap.size)
    (h : ∀ g c' w', OwnV w' base (.slice (some ⟨g, 0, none⟩) t c') (vs ++ [.slice ao m c]) → base ≤ g → g < w'.heap.size → t ≤ c' → c' ≤ maxLen → w.grownBy w' v.ownBlock → wpList Tryd.prog ops Q rest (a.put o.dst (.slice (some ⟨g, 0, none⟩) t c')) w') :
    wpList Tryd.prog ops Q (o :: rest) a w := by
  obtain ⟨i0, hi, hz0, hz1, hz2⟩ := info_parts Tryd.infoV
  refine wpList_append_own w hgd s x 23 ho base 22 i0 (.slice none 0 0) 1 24 Tryd.underlying23 hi hz0 hz1 hz2 rfl (by decide) v _ _ hs hown ⟨b, 0, none⟩ 1 1 [.slice ao m c] hx rfl ?_ (by simp; rfl) (by unfold maxLen; omega) (by omega) hbase ?_
  · intro j u hj
    match j, hj with
    | 0, hj => simp at hj; subst hj; rw [add_none]; exact hcell
  · intro v' w' h1 h2 h3
    have h1' : OwnV w' base v' (vs ++ [.slice ao m c]) := by unfold OwnV; rw [List.length_append]; exact h1
    rcases h1'.split with ⟨hv, hx'⟩ | ⟨g, c', hv, hb', hl', hc', hm'⟩
    · simp at hx'
    · have e : (vs ++ [Value.slice ao m c]).length = t := by rw [List.length_append]; exact ht
      rw [e] at hv hc'
      subst hv
      exact h g c' w' h1' hb' hl' hc' hm' h2

/-- Each of the slices vs is one that was lent of the bytes ls. -/
structure Lents (w : World) (base : Nat) (vs : List Value) (ls : List (List Int)) : Prop where
  len : vs.length = ls.length
  each : ∀ j, j < vs.length → ∃ g c, vs.getD j (.slice none 0 0) = .slice (some ⟨g, 0, none⟩) (ls.getD j []).length c ∧ (ls.getD j []).length + 1 ≤ c ∧ c ≤ maxLen ∧ base ≤ g ∧ g < w.heap.size ∧ OwnB w base (.slice (some ⟨g, 0, none⟩) ((ls.getD j []).length + 1) c) (ls.getD j [] ++ [90])

theorem Lents.nil (w : World) (base : Nat) : Lents w base [] [] := ⟨rfl, fun j h => absurd h (by simp)⟩

theorem Lents.belowA {w w' : World} {base : Nat} {vs : List Value} {ls : List (List Int)} (h : Lents w base vs ls) (hb : Below w.heap.size w w') : Lents w' base vs ls :=
  ⟨h.len, fun j hj => by obtain ⟨g, c, h1, h2, h3, h4, h5, h6⟩ := h.each j hj; exact ⟨g, c, h1, h2, h3, h4, Nat.lt_of_lt_of_le h5 hb.size, h6.belowA' hb⟩⟩

theorem Lents.grown {w w' : World} {base : Nat} {vs : List Value} {ls : List (List Int)} {row : Option Nat} (h : Lents w base vs ls) (hg : w.grownBy w' row)
    (hne : ∀ g n c (xs : List Int), OwnB w base (.slice (some ⟨g, 0, none⟩) n c) xs → g < w.heap.size → row ≠ some g) : Lents w' base vs ls :=
  ⟨h.len, fun j hj => by
    obtain ⟨g, c, h1, h2, h3, h4, h5, h6⟩ := h.each j hj
    exact ⟨g, c, h1, h2, h3, h4, Nat.lt_of_lt_of_le h5 hg.size, h6.kept hg (.inr (fun he => hne g _ _ _ h6 h5 he.symm))⟩⟩

theorem Lents.snoc {w : World} {base : Nat} {vs : List Value} {ls : List (List Int)} (h : Lents w base vs ls) (g n c : Nat) (l : List Int) (hl : l.length = n) (h2 : n + 1 ≤ c) (h3 : c ≤ maxLen) (h4 : base ≤ g) (h5 : g < w.heap.size)
    (h6 : OwnB w base (.slice (some ⟨g, 0, none⟩) (n + 1) c) (l ++ [90])) : Lents w base (vs ++ [.slice (some ⟨g, 0, none⟩) n c]) (ls ++ [l]) := by
  refine ⟨by simp [h.len], fun j hj => ?_⟩
  subst hl
  rcases Nat.lt_or_ge j vs.length with hlt | hge
  · obtain ⟨g', c', k1, k2, k3, k4, k5, k6⟩ := h.each j hlt
    have e1 : (vs ++ [Value.slice (some ⟨g, 0, none⟩) l.length c]).getD j (.slice none 0 0) = vs.getD j (.slice none 0 0) := by simp [List.getD, List.getElem?_append_left hlt]
    have e2 : (ls ++ [l]).getD j [] = ls.getD j [] := by simp [List.getD, List.getElem?_append_left (show j < ls.length by rw [← h.len]; exact hlt)]
    rw [e1, e2]
    exact ⟨g', c', k1, k2, k3, k4, k5, k6⟩
  · obtain rfl : j = vs.length := by simp at hj; omega
    have e1 : (vs ++ [Value.slice (some ⟨g, 0, none⟩) l.length c]).getD vs.length (.slice none 0 0) = .slice (some ⟨g, 0, none⟩) l.length c := by simp [List.getD]
    have e2 : (ls ++ [l]).getD vs.length [] = l := by simp [List.getD, h.len]
    rw [e1, e2]
    exact ⟨g, c, rfl, h2, h3, h4, h5, h6⟩


theorem run_appV (w : World) (ty : TypeId) (base : Nat) (v : Value) (vs : List Value) (hown : OwnV w base v vs) (b : Nat) (ao : Option Addr) (m c : Nat) (hcell : w.cell? ⟨b, 0, none⟩ = some (.slice ao m c))
    (t : Nat) (ht : vs.length + 1 = t) (hb : t ≤ 4000000000) (hbase : base ≤ w.heap.size) :
    ∃ g c' w', (Builtin.append_ #[23, 23] ty #[v, .slice (some ⟨b, 0, none⟩) 1 1]).run Tryd.prog w = .ok (.slice (some ⟨g, 0, none⟩) t c') w' ∧ OwnV w' base (.slice (some ⟨g, 0, none⟩) t c') (vs ++ [.slice ao m c]) ∧ base ≤ g ∧ g < w'.heap.size ∧ t ≤ c' ∧ c' ≤ maxLen ∧ w.grownBy w' v.ownBlock := by
  obtain ⟨i0, hi, hz0, hz1, hz2⟩ := info_parts Tryd.infoV
  obtain ⟨v', w', h1, h2, h3, h4⟩ := run_append_own (P := Tryd.prog) w base 23 ty 22 i0 (.slice none 0 0) 1 24 Tryd.underlying23 hi hz0 hz1 hz2 rfl (by decide) v _ _ hown ⟨b, 0, none⟩ 1 1 [.slice ao m c] rfl
    (by
      intro j u hj
      match j, hj with
      | 0, hj => simp at hj; subst hj; rw [add_none]; exact hcell)
    (by simp; rfl) (by unfold maxLen; omega) (by omega) hbase
  have h1' : OwnV w' base v' (vs ++ [.slice ao m c]) := by unfold OwnV; rw [List.length_append]; exact h2
  rcases h1'.split with ⟨hv, hx'⟩ | ⟨g, c', hv, hb', hl', hc', hm'⟩
  · simp at hx'
  · have e : (vs ++ [Value.slice ao m c]).length = t := by rw [List.length_append]; exact ht
    rw [e] at hv hc'
    subst hv
    exact ⟨g, c', w', h1, h1', hb', hl', hc', hm', h3⟩

theorem step_appV {ops : Array Oper} {o : Oper} {a : Act} {K : Act → World → Prop} {Q : Exit → Act → World → Prop} {E : Prop} (w : World) (hgd : o.guard = none) (s x : Operand)
    (ho : o.op = .call { callee := .builtin .append, args := #[s, x], argTypes := #[23, 23] })
    (base : Nat) (v : Value) (vs : List Value) (hs : a.eval s = v) (hown : OwnV w base v vs) (b : Nat) (ao : Option Addr) (m c : Nat) (hx : a.eval x = .slice (some ⟨b, 0, none⟩) 1 1) (hcell : w.cell? ⟨b, 0, none⟩ = some (.slice ao m c))
    (t : Nat) (ht : vs.length + 1 = t) (hb : t ≤ 4000000000) (hbase : base ≤ w.heap.size)
    (hK : ∀ g c' w', OwnV w' base (.slice (some ⟨g, 0, none⟩) t c') (vs ++ [.slice ao m c]) → base ≤ g → g < w'.heap.size → t ≤ c' → c' ≤ maxLen → w.grownBy w' v.ownBlock → K (a.put o.dst (.slice (some ⟨g, 0, none⟩) t c')) w') :
    if Region.wanted o (yielded ops a.tmps) = true then Oper.wp Tryd.prog o a w K Q else E := by
  have hw : Region.wanted o (yielded ops a.tmps) = true := by simp [Region.wanted, hgd]
  rw [if_pos hw]
  obtain ⟨g, c', w', hrun, h1, h2, h3, h4, h5, h6⟩ := run_appV w o.type base v vs hown b ao m c hcell t ht hb hbase
  unfold Oper.wp
  simp [execOp, ho, resolve, invoke, builtin, hs, hx, hrun, Result.andThen]
  exact hK g c' w' h1 h2 h3 h4 h5 h6

/-- Lent pieces can be read as pieces. -/
theorem OwnV.at {w : World} {base : Nat} {ao : Option Addr} {n c : Nat} {vs : List Value} (h : OwnV w base (.slice ao n c) vs) (i : Nat) (hi : i < vs.length) : ∃ g, ao = some ⟨g, 0, none⟩ ∧ w.cell? ⟨g, i, none⟩ = some (vs.getD i (.slice none 0 0)) := by
  rcases h.split with ⟨he, hx⟩ | ⟨g, cap, he, _⟩
  · subst hx; simp at hi
  · simp at he
    obtain ⟨rfl, rfl, rfl⟩ := he
    exact ⟨g, rfl, h.cell i hi _⟩

end Go.Proofs.YtgajejomibnghaaDoor
