/-
  Bytes that a call has made, wherever in their row they begin: OwnO. The statements' helper 'own' says true of two answers alike that lie apart, and writes into the first one's row alone.
-/
import Derived.Test.YtaeddbkkkiefcaaMore
import Derived.ArgAppend
import Derived.Deep.QuietTactic
import Derived.BigQuiet
namespace Go.Proofs.Ytaeddbkkkiefcaa
open Go.RowKit Go.IntWalk

def blk (ao : Option Addr) : Option Nat := ao.map (·.block)

/-- A row of bytes that the call owns, in a block of whatever type. -/
def OwnT (T : TypeId) (w : World) (base : Nat) (v : Value) (xs : List Int) : Prop := w.ownsRow base T 1 v xs.length (xs.map (Value.int .u8))

theorem OwnT.split {T : TypeId} {w : World} {base : Nat} {v : Value} {xs : List Int} (h : OwnT T w base v xs) :
    (v = .slice none 0 0 ∧ xs = []) ∨ ∃ g cap, v = .slice (some ⟨g, 0, none⟩) xs.length cap ∧ base ≤ g ∧ g < w.heap.size ∧ xs.length ≤ cap ∧ cap ≤ maxLen := by
  rcases own_split h with ⟨h1, _, h3⟩ | h
  · exact .inl ⟨h1, by simpa using h3⟩
  · exact .inr h

theorem OwnT.cell {T : TypeId} {w : World} {base g n cap : Nat} {xs : List Int} (h : OwnT T w base (.slice (some ⟨g, 0, none⟩) n cap) xs) :
    ∀ i, i < xs.length → w.cell? ⟨g, i, none⟩ = some (.int .u8 (xs.getD i 0)) := by
  intro i hi
  have h1 := World.ownsRow.cells h (g := g) rfl i (.int .u8 (xs.getD i 0)) (by simp [List.getElem?_eq_getElem hi, List.getD])
  have h2 : (⟨g, 0, none⟩ : Addr).add i = ⟨g, i, none⟩ := by unfold Addr.add; split <;> simp_all
  rw [h2] at h1
  exact h1

theorem OwnT.frozen {T : TypeId} {w : World} {base g n cap : Nat} {xs : List Int} (h : OwnT T w base (.slice (some ⟨g, 0, none⟩) n cap) xs) (j : Nat) : w.frozen? ⟨g, j, none⟩ = false := by
  obtain ⟨_, h⟩ := h
  rcases h with ⟨h, _⟩ | ⟨g', cap', cur, he, _, hh, _⟩
  · simp at h
  · simp at he
    obtain ⟨rfl, _, _⟩ := he
    simp [World.frozen?, hh]

theorem OwnT.eqlen {T : TypeId} {w : World} {base g n cap : Nat} {xs : List Int} (h : OwnT T w base (.slice (some ⟨g, 0, none⟩) n cap) xs) : n = xs.length := by
  rcases OwnT.split h with ⟨h, _⟩ | ⟨g', cap', he, _⟩
  · simp at h
  · simp at he; exact he.2.1

theorem OwnT.stored {T : TypeId} {w : World} {base g n cap : Nat} {xs : List Int} (h : OwnT T w base (.slice (some ⟨g, 0, none⟩) n cap) xs) (j : Nat) (u : Int) :
    OwnT T (w.setCell ⟨g, j, none⟩ (.int .u8 u)) base (.slice (some ⟨g, 0, none⟩) n cap) (xs.set j u) ∧ w.grownBy (w.setCell ⟨g, j, none⟩ (.int .u8 u)) (some g) := by
  have hl := h.eqlen
  subst hl
  have := World.ownsRow.stored h j (.int .u8 u)
  refine ⟨?_, this.2⟩
  unfold OwnT
  rw [List.length_set, List.map_set]
  exact this.1

theorem OwnT.kept {T : TypeId} {w w' : World} {base : Nat} {v : Value} {xs : List Int} {row : Option Nat} (h : OwnT T w base v xs) (hg : w.grownBy w' row) (hne : v.ownBlock = none ∨ v.ownBlock ≠ row) : OwnT T w' base v xs :=
  World.ownsRow.kept h hg hne

theorem OwnT.below {T : TypeId} {w w' : World} {base B : Nat} {v : Value} {xs : List Int} (h : OwnT T w base v xs) (hb : Below B w w') (hlt : ∀ k, v.ownBlock = some k → k < B) : OwnT T w' base v xs := by
  obtain ⟨hl, h⟩ := h
  refine ⟨hl, ?_⟩
  rcases h with h | ⟨g, cap, cur, rfl, hbg, hh, r⟩
  · exact .inl h
  · exact .inr ⟨g, cap, cur, rfl, hbg, by rw [hb.block g (hlt g rfl)]; exact hh, r⟩

theorem OwnT.heap {T : TypeId} {w w' : World} {base : Nat} {v : Value} {xs : List Int} (h : OwnT T w base v xs) (e : w'.heap = w.heap) : OwnT T w' base v xs := by
  obtain ⟨hl, h⟩ := h
  refine ⟨hl, ?_⟩
  rw [e]
  exact h

theorem OwnT.rebase {T : TypeId} {w : World} {base base' : Nat} {v : Value} {xs : List Int} (h : OwnT T w base v xs) (hb : base' ≤ base) : OwnT T w base' v xs := by
  obtain ⟨hl, h⟩ := h
  refine ⟨hl, ?_⟩
  rcases h with h | ⟨g, cap, cur, rfl, hbg, r⟩
  · exact .inl h
  · exact .inr ⟨g, cap, cur, rfl, by omega, r⟩

theorem OwnT.lt {T : TypeId} {w : World} {base : Nat} {v : Value} {xs : List Int} (h : OwnT T w base v xs) : ∀ k, v.ownBlock = some k → base ≤ k ∧ k < w.heap.size := World.ownsRow.lt h

theorem OwnT.belowA {T : TypeId} {w w' : World} {base : Nat} {v : Value} {xs : List Int} (h : OwnT T w base v xs) (hb : Below w.heap.size w w') : OwnT T w' base v xs :=
  h.below hb (fun k hk => (h.lt k hk).2)

def OwnO (w : World) (base : Nat) (ao : Option Addr) (n cap : Nat) (xs : List Int) : Prop :=
  (ao = none ∧ n = 0 ∧ cap = 0 ∧ xs = []) ∨ ∃ T g pre, ao = some ⟨g, List.length pre, none⟩ ∧ base ≤ g ∧ OwnT T w base (.slice (some ⟨g, 0, none⟩) (pre.length + n) (pre.length + cap)) (pre ++ xs)

theorem OwnB.toO {w : World} {base n cap : Nat} {ao : Option Addr} {xs : List Int} (h : OwnB w base (.slice ao n cap) xs) : OwnO w base ao n cap xs := by
  rcases h.split with ⟨he, hx⟩ | ⟨g, c, he, h1, h2, h3, h4⟩
  · simp at he
    exact .inl ⟨he.1, he.2.1, he.2.2, hx⟩
  · simp at he
    obtain ⟨rfl, rfl, rfl⟩ := he
    exact .inr ⟨_, g, [], rfl, h1, by simp only [List.nil_append, List.length_nil, Nat.zero_add]; exact h⟩

theorem OwnO.nil (w : World) (base : Nat) : OwnO w base none 0 0 [] := .inl ⟨rfl, rfl, rfl, rfl⟩

theorem OwnO.len {w : World} {base n cap : Nat} {ao : Option Addr} {xs : List Int} (h : OwnO w base ao n cap xs) : xs.length = n := by
  rcases h with ⟨_, rfl, _, rfl⟩ | ⟨T, g, pre, rfl, hg, ho⟩
  · rfl
  · have := ho.eqlen
    simp at this
    omega

theorem OwnO.caps {w : World} {base n cap : Nat} {ao : Option Addr} {xs : List Int} (h : OwnO w base ao n cap xs) : n ≤ cap ∧ cap ≤ maxLen := by
  rcases h with ⟨_, rfl, rfl, rfl⟩ | ⟨T, g, pre, rfl, hg, ho⟩
  · exact ⟨Nat.le_refl _, by decide⟩
  · rcases ho.split with ⟨h, _⟩ | ⟨g', c', he, _, _, h2, h3⟩
    · simp at h
    · have hl := ho.eqlen
      simp at he hl
      obtain ⟨_, _, rfl⟩ := he
      simp at h2
      constructor
      · omega
      · omega

theorem OwnO.src {w : World} {base n cap : Nat} {ao : Option Addr} {xs : List Int} (h : OwnO w base ao n cap xs) (hb : ∀ x ∈ xs, 0 ≤ x ∧ x < 256) : Src w ao n cap xs := by
  have hl := h.len
  have hc := h.caps
  rcases h with ⟨rfl, rfl, rfl, rfl⟩ | ⟨T, g, pre, rfl, hg, ho⟩
  · exact ⟨rfl, Nat.le_refl _, by decide, fun _ => ⟨rfl, rfl⟩, fun h => absurd rfl h, by simp⟩
  · refine ⟨hl, hc.1, hc.2, by simp, fun _ => ⟨g, pre.length, rfl, fun i hi => ?_⟩, hb⟩
    rw [ho.cell (pre.length + i) (by simp; omega), List.getD, List.getElem?_append_right (by omega)]
    simp [List.getD]

theorem OwnO.below {w w' : World} {base n cap : Nat} {ao : Option Addr} {xs : List Int} (h : OwnO w base ao n cap xs) (hb : Below w.heap.size w w') : OwnO w' base ao n cap xs := by
  rcases h with h | ⟨T, g, pre, rfl, hg, ho⟩
  · exact .inl h
  · exact .inr ⟨T, g, pre, rfl, hg, ho.belowA hb⟩

theorem OwnO.heap {w w' : World} {base n cap : Nat} {ao : Option Addr} {xs : List Int} (h : OwnO w base ao n cap xs) (e : w'.heap = w.heap) : OwnO w' base ao n cap xs := by
  rcases h with h | ⟨T, g, pre, rfl, hg, ho⟩
  · exact .inl h
  · exact .inr ⟨T, g, pre, rfl, hg, ho.heap e⟩

theorem OwnO.alloc {w : World} {base n cap : Nat} {ao : Option Addr} {xs : List Int} (h : OwnO w base ao n cap xs) (o : Obj) : OwnO (w.alloc o) base ao n cap xs :=
  h.below ((Below.refl _ _).alloc (Nat.le_refl _) _)

theorem OwnO.lt {w : World} {base n cap : Nat} {ao : Option Addr} {xs : List Int} (h : OwnO w base ao n cap xs) : ∀ k, blk ao = some k → base ≤ k ∧ k < w.heap.size := by
  intro k hk
  rcases h with ⟨rfl, _⟩ | ⟨T, g, pre, rfl, hg, ho⟩
  · simp [blk] at hk
  · simp [blk] at hk
    subst hk
    exact ho.lt _ rfl

theorem OwnO.rebase {w : World} {base base' n cap : Nat} {ao : Option Addr} {xs : List Int} (h : OwnO w base ao n cap xs) (hb : base' ≤ base) : OwnO w base' ao n cap xs := by
  rcases h with h | ⟨T, g, pre, rfl, hg, ho⟩
  · exact .inl h
  · exact .inr ⟨T, g, pre, rfl, by omega, ho.rebase hb⟩

theorem OwnO.kept {w w' : World} {base n cap : Nat} {ao : Option Addr} {xs : List Int} {row : Option Nat} (h : OwnO w base ao n cap xs) (hg : w.grownBy w' row) (hne : ∀ k, blk ao = some k → some k ≠ row) : OwnO w' base ao n cap xs := by
  rcases h with h | ⟨T, g, pre, rfl, hg', ho⟩
  · exact .inl h
  · exact .inr ⟨T, g, pre, rfl, hg', OwnT.kept ho hg (.inr (hne g rfl))⟩

/-- A byte is cut off at the head. -/
theorem OwnO.tail {w : World} {base n cap : Nat} {ao : Option Addr} {x : Int} {xs : List Int} (h : OwnO w base ao (n + 1) cap (x :: xs)) (hn : 0 < n) : OwnO w base (cutA ao cap 1) (n + 1 - 1) (cap - 1) xs := by
  have hc := h.caps
  rcases h with ⟨_, h, _⟩ | ⟨T, g, pre, rfl, hg, ho⟩
  · omega
  · refine .inr ⟨T, g, pre ++ [x], ?_, hg, ?_⟩
    · unfold cutA
      rw [if_neg (by omega)]
      simp [add_none]
    · simp only [List.length_append, List.length_singleton, List.append_assoc, List.singleton_append]
      rw [show pre.length + 1 + (n + 1 - 1) = pre.length + (n + 1) by omega, show pre.length + 1 + (cap - 1) = pre.length + cap by omega]
      exact ho

/-- What lies apart from a row stays. -/
def apart (ax ay : Option Addr) (xs : List Int) : Prop := ∀ b off, ay = some ⟨b, off, none⟩ → xs ≠ [] → blk ax ≠ some b

theorem OwnO.apart {w u : World} {base base' n m c c' : Nat} {a a' : Option Addr} {xs ys : List Int} (h : OwnO w base a n c xs) (h' : OwnO u base' a' m c' ys) (hlt : w.heap.size ≤ base') : apart a a' ys := by
  intro b off he _ hk
  subst he
  have h1 := (h.lt b hk).2
  have h2 := (h'.lt b rfl).1
  omega

theorem OwnO.apartS {w u : World} {base n m c c' : Nat} {a a' : Option Addr} {xs ys : List Int} (h : OwnO w base a n c xs) (h' : Src u a' m c' ys) (hlt : u.heap.size ≤ base) : Go.Proofs.Ytaeddbkkkiefcaa.apart a a' ys := by
  intro b off he hy hk
  have h1 := (h.lt b hk).1
  have h2 := h'.blk b off he hy
  omega

theorem spare_there {T : TypeId} {w : World} {base g n cap : Nat} {xs : List Int} (h : OwnT T w base (.slice (some ⟨g, 0, none⟩) n cap) xs) (j : Nat) (hj : j < cap) : (w.cell? ⟨g, j, none⟩).isSome = true ∧ w.frozen? ⟨g, j, none⟩ = false := by
  refine ⟨?_, h.frozen j⟩
  obtain ⟨_, h⟩ := h
  rcases h with ⟨h, _⟩ | ⟨g', cap', cur, he, _, hh, _, _, hs, _⟩
  · simp at h
  · simp at he
    obtain ⟨rfl, _, rfl⟩ := he
    simp [World.cell?, hh, show j < cur.size by omega]

theorem grown_setCell (w : World) (g o : Nat) (v : Value) : w.grownBy (w.setCell ⟨g, o, none⟩ v) (some g) := by
  have h := World.keptBut_setCells g (may := fun p => p.block = g) [v] o w (fun _ _ => rfl)
  exact ⟨h.1, by unfold World.setCell; split <;> rfl, h.2.1, h.size, fun k hk hr => h.block hk (fun _ hp e => hr (by rw [← hp, e]))⟩

theorem grown_setCells (g : Nat) : ∀ (vs : List Value) (o : Nat) (w : World), w.grownBy (w.setCells g o vs) (some g)
  | [], _, _ => World.grownBy.refl _ _
  | v :: r, o, w => grown_trans (grown_setCell w g o v) (grown_setCells g r (o + 1) _)

/-- Bytes appended behind such a row: some value comes of it, and the row alone is written. -/
theorem wpList_appO {ops : Array Oper} {rest : List Oper} {o : Oper} {a : Act} {Q : Exit → Act → World → Prop} (w : World) (hgd : o.guard = none) (s x : Operand)
    (ho : o.op = .call { callee := .builtin .append, args := #[s, x], argTypes := #[27, 27] })
    (base g n c : Nat) (pre xs : List Int) (hs : a.eval s = .slice (some ⟨g, pre.length, none⟩) n c) (hl : xs.length = n) {T : TypeId} (hown : OwnT T w base (.slice (some ⟨g, 0, none⟩) (pre.length + n) (pre.length + c)) (pre ++ xs))
    (ad : Addr) (m c2 : Nat) (ys : List Int) (hx : a.eval x = .slice (some ad) m c2) (hsrc : Src w (some ad) m c2 ys) (hb : n + m ≤ 140737488355328)
    (h : ∀ v' w', w.grownBy w' (some g) → wpList Try.prog ops Q rest (a.put o.dst v') w') :
    wpList Try.prog ops Q (o :: rest) a w := by
  obtain ⟨i0, hi, hz0, hz1, hz2⟩ := info_parts Try.infoB
  obtain ⟨hlen, hcap, hmax, hnil, hrd, hbyt⟩ := hsrc
  refine wpList_append_arg w hgd s x 27 ho 5 i0 (.int .u8 0) 1 1 Try.underlying27 hi hz0 hz1 hz2 rfl (by decide) g pre.length n c (xs.map (Value.int .u8)) hs (by simpa using hl) ?_ ad m c2 (ys.map (Value.int .u8)) hx (by simpa using hlen) ?_ (ints_one _ _) ?_ (by unfold maxLen; omega) (by omega) ?_ ?_
  · intro j u hj
    have hjl : j < xs.length := by
      rcases Nat.lt_or_ge j xs.length with h | h
      · exact h
      · simp [List.getElem?_eq_none (show (xs.map (Value.int .u8)).length ≤ j by simpa using h)] at hj
    rw [hown.cell (pre.length + j) (by simp; omega), List.getD, List.getElem?_append_right (by omega)]
    simp [List.getElem?_eq_getElem hjl] at hj ⊢
    exact hj
  · intro j u hj
    have hjl : j < ys.length := by
      rcases Nat.lt_or_ge j ys.length with h | h
      · exact h
      · simp [List.getElem?_eq_none (show (ys.map (Value.int .u8)).length ≤ j by simpa using h)] at hj
    obtain ⟨b, off, he, hc⟩ := hrd (by intro h; simp [h] at hjl)
    cases he
    rw [add_none, hc j hjl]
    simp [List.getElem?_eq_getElem hjl] at hj
    subst hj
    simp [List.getD, List.getElem?_eq_getElem hjl]
  · intro hr j hj
    rw [List.length_map] at hj
    exact spare_there hown _ (by omega)
  · intro _
    exact h _ _ (grown_setCells _ _ _ _)
  · intro _ v' w' _ hg
    exact h v' w' (grown_any hg)

end Go.Proofs.Ytaeddbkkkiefcaa
