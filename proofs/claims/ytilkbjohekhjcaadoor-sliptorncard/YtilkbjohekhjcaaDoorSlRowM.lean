/-
  Memory while DerAlls runs its first loop: which blocks it may have written.
-/
import Derived.Test.YtilkbjohekhjcaaDoorSlEach
import Derived.Test.YtilkbjohekhjcaaDoorSlRRow
import Derived.Test.YtilkbjohekhjcaaDoorSlLaw
namespace Go.Proofs.YtilkbjohekhjcaaDoor
open Go.RowKit Go.Shelf Go.IntWalk

/-- World B is A, but for new blocks and those that S names. -/
structure GB (S : Nat → Prop) (A B : World) : Prop where
  os : B.os = A.os
  tape : B.tape = A.tape
  output : B.output = A.output
  size : A.heap.size ≤ B.heap.size
  same : ∀ q, q < A.heap.size → ¬ S q → B.heap[q]? = A.heap[q]?

theorem GB.refl (S : Nat → Prop) (A : World) : GB S A A := ⟨rfl, rfl, rfl, Nat.le_refl _, fun _ _ _ => rfl⟩

theorem GB.step {S S' : Nat → Prop} {A B C : World} {row : Option Nat} (h : GB S A B) (hg : B.grownBy C row) (hS : ∀ q, S q → S' q) (hr : ∀ q, row = some q → S' q) : GB S' A C :=
  ⟨hg.os.trans h.os, hg.tape.trans h.tape, hg.output.trans h.output, Nat.le_trans h.size hg.size, fun q hq hn =>
    (hg.block q (Nat.lt_of_lt_of_le hq h.size) (fun e => hn (hr q e.symm))).trans (h.same q hq (fun hs => hn (hS q hs)))⟩

theorem GB.belowA {S : Nat → Prop} {A B C : World} (h : GB S A B) (hb : Below B.heap.size B C) : GB S A C :=
  h.step (grown_of_below (r := none) hb) (fun _ h => h) (by intro q e; cases e)

theorem GB.toBelow {S : Nat → Prop} {A B : World} {N : Nat} (h : GB S A B) (hN : N ≤ A.heap.size) (hS : ∀ q, S q → N ≤ q) : Below N A B :=
  ⟨h.os, h.tape, h.output, h.size, fun k hk => h.same k (by omega) (fun hs => by have := hS k hs; omega)⟩

theorem GB.rowNe {S : Nat → Prop} {A B : World} {base : Nat} {e : TypeId} {size : Nat} {v : Value} {k : Nat} {xs : List Value} (hg : GB S A B) (h : A.ownsRow base e size v k xs) (hr : ∀ q, v.ownBlock = some q → ¬ S q) : B.ownsRow base e size v k xs := by
  obtain ⟨hl, h | ⟨g, cap, cur, rfl, hb, hh, rest⟩⟩ := h
  · exact ⟨hl, .inl h⟩
  · exact ⟨hl, .inr ⟨g, cap, cur, rfl, hb, (hg.same g (Array.getElem?_eq_some_iff.1 hh).1 (hr g rfl)).trans hh, rest⟩⟩

/-- The contents of a row of elements, up to the k-th. -/
def SB (cs : List Value) (k : Nat) (q : Nat) : Prop := ∃ j s, j < k ∧ cs[2 * j + 1]? = some s ∧ s.ownBlock = some q

theorem EMatch.get7 {W : World} {base : Nat} : ∀ {cs : List Value} {es : List (Int × List Int)}, EMatch W base cs es → ∀ i, i < es.length →
    ∃ ao m c, cs[2 * i]? = some (.int .i64 (es.getD i (0, [])).1) ∧ cs[2 * i + 1]? = some (.slice ao m c) ∧ OwnB W base (.slice ao m c) (es.getD i (0, [])).2
  | [], [], _, i, h => by simp at h
  | a :: s :: cs, e :: es, ⟨h1, ⟨ao, m, c, h2⟩, h3, h4⟩, i, h => by
    cases i with
    | zero => exact ⟨ao, m, c, by simp [h1], by simp [h2], by simpa [h2] using h3⟩
    | succ i =>
      obtain ⟨ao', m', c', k1, k2, k3⟩ := EMatch.get7 h4 i (by simpa using h)
      exact ⟨ao', m', c', by rw [show 2 * (i + 1) = 2 * i + 1 + 1 by omega]; simpa using k1, by rw [show 2 * (i + 1) + 1 = 2 * i + 1 + 1 + 1 by omega]; simpa using k2, by simpa using k3⟩

theorem SB.at {W : World} {base : Nat} {cs : List Value} {es : List (Int × List Int)} (hm : EMatch W base cs es) {k q : Nat} (h : SB cs k q) : base ≤ q ∧ q < W.heap.size ∧ ∃ cu, W.heap[q]? = some (.cells cu 5 (0, 0)) := by
  obtain ⟨j, s, hj, h1, h2⟩ := h
  have hl := hm.len
  have hjl : j < es.length := by
    rcases Nat.lt_or_ge j es.length with h' | h'
    · exact h'
    · rw [List.getElem?_eq_none (by omega)] at h1; cases h1
  obtain ⟨ao, m, c, _, k2, k3⟩ := hm.get7 j hjl
  rw [h1] at k2
  cases k2
  have h4 := k3.lt q h2
  exact ⟨h4.1, h4.2, row_type k3 q h2⟩

theorem SB.mono {cs : List Value} {k : Nat} {q : Nat} (h : SB cs k q) : SB cs (k + 1) q := by
  obtain ⟨j, s, hj, h⟩ := h
  exact ⟨j, s, by omega, h⟩

theorem GB.box {S : Nat → Prop} {A B : World} (hg : GB S A B) (hS : ∀ q, S q → ∃ cu, A.heap[q]? = some (.cells cu 5 (0, 0))) {b : Nat} {t : TypeId} {v : Value} (h : Boxed A b t v) (ht : t ≠ 5) : Boxed B b t v := by
  refine (hg.same b h.lt (fun hs => ?_)).trans h
  obtain ⟨cu, h2⟩ := hS b hs
  rw [show A.heap[b]? = _ from h] at h2
  cases h2
  exact ht rfl

theorem GB.rowT {S : Nat → Prop} {A B : World} (hg : GB S A B) (hS : ∀ q, S q → ∃ cu, A.heap[q]? = some (.cells cu 5 (0, 0))) {base : Nat} {e : TypeId} {size : Nat} {v : Value} {k : Nat} {xs : List Value} (h : A.ownsRow base e size v k xs) (he : e ≠ 5) : B.ownsRow base e size v k xs :=
  hg.rowNe h (fun q hq hs => by
    obtain ⟨c, h1⟩ := row_type h q hq
    obtain ⟨cu, h2⟩ := hS q hs
    rw [h1] at h2
    cases h2
    exact he rfl)

theorem GB.rowSt {S : Nat → Prop} {A B : World} (hg : GB S A B) (hS : ∀ q, S q → ∃ cu, A.heap[q]? = some (.cells cu 5 (0, 0))) {base : Nat} {L P : Value} {xs : List Int} {ps : List Nat} {cs : List Value} (h : RowSt A base L P xs ps cs) (hb : ∀ q, S q → q < base) : RowSt B base L P xs ps cs :=
  ⟨hg.rowT hS h.hl (by decide), h.hm.kept (fun s ys hs => hg.rowNe hs (fun q hq hs' => by have := (OwnB.lt hs q hq).1; have := hb q hs'; omega)), hg.rowT hS h.hp (by decide)⟩

end Go.Proofs.YtilkbjohekhjcaaDoor
