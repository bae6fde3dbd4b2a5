/-
  Blocks of cells that are known whole. No program.
-/
import Derived.Test.YtgajejomibnghaaDoorSaBase
namespace Go.Proofs.YtgajejomibnghaaDoor
open Go.RowKit Go.IntWalk

/-- Block g holds just these cells. -/
def Blk (T : TypeId) (w : World) (g : Nat) (L : List Value) : Prop := w.heap[g]? = some (.cells L.toArray T (0, 0))

variable {T : TypeId}

theorem Blk.lt {w : World} {g : Nat} {L : List Value} (h : Blk T w g L) : g < w.heap.size := by
  obtain ⟨h1, _⟩ := Array.getElem?_eq_some_iff.1 h
  exact h1

theorem Blk.cell {w : World} {g : Nat} {L : List Value} (h : Blk T w g L) (i : Nat) : w.cell? ⟨g, i, none⟩ = L[i]? := by
  rw [cell_of_row w g i _ T (0, 0) h]
  simp

theorem Blk.frozen {w : World} {g : Nat} {L : List Value} (h : Blk T w g L) (i : Nat) : w.frozen? ⟨g, i, none⟩ = false := frozen_of_row w g i _ T h

theorem Blk.set {w : World} {g : Nat} {L : List Value} (h : Blk T w g L) (i : Nat) (u : Value) : Blk T (w.setCell ⟨g, i, none⟩ u) g (L.set i u) := by
  unfold Blk
  rw [heap_setCell_same w g i _ T u h]
  simp

theorem set_parts (L : List Value) (o : Nat) (v : Value) (h : o < L.length) : L.set o v = L.take o ++ v :: L.drop (o + 1) := by
  rw [List.set_eq_take_append_cons_drop, if_pos h]

theorem Blk.sets {g : Nat} : ∀ (vs : List Value) (o : Nat) (L : List Value) (w : World), Blk T w g L → o + vs.length ≤ L.length → Blk T (w.setCells g o vs) g (L.take o ++ vs ++ L.drop (o + vs.length))
  | [], o, L, w, h, _ => by simpa [World.setCells] using h
  | v :: r, o, L, w, h, hl => by
    simp at hl
    have := Blk.sets r (o + 1) (L.set o v) (w.setCell ⟨g, o, none⟩ v) (h.set o v) (by simp; omega)
    rw [World.setCells]
    have e : (L.set o v).take (o + 1) ++ r ++ (L.set o v).drop (o + 1 + r.length) = L.take o ++ (v :: r) ++ L.drop (o + (v :: r).length) := by
      rw [List.drop_set_of_lt (by omega), List.take_set, List.length_cons, show o + 1 + r.length = o + (r.length + 1) by omega]
      rw [set_parts _ _ _ (by simp; omega), List.take_take, Nat.min_eq_left (by omega), List.drop_eq_nil_of_le (by simp; omega)]
      simp
    rw [e] at this
    exact this

/-- Cells in the midst of a block, stored over. -/
theorem Blk.mid {g : Nat} (A X C vs : List Value) (o : Nat) (w : World) (h : Blk T w g (A ++ X ++ C)) (ho : A.length = o) (hl : X.length = vs.length) : Blk T (w.setCells g o vs) g (A ++ vs ++ C) := by
  subst ho
  have := h.sets vs A.length _ w (by simp; omega)
  simpa [List.take_append, List.drop_append, ← hl, List.append_assoc, List.drop_eq_nil_of_le (show A.length ≤ A.length + X.length by omega)] using this

theorem Blk.kept {w w' : World} {g : Nat} {L : List Value} {row : Option Nat} (h : Blk T w g L) (hg : w.grownBy w' row) (hne : some g ≠ row) : Blk T w' g L := by
  unfold Blk; rw [hg.block g h.lt hne]; exact h

theorem Blk.heap {w w' : World} {g : Nat} {L : List Value} (h : Blk T w g L) (e : w'.heap = w.heap) : Blk T w' g L := by unfold Blk; rw [e]; exact h

theorem Blk.below {w w' : World} {g : Nat} {L : List Value} (h : Blk T w g L) (hb : Below w.heap.size w w') : Blk T w' g L := by unfold Blk; rw [hb.block g h.lt]; exact h

theorem Blk.alloc {w : World} {g : Nat} {L : List Value} (h : Blk T w g L) (o : Obj) : Blk T (w.alloc o) g L := h.below ((Below.refl _ _).alloc (Nat.le_refl _) _)

theorem Blk.new (w : World) (L : List Value) (C : Array Value) (g : Nat) (hC : C = L.toArray) (hg : g = w.heap.size) : Blk T (w.alloc (.cells C T)) g L := by
  subst hC hg
  exact (MapKept.heap_alloc w _).1

theorem Blk.range {w : World} {g : Nat} {A X C : List Value} (h : Blk T w g (A ++ X ++ C)) (o : Nat) (ho : A.length = o) : w.rangeAt g o X := by
  intro j v hv
  subst ho
  have hj := (List.getElem?_eq_some_iff.1 hv).1
  rw [h.cell]
  have e : (A ++ X ++ C)[A.length + j]? = X[j]? := by simp [List.getElem?_append, hj]
  rw [e, hv]

theorem Blk.there {w : World} {g : Nat} {L : List Value} (h : Blk T w g L) (o n : Nat) (hn : o + n ≤ L.length) : w.there g o n := by
  intro j hj
  exact ⟨by rw [h.cell, List.getElem?_eq_getElem (show o + j < L.length by omega)]; rfl, h.frozen _⟩

theorem gSets (g : Nat) : ∀ (vs : List Value) (o : Nat) (w : World), w.grownBy (w.setCells g o vs) (some g) ∧ (w.setCells g o vs).heap.size = w.heap.size
  | [], _, w => ⟨World.grownBy.refl _ _, rfl⟩
  | v :: r, o, w => by
    have h := gSets g r (o + 1) (w.setCell ⟨g, o, none⟩ v)
    rw [World.setCells]
    exact ⟨gTrans (gSet w g o v) h.1, h.2.trans (by simp)⟩

theorem RowG.blk {κ : IntKind} {B : Int} {w : World} {g : Nat} {xs : List Int} (h : RowG κ B T w g xs) : Blk T w g (xs.map (Value.int κ)) := h.1

end Go.Proofs.YtgajejomibnghaaDoor
