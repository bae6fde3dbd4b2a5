/-
  The first loop of ShaHashes: three new hashes, one behind the other.
-/
import Derived.Test.YtgajejomibnghaaDoorSaH3
namespace Go.Proofs.YtgajejomibnghaaDoor
open Go.RowKit Go.IntWalk

structure L1 (w W : World) (t : Nat) (ps : List Nat) : Prop where
  lp : ps.length = t
  own : Blk 36 W w.heap.size (ps.map hp ++ List.replicate (3 - t) (.pointer none))
  want : Blk 37 W (w.heap.size + 1) [nilS, nilS, nilS]
  hs : ∀ j, j < t → Hs 73 W (ps.getD j 0) [] [] []
  ge : ∀ j, j < t → w.heap.size + 1 < ps.getD j 0
  ne : ∀ i j, i < t → j < t → i ≠ j → ps.getD i 0 ≠ ps.getD j 0
  bl : Below w.heap.size w W

theorem L1.start (w : World) : L1 w ((w.alloc (.cells #[.pointer none, .pointer none, .pointer none] 36)).alloc (.cells #[.slice none 0 0, .slice none 0 0, .slice none 0 0] 37)) 0 [] :=
  ⟨rfl, (Blk.new w _ _ _ rfl rfl).alloc _, Blk.new _ _ _ _ rfl (by simp), fun _ h => absurd h (by omega), fun _ h => absurd h (by omega), fun _ _ h => absurd h (by omega), ((Below.refl _ _).alloc (Nat.le_refl _) _).alloc (by simp) _⟩

theorem getD_snoc {α : Type} (l : List α) (x d : α) (j : Nat) : (l ++ [x]).getD j d = if j = l.length then x else l.getD j d := by
  by_cases h : j < l.length
  · simp [List.getD, List.getElem?_append_left h]
    intro e
    omega
  · by_cases e : j = l.length
    · subst e
      simp [List.getD]
    · have h1 : (l ++ [x]).length ≤ j := by simp; omega
      have h2 : l.length ≤ j := by omega
      simp [List.getD, e, List.getElem?_eq_none h1, List.getElem?_eq_none h2]

theorem L1.next {w W V : World} {t : Nat} {ps : List Nat} (h : L1 w W t ps) (ht : t < 3) (b : Below W.heap.size W V) (hH : Hs 73 V W.heap.size [] [] []) :
    L1 w (V.setCell ⟨w.heap.size, t, none⟩ (hp W.heap.size)) (t + 1) (ps ++ [W.heap.size]) := by
  have hgs := gSet V w.heap.size t (hp W.heap.size)
  have hW := h.want.lt
  have ho := (h.own.below b).set t (hp W.heap.size)
  have hl := h.lp
  refine ⟨by simp [hl], ?_, (h.want.below b).kept hgs (some_ne (by omega)), fun j hj => ?_, fun j hj => ?_, fun i j hi hj hij => ?_, (h.bl.trans (b.mono h.bl.size)).setCell (by show w.heap.size ≤ w.heap.size; omega) _⟩
  · have e : (ps.map hp ++ List.replicate (3 - t) (Value.pointer none)).set t (hp W.heap.size) = (ps ++ [W.heap.size]).map hp ++ List.replicate (3 - (t + 1)) (.pointer none) := by
      rw [List.set_append_right _ _ (by simp [hl]), show 3 - t = (3 - (t + 1)) + 1 by omega, List.replicate_succ]
      simp [hl]
    rwa [e] at ho
  · rw [getD_snoc, hl]
    split
    · exact hH.kept hgs (some_ne (by omega))
    · exact ((h.hs j (by omega)).below b).kept hgs (by have := h.ge j (by omega); exact some_ne (by omega))
  · rw [getD_snoc, hl]
    split
    · omega
    · exact h.ge j (by omega)
  · rw [getD_snoc, getD_snoc, hl]
    split
    · rw [if_neg (by omega)]
      have := (h.hs j (by omega)).lt
      omega
    · split
      · have := (h.hs i (by omega)).lt
        omega
      · exact h.ne i j (by omega) (by omega) hij

theorem nil_three (j : Nat) : ([[], [], []] : List (List Int)).getD j [] = [] := by
  match j with
  | 0 | 1 | 2 | _ + 3 => rfl
theorem nilS_three (j : Nat) : [nilS, nilS, nilS].getD j nilS = nilS := by
  match j with
  | 0 | 1 | 2 | _ + 3 => rfl

theorem L1.done {w W : World} {ps : List Nat} (h : L1 w W 3 ps) : H3 w W ps [nilS, nilS, nilS] [[], [], []] [[], [], []] :=
  ⟨h.lp, rfl, rfl, rfl, by simpa using h.own, h.want, fun j hj => by rw [nil_three]; exact h.hs j hj, h.ge, h.ne, fun j hj => ⟨none, 0, 0, nilS_three j, by
    rw [nil_three]
    exact ⟨rfl, Nat.le_refl _, by decide, fun _ => ⟨rfl, rfl⟩, fun h => absurd rfl h, by intro x hx; simp at hx⟩, fun b o hb => by simp at hb⟩, h.bl⟩

theorem L1.cell {w W : World} {t : Nat} {ps : List Nat} (h : L1 w W t ps) (ht : t < 3) : W.cell? ⟨w.heap.size, t, none⟩ = some (.pointer none) ∧ W.frozen? ⟨w.heap.size, t, none⟩ = false := by
  refine ⟨?_, h.own.frozen t⟩
  rw [h.own.cell, List.getElem?_append_right (by simp [h.lp]), show 3 - t = (3 - (t + 1)) + 1 by omega, List.replicate_succ]
  simp [h.lp]

end Go.Proofs.YtgajejomibnghaaDoor
