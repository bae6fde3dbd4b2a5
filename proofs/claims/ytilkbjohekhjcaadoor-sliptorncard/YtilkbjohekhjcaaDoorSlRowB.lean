/-
  What DerAlls reads in a round of its second range.
-/
import Derived.Test.YtilkbjohekhjcaaDoorSlRowR
import Derived.Test.YtilkbjohekhjcaaDoorHRound
namespace Go.Proofs.YtilkbjohekhjcaaDoor
open Go.RowKit Go.Shelf Go.IntWalk

theorem addNone7 (g j : Nat) : (⟨g, 0, none⟩ : Addr).add j = ⟨g, j, none⟩ := by unfold Addr.add; split <;> simp_all

theorem row_at {W : World} {base : Nat} {a1 a2 : Option Addr} {K c1 c2 : Nat} {xs : List Int} {cs : List Value} (h : RowSt W base (.slice a1 K c1) (.slice a2 K c2) xs (placesS xs 0) cs) (hK : K = (placesS xs 0).length) {m x : Nat} (hx : (placesS xs 0)[m]? = some x) :
    m < K ∧ ∃ gW gP ao2 m2 c3, a1 = some ⟨gW, 0, none⟩ ∧ a2 = some ⟨gP, 0, none⟩ ∧ W.cell? ⟨gW, m * 2, none⟩ = some (.int .i64 (slipK (xs.drop x))) ∧ W.cell? ⟨gW, m * 2 + 1, none⟩ = some (.slice ao2 m2 c3) ∧ OwnB W base (.slice ao2 m2 c3) (slipD (xs.drop x)) ∧ W.cell? ⟨gP, m, none⟩ = some (.int .i64 (x : Int)) := by
  obtain ⟨hm, hx'⟩ := List.getElem?_eq_some_iff.1 hx
  refine ⟨by omega, ?_⟩
  obtain ⟨ao2, m2, c3, e0, e1, e2⟩ := h.hm.get7 m (by rw [List.length_map]; exact hm)
  have hel : ((placesS xs 0).map (elS xs)).getD m (0, []) = elS xs x := by simp [List.getD, hx]
  rw [hel] at e0 e2
  obtain ⟨gW, hgW⟩ : ∃ gW, a1 = some ⟨gW, 0, none⟩ := by
    rcases h.hl.2 with ⟨h1, h2⟩ | ⟨g, c, _, h1, _⟩
    · omega
    · simp at h1; exact ⟨g, h1.1⟩
  obtain ⟨gP, hgP⟩ : ∃ gP, a2 = some ⟨gP, 0, none⟩ := by
    rcases h.hp.2 with ⟨h1, h2⟩ | ⟨g, c, _, h1, _⟩
    · simp at h2; rw [h2] at hm; simp at hm
    · simp at h1; exact ⟨g, h1.1⟩
  subst hgW hgP
  refine ⟨gW, gP, ao2, m2, c3, rfl, rfl, ?_, ?_, e2, ?_⟩
  · have := World.ownsRow.cells h.hl (g := gW) rfl (2 * m) _ e0
    rw [addNone7, Nat.mul_comm] at this
    exact this
  · have := World.ownsRow.cells h.hl (g := gW) rfl (2 * m + 1) _ e1
    rw [addNone7, Nat.mul_comm] at this
    exact this
  · have := World.ownsRow.cells h.hp (g := gP) rfl m (.int .i64 (x : Int)) (by simp [hx])
    rw [addNone7] at this
    exact this

theorem pre_at {xs : List Int} {pre : List (Pl xs)} {x : Pl xs} (h : (pre ++ [x]).map (·.1) <+: placesS xs 0) : (placesS xs 0)[pre.length]? = some x.1 := by
  obtain ⟨tl, htl⟩ := h
  rw [← htl]
  simp

theorem boxed2 {A : World} {b : Nat} {t : TypeId} {u v : Value} (h : A.heap[b]? = some (.cells #[u, v] t (0, 0))) : A.cell? ⟨b, 0, none⟩ = some u ∧ A.cell? ⟨b, 1, none⟩ = some v := by
  simp [World.cell?, h]

/-- The cells that the round's condition reads: n, want, places, the place's number, the element wanted, the element handed. -/
def SAt (n want gW gP x K c1 c2 m : Nat) (t px : Int) (av : Option Addr) (mv cv : Nat) (ao2 : Option Addr) (m2 c3 : Nat) (W : World) : Prop :=
  W.cell? ⟨n, 0, none⟩ = some (.int .i64 (m : Int)) ∧ W.cell? ⟨want, 0, none⟩ = some (.slice (some ⟨gW, 0, none⟩) K c1) ∧ W.cell? ⟨want + 1, 0, none⟩ = some (.slice (some ⟨gP, 0, none⟩) K c2) ∧ W.cell? ⟨gP, m, none⟩ = some (.int .i64 px) ∧
  W.cell? ⟨gW, m * 2, none⟩ = some (.int .i64 t) ∧ W.cell? ⟨gW, m * 2 + 1, none⟩ = some (.slice ao2 m2 c3) ∧ W.cell? ⟨x, 0, none⟩ = some (.int .i64 t) ∧ W.cell? ⟨x, 1, none⟩ = some (.slice av mv cv)

theorem SAt.below {n want gW gP x K c1 c2 m : Nat} {t px : Int} {av : Option Addr} {mv cv : Nat} {ao2 : Option Addr} {m2 c3 : Nat} {A B : World} (h : SAt n want gW gP x K c1 c2 m t px av mv cv ao2 m2 c3 A) (hb : Below A.heap.size A B) : SAt n want gW gP x K c1 c2 m t px av mv cv ao2 m2 c3 B := by
  obtain ⟨r0, r1, r2, r3, r4, r5, r6, r7⟩ := h
  exact ⟨(hb.cell (lt_of_cell r0)).trans r0, (hb.cell (lt_of_cell r1)).trans r1, (hb.cell (lt_of_cell r2)).trans r2, (hb.cell (lt_of_cell r3)).trans r3, (hb.cell (lt_of_cell r4)).trans r4, (hb.cell (lt_of_cell r5)).trans r5, (hb.cell (lt_of_cell r6)).trans r6, (hb.cell (lt_of_cell r7)).trans r7⟩

end Go.Proofs.YtilkbjohekhjcaaDoor
