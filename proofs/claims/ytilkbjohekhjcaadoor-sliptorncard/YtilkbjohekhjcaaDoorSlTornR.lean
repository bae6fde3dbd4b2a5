/-
  The memory of SlipTorn's range, and small facts.
-/
import Derived.Test.YtilkbjohekhjcaaDoorSlTornS
import Derived.Test.YtilkbjohekhjcaaDoorSlRowB
import Derived.Test.YtilkbjohekhjcaaDoorSlOpenL
import Derived.Test.YtilkbjohekhjcaaDoorSlRight
import Derived.Test.YtilkbjohekhjcaaDoorSlEachJ
import Derived.Test.YtilkbjohekhjcaaDoorBoxSt
namespace Go.Proofs.YtilkbjohekhjcaaDoor
open Go.RowKit Go.Shelf Go.IntWalk

theorem wholes_le : ∀ (L : List Sl) (n : Nat), wholes L n ≤ L.length
  | [], _ => Nat.le_refl _
  | s :: r, m => by
    simp only [wholes]
    split
    · have := wholes_le r (m - sz s); simp; omega
    · simp
theorem endsT_le : ∀ (L : List Sl) (n : Nat), endsT L n ≤ n
  | [], _ => Nat.zero_le _
  | s :: r, m => by
    simp only [endsT]
    split
    · have := endsT_le r (m - sz s); omega
    · omega

theorem BSt.mk5 {w W : World} {a0 a1 a2 a3 a4 : Nat} {t0 t1 t2 t3 t4 : TypeId} {v0 v1 v2 v3 v4 : Value} (h0 : Boxed W a0 t0 v0) (h1 : Boxed W a1 t1 v1) (h2 : Boxed W a2 t2 v2) (h3 : Boxed W a3 t3 v3) (h4 : Boxed W a4 t4 v4)
    (o : w.heap.size ≤ a0 ∧ a0 < a1 ∧ a1 < a2 ∧ a2 < a3 ∧ a3 < a4) (hb : Below w.heap.size w W) : BSt w [(a0, t0, v0), (a1, t1, v1), (a2, t2, v2), (a3, t3, v3), (a4, t4, v4)] [] W := by
  obtain ⟨o0, o1, o2, o3, o4⟩ := o
  refine ⟨fun i x hx => ?_, fun i j x y hx hy he => ?_, fun D hD => (by cases hD), hb⟩
  · match i, hx with
    | 0, hx => cases hx; exact ⟨o0, h0⟩
    | 1, hx => cases hx; exact ⟨by omega, h1⟩
    | 2, hx => cases hx; exact ⟨by simp only; omega, h2⟩
    | 3, hx => cases hx; exact ⟨by simp only; omega, h3⟩
    | 4, hx => cases hx; exact ⟨by simp only; omega, h4⟩
    | i + 5, hx => simp at hx
  · match i, j, hx, hy with
    | 0, 0, _, _ => rfl
    | 1, 1, _, _ => rfl
    | 2, 2, _, _ => rfl
    | 3, 3, _, _ => rfl
    | 4, 4, _, _ => rfl
    | 0, 1, hx, hy | 0, 2, hx, hy | 0, 3, hx, hy | 0, 4, hx, hy | 1, 0, hx, hy | 1, 2, hx, hy | 1, 3, hx, hy | 1, 4, hx, hy | 2, 0, hx, hy | 2, 1, hx, hy | 2, 3, hx, hy | 2, 4, hx, hy | 3, 0, hx, hy | 3, 1, hx, hy | 3, 2, hx, hy | 3, 4, hx, hy | 4, 0, hx, hy | 4, 1, hx, hy | 4, 2, hx, hy | 4, 3, hx, hy => cases hx; cases hy; simp only at he; omega
    | i + 5, _, hx, _ => simp at hx
    | _, j + 5, _, hy => simp at hy

/-- The law's variables while it ranges. -/
def tornB (w : World) (Vb I B : Nat) (sl kp : Value) (wh k : Int) : List (Nat × TypeId × Value) :=
  [(w.heap.size, 22, sl), (w.heap.size + 1, 4, .bool false), (Vb, 3, .int .i64 wh), (I, 3, .int .i64 k), (B, 24, kp)]

/-- What the round's condition reads. -/
def TAt (I Vb X lb bl o : Nat) (k wh u tk : Int) (av : Option Addr) (mv cv nl cl : Nat) (a : Option Addr) (m0 c m : Nat) (ol : Nat) (zs : List Int) (W : World) : Prop :=
  W.cell? ⟨I, 0, none⟩ = some (.int .i64 k) ∧ W.cell? ⟨Vb, 0, none⟩ = some (.int .i64 wh) ∧ W.cell? ⟨X, 0, none⟩ = some (.int .i64 u) ∧ W.cell? ⟨X, 1, none⟩ = some (.slice av mv cv) ∧
  W.cell? ⟨lb, 0, none⟩ = some (.slice (some ⟨bl, ol, none⟩) nl cl) ∧ W.cell? ⟨bl, o, none⟩ = some (.int .i64 tk) ∧ W.cell? ⟨bl, o + 1, none⟩ = some (.slice a m0 c) ∧ Src W av mv cv zs ∧ Src W a m c zs
theorem TAt.below {I Vb X lb bl o : Nat} {k wh u tk : Int} {av : Option Addr} {mv cv nl cl : Nat} {a : Option Addr} {m0 c m ol : Nat} {zs : List Int} {A C : World} (h : TAt I Vb X lb bl o k wh u tk av mv cv nl cl a m0 c m ol zs A) (hb : Below A.heap.size A C) : TAt I Vb X lb bl o k wh u tk av mv cv nl cl a m0 c m ol zs C := by
  obtain ⟨r0, r1, r2, r3, r4, r5, r6, r7, r8⟩ := h
  exact ⟨(hb.cell (lt_of_cell r0)).trans r0, (hb.cell (lt_of_cell r1)).trans r1, (hb.cell (lt_of_cell r2)).trans r2, (hb.cell (lt_of_cell r3)).trans r3, (hb.cell (lt_of_cell r4)).trans r4, (hb.cell (lt_of_cell r5)).trans r5, (hb.cell (lt_of_cell r6)).trans r6, r7.below hb, r8.below hb⟩

set_option maxRecDepth 100000 in
theorem torn_leave (w W : World) (tmps : Array Value) (D : Nat) (bx : List (Nat × TypeId × Value)) (h : BSt w bx [D] W) (b : Nat) (h0 : bx[1]? = some (b, 4, .bool true)) (ht : tmps[4]? = some (.pointer (some ⟨b, 0, none⟩))) :
    LeavesInM Fence.wide 8 Tryd.prog Tryd.f3 tmps (fun e w' => e = .returned (.bool true) ∧ Below w.heap.size w w') [{ target := .collected D, args := #[] }] .returning W := by
  have h1 := (h.dfr D (by simp)).2
  have h2 := h.take (by simp)
  have c1 := (h2.get 1 h0).cell
  refine ⟨by simp, .inl ⟨_, _, rfl, run_takeDeferred h1, ?_⟩⟩
  exact ⟨.bool true, by simp [results, Tryd.results3, go_sem, ht, c1, Array.getD_eq_getD_getElem?], rfl, h2.bel⟩
def Nv2 {α : Type} (_ : α) (_ : World) : Prop := False
theorem right_at {L : List Sl} {es : List (Int × List Int)} (h : (es.map rightS).take 20 = L) {k : Nat} (hk : k < L.length) : k < es.length ∧ L[k]? = some (rightS (es.getD k (0, []))) := by
  subst h
  rw [List.length_take, List.length_map] at hk
  have h1 : k < es.length := by omega
  refine ⟨h1, ?_⟩
  rw [List.getElem?_take, if_pos (by omega), List.getElem?_map, List.getElem?_eq_getElem h1]
  simp [List.getD, List.getElem?_eq_getElem h1]

end Go.Proofs.YtilkbjohekhjcaaDoor
