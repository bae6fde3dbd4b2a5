/-
  How a row's []Slip argument is opened into what the walks are told of it.
-/
import Derived.Test.YtilkbjohekhjcaaDoorSlOpen
import Derived.Test.YtilkbjohekhjcaaDoorBulk
import Derived.Deep.Slices
namespace Go.Proofs.YtilkbjohekhjcaaDoor
open Go.ChangeShapes Go.WideShapes Go.ChangeAt Go.RowKit Go.Joins Go.Deep

/-- The slice at 'ao', of n slips, holds these. -/
structure Els (w : World) (ao : Option Addr) (n cap : Nat) (es : List (Int × List Int)) : Prop where
  hl : es.length = n
  hcap : n ≤ cap
  hmax : cap ≤ maxLen
  hrd : 0 < n → ∃ b off, ao = some ⟨b, off, none⟩ ∧ ∀ i, i < n → ∃ a m c, w.cell? ⟨b, off + i * 2, none⟩ = some (.int .i64 (es.getD i (0, [])).1) ∧ w.cell? ⟨b, off + i * 2 + 1, none⟩ = some (.slice a m c) ∧ Src w a m c (es.getD i (0, [])).2

theorem Tryd.cellsInt : Tryd.prog.cellsOf 3 = 1 := by kernel_rfl

set_option maxRecDepth 100000 in
theorem elem_at {H : Type} {enc : TypeId × Value → H} {W : World} {n : Nat} {b off : Nat} {cs : List Value} {y : DataW H × List MemPlace}
    (h1 : W.cells? 0 ⟨b, off, none⟩ 2 = some cs) (h2 : DataW.trod enc Tryd.prog W 0 (fun _ => true) true n 30 cs = some y) :
    ∃ t a m c xs, W.cell? ⟨b, off, none⟩ = some (.int .i64 t) ∧ W.cell? ⟨b, off + 1, none⟩ = some (.slice a m c) ∧ Src W a m c xs := by
  obtain ⟨_, hlen, hc⟩ := World.cells?_some h1
  match cs, hlen with
  | [v0, v1], _ =>
    have c0 := hc 0 (by omega)
    have c1 := hc 1 (by omega)
    rw [add_none] at c0 c1
    simp at c0 c1
    obtain ⟨y0, y1, n', _, _, e0, e1⟩ := trod_struct2 Tryd.underlying30 h2
    simp [Tryd.cellsInt, Tryd.cellsV] at e0 e1
    obtain ⟨t, hv0, _, _⟩ := DataW.trod_int Tryd.underlying3 e0
    simp only [List.cons.injEq, and_true] at hv0
    subst hv0
    have hs : ∃ a m c, v1 = .slice a m c := by
      rcases open_ints Tryd.underlying24 Tryd.underlying5 Tryd.cellsB e1 with ⟨hcs, _⟩ | ⟨x, l, c, zs, hcs, _⟩
      · simp at hcs; exact ⟨_, _, _, hcs⟩
      · simp at hcs; exact ⟨_, _, _, hcs⟩
    obtain ⟨a, m, c, rfl⟩ := hs
    have h3 : DataW.Trod enc Tryd.prog W 0 (fun _ => true) true 24 (.slice a m c) y1.1 y1.2 := ⟨n', e1⟩
    obtain ⟨xs, hsrc, _⟩ := open_bytes h3
    exact ⟨t, a, m, c, xs, c0, c1, hsrc⟩

set_option maxRecDepth 100000 in
/-- An argument of type []Slip, as the row reads it. -/
theorem open_slips {H : Type} {enc : TypeId × Value → H} {W : World} {a0 : Option Addr} {len cap : Nat} {d : DataW H} {p : List MemPlace}
    (h : DataW.Trod enc Tryd.prog W 0 (fun _ => true) true 22 (.slice a0 len cap) d p) : ∃ es, Els W a0 len cap es := by
  obtain ⟨fuel, hf⟩ := h
  rcases open_slice Tryd.underlying22 hf with ⟨hcs, hx⟩ | ⟨a, l, c, m, n, D, Pl, hcs, _, hl, hm, hmm, hx, hcell⟩
  · simp [Value.cells] at hcs
    obtain ⟨rfl, rfl, rfl⟩ := hcs
    exact ⟨[], ⟨rfl, Nat.le_refl _, by decide, fun h => absurd h (by omega)⟩⟩
  · simp [Value.cells] at hcs
    obtain ⟨rfl, rfl, rfl⟩ := hcs
    have hmc : m = cap := by simpa using hmm
    subst hmc
    rw [Tryd.cellsE] at hcell
    by_cases h0 : 0 < len
    · obtain ⟨b, off, spot⟩ := a
      have hspot : spot = none := by
        obtain ⟨cs', h1, _⟩ := hcell 0 (by omega)
        obtain ⟨_, hlen, hc⟩ := World.cells?_some h1
        have := hc 0 (by omega)
        match cs', hlen with
        | [v0, v1], _ =>
          simp at this
          simpa [Addr.add] using World.cell?_spot this
      subst hspot
      have key : ∀ i, ∃ e : Int × List Int, i < len → ∃ a m c, W.cell? ⟨b, off + i * 2, none⟩ = some (.int .i64 e.1) ∧ W.cell? ⟨b, off + i * 2 + 1, none⟩ = some (.slice a m c) ∧ Src W a m c e.2 := by
        intro i
        by_cases hi : i < len
        · obtain ⟨cs', h1, h2⟩ := hcell i (by omega)
          rw [add_none] at h1
          obtain ⟨t, a, m', c, xs, k1, k2, k3⟩ := elem_at h1 h2
          exact ⟨(t, xs), fun _ => ⟨a, m', c, k1, k2, k3⟩⟩
        · exact ⟨(0, []), fun h => absurd h hi⟩
      obtain ⟨L, hL⟩ := Classical.axiomOfChoice key
      refine ⟨(List.range len).map L, ⟨by simp, hl, hm, fun _ => ⟨b, off, rfl, fun i hi => ?_⟩⟩⟩
      have e : ((List.range len).map L).getD i (0, []) = L i := by simp [List.getD, hi]
      rw [e]
      exact hL i hi
    · exact ⟨[], ⟨by simp; omega, hl, hm, fun h => absurd h h0⟩⟩

end Go.Proofs.YtilkbjohekhjcaaDoor
