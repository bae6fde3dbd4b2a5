/-
  How a row's list of Acts is opened, and what its bulk says of the lengths.
-/
import Derived.Test.YtgajejomibnghaaDoorSaOpenV
import Derived.Test.YtgajejomibnghaaDoorSaH3
namespace Go.Proofs.YtgajejomibnghaaDoor
open Go.ChangeShapes Go.WideShapes Go.ChangeAt Go.RowKit Go.Deep

theorem Tryd.cellsI6 : Tryd.prog.cellsOf 3 = 1 := by kernel_rfl
theorem Tryd.cellsAct : Tryd.prog.cellsOf 40 = 4 := by kernel_rfl

theorem bulk_last {H : Type} (a b c d : DataW H) : Rows.uptoBulk d ≤ Rows.uptoBulk (.agg [a, b, c, d]) := by
  simp only [Rows.uptoBulk, Rows.uptoBulkAll]
  omega

set_option maxRecDepth 100000 in
theorem act_at {H : Type} {enc : TypeId × Value → H} {W : World} {n : Nat} {b off : Nat} {cs : List Value} {y : DataW H × List MemPlace}
    (h1 : W.cells? 0 ⟨b, off, none⟩ 4 = some cs) (h2 : DataW.trod enc Tryd.prog W 0 (fun _ => true) true n 40 cs = some y) :
    ∃ k o t a m c xs, W.cell? ⟨b, off, none⟩ = some (.int .i64 k) ∧ W.cell? ⟨b, off + 1, none⟩ = some (.int .i64 o) ∧ W.cell? ⟨b, off + 2, none⟩ = some (.int .i64 t) ∧ W.cell? ⟨b, off + 3, none⟩ = some (.slice a m c) ∧ SrcG .u8 256 W a m c xs ∧ xs.length ≤ Rows.uptoBulk y.1 := by
  obtain ⟨_, hlen, hc⟩ := World.cells?_some h1
  match cs, hlen with
  | [v0, v1, v2, v3], _ =>
    have c0 := hc 0 (by omega)
    have c1 := hc 1 (by omega)
    have c2 := hc 2 (by omega)
    have c3 := hc 3 (by omega)
    rw [addNone] at c0 c1 c2 c3
    simp at c0 c1 c2 c3
    obtain ⟨xs, n', _, hy, hl, hlen, hfs⟩ := DataW.trod_struct Tryd.underlying40 h2
    have g0 := hfs 0 _ rfl
    have g1 := hfs 1 _ rfl
    have g2 := hfs 2 _ rfl
    have g3 := hfs 3 _ rfl
    match xs, hlen with
    | [y0, y1, y2, y3], _ =>
      have k0 : DataW.trod enc Tryd.prog W 0 (fun _ => true) true n' 3 [v0] = some y0 := by simpa [Tryd.cellsI6] using g0
      have k1 : DataW.trod enc Tryd.prog W 0 (fun _ => true) true n' 3 [v1] = some y1 := by simpa [Tryd.cellsI6] using g1
      have k2 : DataW.trod enc Tryd.prog W 0 (fun _ => true) true n' 3 [v2] = some y2 := by simpa [Tryd.cellsI6] using g2
      have k3 : DataW.trod enc Tryd.prog W 0 (fun _ => true) true n' 22 [v3] = some y3 := by simpa [Tryd.cellsV] using g3
      obtain ⟨a0, e0, _, _⟩ := DataW.trod_int Tryd.underlying3 k0
      obtain ⟨a1, e1, _, _⟩ := DataW.trod_int Tryd.underlying3 k1
      obtain ⟨a2, e2, _, _⟩ := DataW.trod_int Tryd.underlying3 k2
      simp only [List.cons.injEq, and_true] at e0 e1 e2
      subst e0 e1 e2
      have hby : Rows.uptoBulk y3.1 ≤ Rows.uptoBulk y.1 := by
        rw [hy]
        exact bulk_last _ _ _ _
      rcases open_ints Tryd.underlying22 Tryd.underlying5 Tryd.cellsBB k3 with ⟨hv, hx2⟩ | ⟨x, l2, c2', zs, hv, _, hl2, hm2, hz2, hx2, hcell2, hwz⟩
      · simp at hv
        subst hv
        exact ⟨a0, a1, a2, none, 0, 0, [], c0, c1, c2, c3, ⟨rfl, Nat.le_refl _, by decide, fun _ => ⟨rfl, rfl⟩, fun h => absurd rfl h, by intro x hx; simp at hx⟩, by simp⟩
      · simp at hv
        subst hv
        have hz' : zs.length = c2' := by simpa using hz2
        refine ⟨a0, a1, a2, _, _, _, zs.take l2, c0, c1, c2, c3, srcBB_of_cells hl2 hm2 hz' hcell2 hwz, ?_⟩
        refine Nat.le_trans ?_ hby
        rw [hx2, bulk_slice]
        have := bulk_len (lits (H := H) .u8 (zs.take l2))
        simp [lits] at this
        simp
        simp [lits]
        omega

set_option maxRecDepth 100000 in
/-- An argument of type []Act, as the row reads it. -/
theorem open_acts {H : Type} {enc : TypeId × Value → H} {W : World} {a0 : Option Addr} {len cap : Nat} {d : DataW H} {p : List MemPlace}
    (h : DataW.Trod enc Tryd.prog W 0 (fun _ => true) true 34 (.slice a0 len cap) d p) : ∃ es, Acts W a0 len cap es ∧ (es.map (fun e => e.2.2.2)).flatten.length ≤ Rows.uptoBulk d := by
  obtain ⟨fuel, hf⟩ := h
  rcases open_slice Tryd.underlying34 hf with ⟨hcs, hx⟩ | ⟨a, l, c, m, n, D, Pl, hcs, _, hl, hm, hmm, hx, hcell⟩
  · simp [Value.cells] at hcs
    obtain ⟨rfl, rfl, rfl⟩ := hcs
    exact ⟨[], ⟨rfl, Nat.le_refl _, by decide, fun h => absurd h (by omega)⟩, by simp⟩
  · simp [Value.cells] at hcs
    obtain ⟨rfl, rfl, rfl⟩ := hcs
    have hmc : m = cap := by simpa using hmm
    subst hmc
    rw [Tryd.cellsAct] at hcell
    simp only [Prod.mk.injEq] at hx
    by_cases h0 : 0 < len
    · obtain ⟨b, off, spot⟩ := a
      have hspot : spot = none := by
        obtain ⟨cs', h1, _⟩ := hcell 0 (by omega)
        obtain ⟨_, hlen, hc⟩ := World.cells?_some h1
        have := hc 0 (by omega)
        match cs', hlen with
        | [v0, v1, v2, v3], _ =>
          simp at this
          simpa [Addr.add] using World.cell?_spot this
      subst hspot
      have key : ∀ i, ∃ e : Int × Int × Int × List Int, i < len → (∃ a m c, W.cell? ⟨b, off + i * 4, none⟩ = some (.int .i64 e.1) ∧ W.cell? ⟨b, off + i * 4 + 1, none⟩ = some (.int .i64 e.2.1) ∧ W.cell? ⟨b, off + i * 4 + 2, none⟩ = some (.int .i64 e.2.2.1) ∧ W.cell? ⟨b, off + i * 4 + 3, none⟩ = some (.slice a m c) ∧ SrcG .u8 256 W a m c e.2.2.2) ∧ e.2.2.2.length ≤ Rows.uptoBulk (D i) := by
        intro i
        by_cases hi : i < len
        · obtain ⟨cs', h1, h2⟩ := hcell i (by omega)
          rw [addNone] at h1
          obtain ⟨k, o, t, a, m', c, xs, k0, k1, k2, k3, k4, k5⟩ := act_at h1 h2
          exact ⟨(k, o, t, xs), fun _ => ⟨⟨a, m', c, k0, k1, k2, k3, k4⟩, k5⟩⟩
        · exact ⟨(0, 0, 0, []), fun h => absurd h hi⟩
      obtain ⟨L, hL⟩ := Classical.axiomOfChoice key
      have hd := hx.1
      refine ⟨(List.range len).map L, ⟨by simp, hl, hm, fun _ => ⟨b, off, rfl, fun i hi => ?_⟩⟩, ?_⟩
      · have e : ((List.range len).map L).getD i (0, 0, 0, []) = L i := by simp [List.getD, hi]
        rw [e]
        exact (hL i hi).1
      · rw [hd, bulk_slice, List.map_map]
        have := bulk_flat (fun i => (L i).2.2.2) D (List.range len) (fun i hi => (hL i (by simpa using hi)).2)
        have e : ((fun e : Int × Int × Int × List Int => e.2.2.2) ∘ L) = (fun i => (L i).2.2.2) := rfl
        rw [e]
        omega
    · exact ⟨[], ⟨by simp; omega, hl, hm, fun h => absurd h h0⟩, by simp⟩

end Go.Proofs.YtgajejomibnghaaDoor
