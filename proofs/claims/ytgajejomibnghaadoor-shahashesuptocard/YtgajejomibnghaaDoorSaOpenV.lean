/-
  How a row's argument of pieces of bytes is opened, and what its bulk says of the lengths.
-/
import Derived.Test.YtgajejomibnghaaDoorOpenB8
import Derived.Test.YtgajejomibnghaaDoorSaHash
import Derived.Deep.Slices
import Derived.JoinedCond
namespace Go.Proofs.YtgajejomibnghaaDoor
open Go.ChangeShapes Go.WideShapes Go.ChangeAt Go.RowKit Go.Deep

theorem Tryd.cellsV : Tryd.prog.cellsOf 22 = 1 := by kernel_rfl

theorem bulk_pos {H : Type} (d : DataW H) : 1 ≤ Rows.uptoBulk d := by
  cases d with
  | lit l => cases l <;> simp [Rows.uptoBulk]
  | nil | ptr _ | slice _ _ | agg _ | iface _ _ | map _ | held _ => simp [Rows.uptoBulk]

theorem bulk_len {H : Type} : ∀ l : List (DataW H), l.length ≤ Rows.uptoBulkAll l
  | [] => by simp [Rows.uptoBulkAll]
  | d :: r => by have h1 := bulk_pos d; have h2 := bulk_len r; simp only [Rows.uptoBulkAll, List.length_cons]; omega

theorem bulk_slice {H : Type} (el sp : List (DataW H)) : Rows.uptoBulk (.slice el sp) = Rows.uptoBulkAll el + Rows.uptoBulkAll sp + 1 := by simp only [Rows.uptoBulk]

theorem bulk_bytes {H : Type} {d : DataW H} {len cap : Nat} (hc : len ≤ cap) (h : (d = .nil ∧ len = 0 ∧ cap = 0) ∨ ∃ el sp, d = .slice el sp ∧ el.length + sp.length = cap) : len ≤ Rows.uptoBulk d := by
  rcases h with ⟨_, rfl, _⟩ | ⟨el, sp, rfl, h⟩
  · omega
  · have h1 := bulk_len el
    have h2 := bulk_len sp
    rw [bulk_slice]
    omega

theorem getD_range {α : Type} (f : Nat → α) (n i : Nat) (d : α) (h : i < n) : ((List.range n).map f).getD i d = f i := by
  simp [List.getD, h]

theorem bulk_flat {H : Type} (L : Nat → List Int) (D : Nat → DataW H) : ∀ l : List Nat, (∀ i ∈ l, (L i).length ≤ Rows.uptoBulk (D i)) → (l.map L).flatten.length ≤ Rows.uptoBulkAll (l.map D)
  | [], _ => by simp
  | i :: r, h => by
    have h1 := h i (by simp)
    have h2 := bulk_flat L D r (fun j hj => h j (by simp [hj]))
    simp only [List.map_cons, List.flatten_cons, List.length_append, Rows.uptoBulkAll]
    omega

/-- An argument of pieces of bytes, as the row reads it. -/
theorem open_pieces {H : Type} {enc : TypeId × Value → H} {W : World} {a0 : Option Addr} {len cap : Nat} {d : DataW H} {p : List MemPlace}
    (h : DataW.Trod enc Tryd.prog W 0 (fun _ => true) true 23 (.slice a0 len cap) d p) :
    ∃ ls, Pcs0 W a0 len ls ∧ len ≤ cap ∧ len ≤ Rows.uptoBulk d ∧ ls.flatten.length ≤ Rows.uptoBulk d := by
  obtain ⟨fuel, hf⟩ := h
  rcases open_slice1 Tryd.underlying23 Tryd.cellsV hf with ⟨hcs, hx⟩ | ⟨a, l, c, m, n, V, D, Pl, hcs, _, hl, hm, hmm, hx, hcell⟩
  · simp [Value.cells] at hcs
    obtain ⟨rfl, rfl, rfl⟩ := hcs
    exact ⟨[], ⟨rfl, fun h => absurd h (by omega)⟩, Nat.le_refl _, by omega, by simp⟩
  · simp [Value.cells] at hcs
    obtain ⟨rfl, rfl, rfl⟩ := hcs
    simp only [Prod.mk.injEq] at hx
    have hmc : m = cap := by simpa using hmm
    subst hmc
    have key : ∀ i, ∃ l : List Int, i < len → ∃ a' m' c', V i = .slice a' m' c' ∧ SrcG .u8 256 W a' m' c' l ∧ l.length ≤ Rows.uptoBulk (D i) := by
      intro i
      by_cases hi : i < len
      · have h2 := (hcell i (by omega)).2
        rcases open_ints Tryd.underlying22 Tryd.underlying5 Tryd.cellsBB h2 with ⟨hv, hx2⟩ | ⟨x, l2, c2, zs, hv, _, hl2, hm2, hz2, hx2, hcell2, hwz⟩
        · simp at hv
          exact ⟨[], fun _ => ⟨none, 0, 0, hv, ⟨rfl, Nat.le_refl _, by decide, fun _ => ⟨rfl, rfl⟩, fun h => absurd rfl h, by intro x hx; simp at hx⟩, by simp⟩⟩
        · simp at hv
          simp only [Prod.mk.injEq] at hx2
          have hz' : zs.length = c2 := by simpa using hz2
          refine ⟨zs.take l2, fun _ => ⟨_, _, _, hv, srcBB_of_cells hl2 hm2 hz' hcell2 hwz, ?_⟩⟩
          rw [hx2.1, bulk_slice]
          have := bulk_len (lits (H := H) .u8 (zs.take l2))
          simp [lits] at this
          simp
          simp [lits]
          omega
      · exact ⟨[], fun h => absurd h hi⟩
    obtain ⟨L, hL⟩ := Classical.axiomOfChoice key
    have hd : d = .slice ((List.range len).map D) ((List.range (m - len)).map fun j => D (len + j)) := hx.1
    refine ⟨(List.range len).map L, ⟨by simp, ?_⟩, hl, ?_, ?_⟩
    · intro h0
      obtain ⟨b, off, spot⟩ := a
      have hc := (hcell 0 (by omega)).1
      have hspot : spot = none := by simpa [Addr.add] using World.cell?_spot hc
      subst hspot
      refine ⟨b, off, rfl, fun i hi => ?_⟩
      have h1 := (hcell i (by omega)).1
      rw [addNone] at h1
      obtain ⟨a', m', c', h2, h3, _⟩ := hL i hi
      rw [h2] at h1
      exact ⟨a', m', c', h1, by rw [getD_range _ _ _ _ hi]; exact h3⟩
    · rw [hd, bulk_slice]
      have := bulk_len ((List.range len).map D)
      simp at this
      omega
    · rw [hd, bulk_slice]
      have := bulk_flat L D (List.range len) (fun i hi => by obtain ⟨_, _, _, _, _, h⟩ := hL i (by simpa using hi); exact h)
      omega

end Go.Proofs.YtgajejomibnghaaDoor
