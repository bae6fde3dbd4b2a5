/-
  How a row's [][]byte argument is opened, and what its bulk says of the lengths.
-/
import Derived.Test.YtdoijgkdmfchaaaOpen
import Derived.Test.YtdoijgkdmfchaaaLents
import Derived.Deep.Slices
import Derived.JoinedCond
namespace Go.Proofs.Ytdoijgkdmfchaaa
open Go.ChangeShapes Go.WideShapes Go.ChangeAt Go.RowKit Go.Deep

theorem Try.cellsV : Try.prog.cellsOf 22 = 1 := by kernel_rfl

theorem bulk_pos {H : Type} (d : DataW H) : 1 ≤ Rows.uptoBulk d := by
  cases d with
  | lit l => cases l <;> simp [Rows.uptoBulk]
  | nil | ptr _ | slice _ _ | agg _ | iface _ _ | map _ | held _ => simp [Rows.uptoBulk]

theorem bulk_len {H : Type} : ∀ l : List (DataW H), l.length ≤ Rows.uptoBulkAll l
  | [] => by simp [Rows.uptoBulkAll]
  | d :: r => by have h1 := bulk_pos d; have h2 := bulk_len r; simp only [Rows.uptoBulkAll, List.length_cons]; omega

theorem bulk_mem {H : Type} : ∀ (l : List (DataW H)) (d : DataW H), d ∈ l → Rows.uptoBulk d ≤ Rows.uptoBulkAll l
  | [], _, h => by cases h
  | x :: r, d, h => by
    simp only [Rows.uptoBulkAll]
    rcases List.mem_cons.1 h with rfl | h
    · omega
    · have := bulk_mem r d h; omega

theorem bulk_slice {H : Type} (el sp : List (DataW H)) : Rows.uptoBulk (.slice el sp) = Rows.uptoBulkAll el + Rows.uptoBulkAll sp + 1 := by simp only [Rows.uptoBulk]

theorem bulk_bytes {H : Type} {d : DataW H} {len cap : Nat} (hc : len ≤ cap) (h : (d = .nil ∧ len = 0 ∧ cap = 0) ∨ ∃ el sp, d = .slice el sp ∧ el.length + sp.length = cap) : len ≤ Rows.uptoBulk d := by
  rcases h with ⟨_, rfl, _⟩ | ⟨el, sp, rfl, h⟩
  · omega
  · have h1 := bulk_len el
    have h2 := bulk_len sp
    rw [bulk_slice]
    omega

theorem getD_range {α : Type} (f : Nat → α) (n i : Nat) (d : α) (h : i < n) : ((List.range n).map f).getD i d = f i := by
  simp [List.getD, h]

/-- An argument of type [][]byte, as the row reads it. -/
theorem open_parts {H : Type} {enc : TypeId × Value → H} {W : World} {a0 : Option Addr} {len cap : Nat} {d : DataW H} {p : List MemPlace}
    (h : DataW.Trod enc Try.prog W 0 (fun _ => true) true 23 (.slice a0 len cap) d p) :
    ∃ vs ls, Parts W a0 len cap vs ls ∧ len ≤ Rows.uptoBulk d ∧ (∀ i, i < len → (ls.getD i []).length ≤ Rows.uptoBulk d) ∧ ((d = .nil ∧ len = 0 ∧ cap = 0) ∨ ∃ el sp, d = .slice el sp ∧ el.length + sp.length = cap) := by
  obtain ⟨fuel, hf⟩ := h
  rcases open_slice1 Try.underlying23 Try.cellsV hf with ⟨hcs, hx⟩ | ⟨a, l, c, m, n, V, D, Pl, hcs, _, hl, hm, hmm, hx, hcell⟩
  · simp [Value.cells] at hcs
    obtain ⟨rfl, rfl, rfl⟩ := hcs
    simp only [Prod.mk.injEq] at hx
    exact ⟨[], [], ⟨rfl, rfl, Nat.le_refl _, by decide, fun h => absurd h (by omega), fun i h => absurd h (by omega)⟩, by omega, fun i h => absurd h (by omega), .inl ⟨hx.1, rfl, rfl⟩⟩
  · simp [Value.cells] at hcs
    obtain ⟨rfl, rfl, rfl⟩ := hcs
    simp only [Prod.mk.injEq] at hx
    have hmc : m = cap := by simpa using hmm
    subst hmc
    have key : ∀ i, ∃ l : List Int, i < len → ∃ a' m' c', V i = .slice a' m' c' ∧ Src W a' m' c' l ∧ l.length ≤ Rows.uptoBulk (D i) := by
      intro i
      by_cases hi : i < len
      · have h2 := (hcell i (by omega)).2
        rcases open_ints Try.underlying22 Try.underlying5 Try.cellsB h2 with ⟨hv, hx2⟩ | ⟨x, l2, c2, zs, hv, _, hl2, hm2, hz2, hx2, hcell2, hwz⟩
        · simp at hv
          exact ⟨[], fun _ => ⟨none, 0, 0, hv, ⟨rfl, Nat.le_refl _, by decide, fun _ => ⟨rfl, rfl⟩, fun h => absurd rfl h, by simp⟩, by simp⟩⟩
        · simp at hv
          simp only [Prod.mk.injEq] at hx2
          have hz' : zs.length = c2 := by simpa using hz2
          refine ⟨zs.take l2, fun _ => ⟨_, _, _, hv, src_of_cells hl2 hm2 hz' hcell2 hwz, ?_⟩⟩
          rw [hx2.1, bulk_slice]
          have := bulk_len (lits (H := H) .u8 (zs.take l2))
          simp [lits] at this
          simp
          simp [lits]
          omega
      · exact ⟨[], fun h => absurd h hi⟩
    obtain ⟨L, hL⟩ := Classical.axiomOfChoice key
    have hd : d = .slice ((List.range len).map D) ((List.range (m - len)).map fun j => D (len + j)) := hx.1
    have hb : ∀ i, i < len → Rows.uptoBulk (D i) ≤ Rows.uptoBulk d := by
      intro i hi
      rw [hd, bulk_slice]
      have := bulk_mem ((List.range len).map D) (D i) (by simp; exact ⟨i, hi, rfl⟩)
      omega
    refine ⟨(List.range len).map V, (List.range len).map L, ⟨by simp, by simp, hl, hm, ?_, ?_⟩, ?_, ?_, .inr ⟨_, _, hd, by simp; omega⟩⟩
    · intro h0
      obtain ⟨b, off, spot⟩ := a
      have hc := (hcell 0 (by omega)).1
      have hspot : spot = none := by simpa [Addr.add] using World.cell?_spot hc
      subst hspot
      refine ⟨b, off, rfl, fun i hi => ?_⟩
      have := (hcell i (by omega)).1
      rw [add_none] at this
      rw [this, getD_range _ _ _ _ hi]
    · intro i hi
      obtain ⟨a', m', c', h1, h2, _⟩ := hL i hi
      refine ⟨a', m', c', ?_, ?_⟩
      · rw [getD_range _ _ _ _ hi, h1]
      · rw [getD_range _ _ _ _ hi]; exact h2
    · rw [hd, bulk_slice]
      have := bulk_len ((List.range len).map D)
      simp at this
      omega
    · intro i hi
      obtain ⟨a', m', c', _, _, h3⟩ := hL i hi
      rw [getD_range _ _ _ _ hi]
      have := hb i hi
      omega

end Go.Proofs.Ytdoijgkdmfchaaa
