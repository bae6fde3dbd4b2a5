/-
  How a row's argument of type Subtree or General is opened into what the walks are told of it.
  How a row's argument of type Name is opened into what the walks are told of it.
  An argument of type Name, and what its bulk says of the lengths.
  Arguments that are rows of subtrees or of general names.
  How long a row of subtrees is, by its bulk.
-/
import Derived.Test.YtklchpdpooikdaaGreatDoorRows
import Derived.Lib.SmallJoins
import Derived.Test.YtklchpdpooikdaaGreatDoorXHoB
import Derived.ProofKit
import Derived.OpenShut
import Derived.ShutString
import Derived.Test.YtklchpdpooikdaaGreatDoorXNmRowToNmThere
import Derived.Deep.Slices
import Derived.ChangeSame
import Derived.SizedLaws
import Derived.JoinedOf
import Derived.ChangeOld
import Derived.Below
import Derived.Test.YtklchpdpooikdaaGreatDoorXWiChkWToWiThere
namespace Go.Proofs.YtklchpdpooikdaaGreatDoor
open Go.ChangeShapes Go.WideShapes Go.ChangeAt Go.RowKit Go.Joins

theorem Tryz.laidOutG : laidOutB Tryz.prog = true := by kernel_rfl

theorem Tryz.cellssubtree : Tryz.prog.cellsOf 36 = 2 := by kernel_rfl

set_option maxRecDepth 100000 in
theorem open_subtree {H : Type} {enc : TypeId × Value → H} {W : World} {r : Reach} {b0 : Nat} {v : Value} {d : DataW H} {p : List MemPlace}
    (hv : Value.okWide Tryz.prog W r b0 36 v) (h : DataW.Trod enc Tryz.prog W 0 (fun _ => true) true 36 v d p) :
    ∃ t s, v = .agg #[.int .i64 t, .string s] ∧ (Lit.int .i64 t).wf = true ∧ s.size ≤ Rows.uptoBulk d := by
  obtain ⟨v0, v1, y0, y1, m, rfl, rfl, rfl, hy0, hy1⟩ := open_agg2 Tryz.underlying36 (by kernel_rfl) Tryz.cellssubtree hv h
  obtain ⟨t, e0, hy, hwf⟩ := DataW.trod_int Tryz.underlying3 hy0
  simp only [List.cons.injEq, and_true] at e0
  subst e0
  obtain ⟨s, e1, hz, _⟩ := DataW.trod_string Tryz.underlying9 hy1
  simp only [List.cons.injEq, and_true] at e1
  subst e1
  refine ⟨t, s, rfl, hwf, ?_⟩
  have h8 := sizeH_len s
  rw [hz]
  simp only [Rows.uptoBulk, Rows.uptoBulkAll]
  omega

theorem Tryz.cellsgeneral : Tryz.prog.cellsOf 32 = 2 := by kernel_rfl

set_option maxRecDepth 100000 in
theorem open_general {H : Type} {enc : TypeId × Value → H} {W : World} {r : Reach} {b0 : Nat} {v : Value} {d : DataW H} {p : List MemPlace}
    (hv : Value.okWide Tryz.prog W r b0 32 v) (h : DataW.Trod enc Tryz.prog W 0 (fun _ => true) true 32 v d p) :
    ∃ t s, v = .agg #[.int .i64 t, .string s] ∧ (Lit.int .i64 t).wf = true ∧ s.size ≤ Rows.uptoBulk d := by
  obtain ⟨v0, v1, y0, y1, m, rfl, rfl, rfl, hy0, hy1⟩ := open_agg2 Tryz.underlying32 (by kernel_rfl) Tryz.cellsgeneral hv h
  obtain ⟨t, e0, hy, hwf⟩ := DataW.trod_int Tryz.underlying3 hy0
  simp only [List.cons.injEq, and_true] at e0
  subst e0
  obtain ⟨s, e1, hz, _⟩ := DataW.trod_string Tryz.underlying9 hy1
  simp only [List.cons.injEq, and_true] at e1
  subst e1
  refine ⟨t, s, rfl, hwf, ?_⟩
  have h8 := sizeH_len s
  rw [hz]
  simp only [Rows.uptoBulk, Rows.uptoBulkAll]
  omega

end Go.Proofs.YtklchpdpooikdaaGreatDoor

namespace Go.Proofs.YtklchpdpooikdaaGreatDoor
open Go.ChangeShapes Go.WideShapes Go.ChangeAt Go.RowKit Go.Deep

theorem Tryz.laidOutN : laidOutB Tryz.prog = true := by kernel_rfl
theorem Tryz.cellsI12 : Tryz.prog.cellsOf 3 = 1 := by kernel_rfl
theorem Tryz.cellsS12 : Tryz.prog.cellsOf 9 = 1 := by kernel_rfl
theorem Tryz.cellsA12 : Tryz.prog.cellsOf 111 = 2 := by kernel_rfl
theorem n_add_none (b off i : Nat) : (⟨b, off, none⟩ : Addr).add i = ⟨b, off + i, none⟩ := add_none _ _ _

theorem weights_all {H : Type} {P : Program} {e : TypeId} : ∀ {l : List (DataW H)} {d : DataW H}, d ∈ l → ∀ n ∈ d.weights P e, n ∈ DataW.weightsAll P e l
  | x :: r, d, h, n, hn => by
    simp only [DataW.weightsAll, List.mem_append]
    rcases List.mem_cons.1 h with rfl | h
    · exact Or.inl hn
    · exact Or.inr (weights_all h n hn)
  | [], _, h, _, _ => by cases h

set_option maxRecDepth 100000 in
theorem attr_at {H : Type} {enc : TypeId × Value → H} {W : World} {n : Nat} {b off : Nat} {cs : List Value} {y : DataW H × List MemPlace}
    (h1 : W.cells? 0 ⟨b, off, none⟩ 2 = some cs) (h2 : DataW.trod enc Tryz.prog W 0 (fun _ => true) true n 111 cs = some y) :
    ∃ (t : Int) (s : ByteArray), W.cell? ⟨b, off, none⟩ = some (.int .i64 t) ∧ W.cell? ⟨b, off + 1, none⟩ = some (.string s) ∧ s.size ∈ y.1.weights Tryz.prog 111 := by
  obtain ⟨_, hlen, hc⟩ := World.cells?_some h1
  match cs, hlen with
  | [v0, v1], _ =>
    have c0 := hc 0 (by omega)
    have c1 := hc 1 (by omega)
    rw [n_add_none] at c0 c1
    simp at c0 c1
    obtain ⟨y0, y1, n', rfl, _, e0, e1⟩ := trod_struct2 Tryz.underlying111 h2
    simp [Tryz.cellsI12, Tryz.cellsS12] at e0 e1
    obtain ⟨t, hv0, _, _⟩ := DataW.trod_int Tryz.underlying3 e0
    simp only [List.cons.injEq, and_true] at hv0
    subst hv0
    obtain ⟨s, hs, hy, _⟩ := DataW.trod_string Tryz.underlying9 e1
    simp only [List.cons.injEq, and_true] at hs
    subst hs
    refine ⟨t, s, c0, c1, ?_⟩
    show s.size ∈ DataW.weights Tryz.prog 111 (.agg [y0.1, y1.1])
    rw [DataW.weights, Tryz.underlying111]
    refine DataW.weights_mem_each (j := 1) (t := 9) (d := y1.1) rfl rfl _ ?_
    rw [hy]
    simp only [DataW.weights, List.mem_singleton]
    exact (size_len s).symm

set_option maxRecDepth 100000 in
/-- An argument of type Name, as the row reads it. -/
theorem open_attrs {H : Type} {enc : TypeId × Value → H} {W : World} {a0 : Option Addr} {len cap : Nat} {d : DataW H} {p : List MemPlace}
    (h : DataW.Trod enc Tryz.prog W 0 (fun _ => true) true 61 (.slice a0 len cap) d p) (hw : ∀ n ∈ d.weights Tryz.prog 61, n ≤ reachBytes) : ∃ xs, Ats W a0 len cap xs := by
  obtain ⟨fuel, hf⟩ := h
  rcases open_slice Tryz.underlying61 hf with ⟨hcs, hx⟩ | ⟨a, l, c, m, n, D, Pl, hcs, _, hl, hm, hmm, hx, hcell⟩
  · simp [Value.cells] at hcs
    obtain ⟨rfl, rfl, rfl⟩ := hcs
    exact ⟨[], ⟨rfl, Nat.le_refl _, by decide, by simp, fun h => absurd h (by omega)⟩⟩
  · simp [Value.cells] at hcs
    obtain ⟨rfl, rfl, rfl⟩ := hcs
    have hmc : m = cap := by simpa using hmm
    subst hmc
    rw [Tryz.cellsA12] at hcell
    have hd : d = _ := congrArg Prod.fst hx
    by_cases h0 : 0 < len
    · obtain ⟨b, off, spot⟩ := a
      have hspot : spot = none := by
        obtain ⟨cs', h1, _⟩ := hcell 0 (by omega)
        obtain ⟨_, hlen, hc⟩ := World.cells?_some h1
        have := hc 0 (by omega)
        match cs', hlen with
        | [v0, v1], _ =>
          simp at this
          simpa [Addr.add] using World.cell?_spot this
      subst hspot
      have key : ∀ i, ∃ e : Int × ByteArray, i < len → W.cell? ⟨b, off + i * 2, none⟩ = some (.int .i64 e.1) ∧ W.cell? ⟨b, off + i * 2 + 1, none⟩ = some (.string e.2) ∧ e.2.size ≤ reachBytes := by
        intro i
        by_cases hi : i < len
        · obtain ⟨cs', h1, h2⟩ := hcell i (by omega)
          rw [n_add_none] at h1
          obtain ⟨t, s, k1, k2, k3⟩ := attr_at h1 h2
          refine ⟨(t, s), fun _ => ⟨k1, k2, hw _ ?_⟩⟩
          rw [hd, DataW.weights, Tryz.underlying61]
          refine List.mem_cons_of_mem _ (List.mem_append_left _ (weights_all (List.mem_map.2 ⟨i, List.mem_range.2 hi, rfl⟩) _ k3))
        · exact ⟨(0, ByteArray.empty), fun h => absurd h hi⟩
      obtain ⟨L, hL⟩ := Classical.axiomOfChoice key
      have e : ∀ i, i < len → ((List.range len).map L).getD i (0, ByteArray.empty) = L i := fun i hi => by simp [List.getD, hi]
      refine ⟨(List.range len).map L, ⟨by simp, hl, hm, ?_, fun _ => ⟨b, off, rfl, fun i hi => ?_⟩⟩⟩
      · intro x hx
        obtain ⟨i, hi, rfl⟩ := List.mem_map.1 hx
        have h3 := (hL i (List.mem_range.1 hi)).2.2
        unfold reachBytes at h3
        omega
      · rw [e i hi]
        exact ⟨(hL i hi).1, (hL i hi).2.1⟩
    · exact ⟨[], ⟨by simp; omega, hl, hm, by simp, fun h => absurd h h0⟩⟩

end Go.Proofs.YtklchpdpooikdaaGreatDoor

namespace Go.Proofs.YtklchpdpooikdaaGreatDoor
open Go.ChangeShapes Go.WideShapes Go.ChangeAt Go.RowKit Go.Deep

theorem nbulk_pos {H : Type} (d : DataW H) : 1 ≤ Rows.uptoBulk d := by
  cases d with
  | lit l => cases l <;> simp [Rows.uptoBulk]
  | nil | ptr _ | slice _ _ | agg _ | iface _ _ | map _ | held _ => simp [Rows.uptoBulk]
theorem nbulk_len {H : Type} : ∀ l : List (DataW H), l.length ≤ Rows.uptoBulkAll l
  | [] => by simp [Rows.uptoBulkAll]
  | d :: r => by have h1 := nbulk_pos d; have h2 := nbulk_len r; simp only [Rows.uptoBulkAll, List.length_cons]; omega
theorem nbulk_mem {H : Type} : ∀ {l : List (DataW H)} {d : DataW H}, d ∈ l → Rows.uptoBulk d ≤ Rows.uptoBulkAll l
  | x :: r, d, h => by
    simp only [Rows.uptoBulkAll]
    rcases List.mem_cons.1 h with rfl | h
    · omega
    · have := nbulk_mem h; omega

set_option maxRecDepth 100000 in
theorem attr_bulk {H : Type} {enc : TypeId × Value → H} {W : World} {n : Nat} {b off : Nat} {cs : List Value} {y : DataW H × List MemPlace}
    (h1 : W.cells? 0 ⟨b, off, none⟩ 2 = some cs) (h2 : DataW.trod enc Tryz.prog W 0 (fun _ => true) true n 111 cs = some y) :
    ∃ (t : Int) (s : ByteArray), W.cell? ⟨b, off, none⟩ = some (.int .i64 t) ∧ W.cell? ⟨b, off + 1, none⟩ = some (.string s) ∧ s.size ≤ Rows.uptoBulk y.1 := by
  obtain ⟨_, hlen, hc⟩ := World.cells?_some h1
  match cs, hlen with
  | [v0, v1], _ =>
    have c0 := hc 0 (by omega)
    have c1 := hc 1 (by omega)
    rw [n_add_none] at c0 c1
    simp at c0 c1
    obtain ⟨y0, y1, n', rfl, _, e0, e1⟩ := trod_struct2 Tryz.underlying111 h2
    simp [Tryz.cellsI12, Tryz.cellsS12] at e0 e1
    obtain ⟨t, hv0, _, _⟩ := DataW.trod_int Tryz.underlying3 e0
    simp only [List.cons.injEq, and_true] at hv0
    subst hv0
    obtain ⟨s, hs, hy, _⟩ := DataW.trod_string Tryz.underlying9 e1
    simp only [List.cons.injEq, and_true] at hs
    subst hs
    refine ⟨t, s, c0, c1, ?_⟩
    have hz := size_len s
    show s.size ≤ Rows.uptoBulk (.agg [y0.1, y1.1])
    rw [hy]
    simp only [Rows.uptoBulk, Rows.uptoBulkAll]
    omega

set_option maxRecDepth 100000 in
/-- An argument of type Name, as the row reads it, with its bulk. -/
theorem open_attrsB {H : Type} {enc : TypeId × Value → H} {W : World} {a0 : Option Addr} {len cap : Nat} {d : DataW H} {p : List MemPlace}
    (h : DataW.Trod enc Tryz.prog W 0 (fun _ => true) true 61 (.slice a0 len cap) d p) (hb : Rows.uptoBulk d ≤ 1048576) :
    ∃ xs, Ats W a0 len cap xs ∧ (a0 = none → len = 0 ∧ cap = 0) ∧ len ≤ 1048576 ∧ ∀ x ∈ xs, x.2.size ≤ 1048576 := by
  obtain ⟨fuel, hf⟩ := h
  rcases open_slice Tryz.underlying61 hf with ⟨hcs, hx⟩ | ⟨a, l, c, m, n, D, Pl, hcs, _, hl, hm, hmm, hx, hcell⟩
  · simp [Value.cells] at hcs
    obtain ⟨rfl, rfl, rfl⟩ := hcs
    exact ⟨[], ⟨rfl, Nat.le_refl _, by decide, by simp, fun h => absurd h (by omega)⟩, fun _ => ⟨rfl, rfl⟩, Nat.zero_le _, by simp⟩
  · simp [Value.cells] at hcs
    obtain ⟨rfl, rfl, rfl⟩ := hcs
    have hmc : m = cap := by simpa using hmm
    subst hmc
    rw [Tryz.cellsA12] at hcell
    have hd : d = _ := congrArg Prod.fst hx
    have hall : ∀ i, i < len → Rows.uptoBulk (D i) ≤ 1048576 := fun i hi => by
      rw [hd] at hb
      have h1 := nbulk_mem (l := (List.range len).map D) (List.mem_map.2 ⟨i, List.mem_range.2 hi, rfl⟩)
      simp only [Rows.uptoBulk] at hb
      omega
    have hln : len ≤ 1048576 := by
      rw [hd] at hb
      have h1 := nbulk_len ((List.range len).map D)
      simp only [List.length_map, List.length_range] at h1
      simp only [Rows.uptoBulk] at hb
      omega
    by_cases h0 : 0 < len
    · obtain ⟨b, off, spot⟩ := a
      have hspot : spot = none := by
        obtain ⟨cs', h1, _⟩ := hcell 0 (by omega)
        obtain ⟨_, hlen, hc⟩ := World.cells?_some h1
        have := hc 0 (by omega)
        match cs', hlen with
        | [v0, v1], _ =>
          simp at this
          simpa [Addr.add] using World.cell?_spot this
      subst hspot
      have key : ∀ i, ∃ e : Int × ByteArray, i < len → W.cell? ⟨b, off + i * 2, none⟩ = some (.int .i64 e.1) ∧ W.cell? ⟨b, off + i * 2 + 1, none⟩ = some (.string e.2) ∧ e.2.size ≤ 1048576 := by
        intro i
        by_cases hi : i < len
        · obtain ⟨cs', h1, h2⟩ := hcell i (by omega)
          rw [n_add_none] at h1
          obtain ⟨t, s, k1, k2, k3⟩ := attr_bulk h1 h2
          exact ⟨(t, s), fun _ => ⟨k1, k2, Nat.le_trans k3 (hall i hi)⟩⟩
        · exact ⟨(0, ByteArray.empty), fun h => absurd h hi⟩
      obtain ⟨L, hL⟩ := Classical.axiomOfChoice key
      have e : ∀ i, i < len → ((List.range len).map L).getD i (0, ByteArray.empty) = L i := fun i hi => by simp [List.getD, hi]
      have hsz : ∀ x ∈ (List.range len).map L, x.2.size ≤ 1048576 := by
        intro x hx
        obtain ⟨i, hi, rfl⟩ := List.mem_map.1 hx
        exact (hL i (List.mem_range.1 hi)).2.2
      refine ⟨(List.range len).map L, ⟨by simp, hl, hm, ?_, fun _ => ⟨b, off, rfl, fun i hi => ?_⟩⟩, ?_, hln, hsz⟩
      · intro x hx
        have h3 := hsz x hx
        omega
      · rw [e i hi]
        exact ⟨(hL i hi).1, (hL i hi).2.1⟩
      · intro h; cases h
    · exact ⟨[], ⟨by simp; omega, hl, hm, by simp, fun h => absurd h h0⟩, (by intro h; cases h), hln, by simp⟩

end Go.Proofs.YtklchpdpooikdaaGreatDoor

namespace Go.Proofs.YtklchpdpooikdaaGreatDoor
open Go.ChangeShapes Go.WideShapes Go.ChangeAt Go.RowKit Go.Deep

theorem Tryz.cellsrowT : Tryz.prog.cellsOf 36 = 2 := by kernel_rfl
set_option maxRecDepth 100000 in
theorem bulk_rowT {H : Type} {enc : TypeId × Value → H} {W : World} {n : Nat} {b off : Nat} {cs : List Value} {y : DataW H × List MemPlace}
    (h1 : W.cells? 0 ⟨b, off, none⟩ 2 = some cs) (h2 : DataW.trod enc Tryz.prog W 0 (fun _ => true) true n 36 cs = some y) :
    ∃ (t : Int) (s : ByteArray), W.cell? ⟨b, off, none⟩ = some (.int .i64 t) ∧ W.cell? ⟨b, off + 1, none⟩ = some (.string s) ∧ s.size ≤ Rows.uptoBulk y.1 ∧ (Lit.int .i64 t).wf = true := by
  obtain ⟨_, hlen, hc⟩ := World.cells?_some h1
  match cs, hlen with
  | [v0, v1], _ =>
    have c0 := hc 0 (by omega)
    have c1 := hc 1 (by omega)
    rw [n_add_none] at c0 c1
    simp at c0 c1
    obtain ⟨y0, y1, n', rfl, _, e0, e1⟩ := trod_struct2 Tryz.underlying36 h2
    simp [Tryz.cellsI12, Tryz.cellsS12] at e0 e1
    obtain ⟨t, hv0, _, hwf⟩ := DataW.trod_int Tryz.underlying3 e0
    simp only [List.cons.injEq, and_true] at hv0
    subst hv0
    obtain ⟨s, hs, hy, _⟩ := DataW.trod_string Tryz.underlying9 e1
    simp only [List.cons.injEq, and_true] at hs
    subst hs
    refine ⟨t, s, c0, c1, ?_, hwf⟩
    have hz := sizeH_len s
    show s.size ≤ Rows.uptoBulk (.agg [y0.1, y1.1])
    rw [hy]
    simp only [Rows.uptoBulk, Rows.uptoBulkAll]
    omega
set_option maxRecDepth 100000 in
theorem open_rowT {H : Type} {enc : TypeId × Value → H} {W : World} {a0 : Option Addr} {len cap : Nat} {d : DataW H} {p : List MemPlace}
    (h : DataW.Trod enc Tryz.prog W 0 (fun _ => true) true 22 (.slice a0 len cap) d p) (hb : Rows.uptoBulk d ≤ 1048576) :
    ∃ xs, RowIn W a0 len cap xs ∧ ∀ x ∈ xs, (Lit.int .i64 x.1).wf = true := by
  obtain ⟨fuel, hf⟩ := h
  rcases open_slice Tryz.underlying22 hf with ⟨hcs, hx⟩ | ⟨a, l, c, m, n, D, Pl, hcs, _, hl, hm, hmm, hx, hcell⟩
  · simp [Value.cells] at hcs
    obtain ⟨rfl, rfl, rfl⟩ := hcs
    exact ⟨[], ⟨⟨rfl, Nat.le_refl _, by decide, by simp, fun h => absurd h (by omega)⟩, fun _ => ⟨rfl, rfl⟩, Nat.zero_le _, by simp⟩, by simp⟩
  · simp [Value.cells] at hcs
    obtain ⟨rfl, rfl, rfl⟩ := hcs
    have hmc : m = cap := by simpa using hmm
    subst hmc
    rw [Tryz.cellsrowT] at hcell
    have hd : d = _ := congrArg Prod.fst hx
    have hall : ∀ i, i < len → Rows.uptoBulk (D i) ≤ 1048576 := fun i hi => by
      rw [hd] at hb
      have h1 := nbulk_mem (l := (List.range len).map D) (List.mem_map.2 ⟨i, List.mem_range.2 hi, rfl⟩)
      simp only [Rows.uptoBulk] at hb
      omega
    have hln : len ≤ 1048576 := by
      rw [hd] at hb
      have h1 := nbulk_len ((List.range len).map D)
      simp only [List.length_map, List.length_range] at h1
      simp only [Rows.uptoBulk] at hb
      omega
    by_cases h0 : 0 < len
    · obtain ⟨b, off, spot⟩ := a
      have hspot : spot = none := by
        obtain ⟨cs', h1, _⟩ := hcell 0 (by omega)
        obtain ⟨_, hlen, hc⟩ := World.cells?_some h1
        have := hc 0 (by omega)
        match cs', hlen with
        | [v0, v1], _ =>
          simp at this
          simpa [Addr.add] using World.cell?_spot this
      subst hspot
      have key : ∀ i, ∃ e : Int × ByteArray, i < len → W.cell? ⟨b, off + i * 2, none⟩ = some (.int .i64 e.1) ∧ W.cell? ⟨b, off + i * 2 + 1, none⟩ = some (.string e.2) ∧ e.2.size ≤ 1048576 ∧ (Lit.int .i64 e.1).wf = true := by
        intro i
        by_cases hi : i < len
        · obtain ⟨cs', h1, h2⟩ := hcell i (by omega)
          rw [n_add_none] at h1
          obtain ⟨t, s, k1, k2, k3, k4⟩ := bulk_rowT h1 h2
          exact ⟨(t, s), fun _ => ⟨k1, k2, Nat.le_trans k3 (hall i hi), k4⟩⟩
        · exact ⟨(0, ByteArray.empty), fun h => absurd h hi⟩
      obtain ⟨L, hL⟩ := Classical.axiomOfChoice key
      have e : ∀ i, i < len → ((List.range len).map L).getD i (0, ByteArray.empty) = L i := fun i hi => by simp [List.getD, hi]
      have hsz : ∀ x ∈ (List.range len).map L, x.2.size ≤ 1048576 ∧ (Lit.int .i64 x.1).wf = true := by
        intro x hx
        obtain ⟨i, hi, rfl⟩ := List.mem_map.1 hx
        exact (hL i (List.mem_range.1 hi)).2.2
      refine ⟨(List.range len).map L, ⟨⟨by simp, hl, hm, ?_, fun _ => ⟨b, off, rfl, fun i hi => ?_⟩⟩, (by intro h; cases h), by omega, fun x hx => (hsz x hx).1⟩, fun x hx => (hsz x hx).2⟩
      · intro x hx
        have h3 := (hsz x hx).1
        omega
      · rw [e i hi]
        exact ⟨(hL i hi).1, (hL i hi).2.1⟩
    · exact ⟨[], ⟨⟨by simp; omega, hl, hm, by simp, fun h => absurd h h0⟩, (by intro h; cases h), by omega, by simp⟩, by simp⟩

theorem Tryz.cellsrowL : Tryz.prog.cellsOf 32 = 2 := by kernel_rfl
set_option maxRecDepth 100000 in
theorem bulk_rowL {H : Type} {enc : TypeId × Value → H} {W : World} {n : Nat} {b off : Nat} {cs : List Value} {y : DataW H × List MemPlace}
    (h1 : W.cells? 0 ⟨b, off, none⟩ 2 = some cs) (h2 : DataW.trod enc Tryz.prog W 0 (fun _ => true) true n 32 cs = some y) :
    ∃ (t : Int) (s : ByteArray), W.cell? ⟨b, off, none⟩ = some (.int .i64 t) ∧ W.cell? ⟨b, off + 1, none⟩ = some (.string s) ∧ s.size ≤ Rows.uptoBulk y.1 ∧ (Lit.int .i64 t).wf = true := by
  obtain ⟨_, hlen, hc⟩ := World.cells?_some h1
  match cs, hlen with
  | [v0, v1], _ =>
    have c0 := hc 0 (by omega)
    have c1 := hc 1 (by omega)
    rw [n_add_none] at c0 c1
    simp at c0 c1
    obtain ⟨y0, y1, n', rfl, _, e0, e1⟩ := trod_struct2 Tryz.underlying32 h2
    simp [Tryz.cellsI12, Tryz.cellsS12] at e0 e1
    obtain ⟨t, hv0, _, hwf⟩ := DataW.trod_int Tryz.underlying3 e0
    simp only [List.cons.injEq, and_true] at hv0
    subst hv0
    obtain ⟨s, hs, hy, _⟩ := DataW.trod_string Tryz.underlying9 e1
    simp only [List.cons.injEq, and_true] at hs
    subst hs
    refine ⟨t, s, c0, c1, ?_, hwf⟩
    have hz := sizeH_len s
    show s.size ≤ Rows.uptoBulk (.agg [y0.1, y1.1])
    rw [hy]
    simp only [Rows.uptoBulk, Rows.uptoBulkAll]
    omega
set_option maxRecDepth 100000 in
theorem open_rowL {H : Type} {enc : TypeId × Value → H} {W : World} {a0 : Option Addr} {len cap : Nat} {d : DataW H} {p : List MemPlace}
    (h : DataW.Trod enc Tryz.prog W 0 (fun _ => true) true 23 (.slice a0 len cap) d p) (hb : Rows.uptoBulk d ≤ 1048576) :
    ∃ xs, RowIn W a0 len cap xs ∧ ∀ x ∈ xs, (Lit.int .i64 x.1).wf = true := by
  obtain ⟨fuel, hf⟩ := h
  rcases open_slice Tryz.underlying23 hf with ⟨hcs, hx⟩ | ⟨a, l, c, m, n, D, Pl, hcs, _, hl, hm, hmm, hx, hcell⟩
  · simp [Value.cells] at hcs
    obtain ⟨rfl, rfl, rfl⟩ := hcs
    exact ⟨[], ⟨⟨rfl, Nat.le_refl _, by decide, by simp, fun h => absurd h (by omega)⟩, fun _ => ⟨rfl, rfl⟩, Nat.zero_le _, by simp⟩, by simp⟩
  · simp [Value.cells] at hcs
    obtain ⟨rfl, rfl, rfl⟩ := hcs
    have hmc : m = cap := by simpa using hmm
    subst hmc
    rw [Tryz.cellsrowL] at hcell
    have hd : d = _ := congrArg Prod.fst hx
    have hall : ∀ i, i < len → Rows.uptoBulk (D i) ≤ 1048576 := fun i hi => by
      rw [hd] at hb
      have h1 := nbulk_mem (l := (List.range len).map D) (List.mem_map.2 ⟨i, List.mem_range.2 hi, rfl⟩)
      simp only [Rows.uptoBulk] at hb
      omega
    have hln : len ≤ 1048576 := by
      rw [hd] at hb
      have h1 := nbulk_len ((List.range len).map D)
      simp only [List.length_map, List.length_range] at h1
      simp only [Rows.uptoBulk] at hb
      omega
    by_cases h0 : 0 < len
    · obtain ⟨b, off, spot⟩ := a
      have hspot : spot = none := by
        obtain ⟨cs', h1, _⟩ := hcell 0 (by omega)
        obtain ⟨_, hlen, hc⟩ := World.cells?_some h1
        have := hc 0 (by omega)
        match cs', hlen with
        | [v0, v1], _ =>
          simp at this
          simpa [Addr.add] using World.cell?_spot this
      subst hspot
      have key : ∀ i, ∃ e : Int × ByteArray, i < len → W.cell? ⟨b, off + i * 2, none⟩ = some (.int .i64 e.1) ∧ W.cell? ⟨b, off + i * 2 + 1, none⟩ = some (.string e.2) ∧ e.2.size ≤ 1048576 ∧ (Lit.int .i64 e.1).wf = true := by
        intro i
        by_cases hi : i < len
        · obtain ⟨cs', h1, h2⟩ := hcell i (by omega)
          rw [n_add_none] at h1
          obtain ⟨t, s, k1, k2, k3, k4⟩ := bulk_rowL h1 h2
          exact ⟨(t, s), fun _ => ⟨k1, k2, Nat.le_trans k3 (hall i hi), k4⟩⟩
        · exact ⟨(0, ByteArray.empty), fun h => absurd h hi⟩
      obtain ⟨L, hL⟩ := Classical.axiomOfChoice key
      have e : ∀ i, i < len → ((List.range len).map L).getD i (0, ByteArray.empty) = L i := fun i hi => by simp [List.getD, hi]
      have hsz : ∀ x ∈ (List.range len).map L, x.2.size ≤ 1048576 ∧ (Lit.int .i64 x.1).wf = true := by
        intro x hx
        obtain ⟨i, hi, rfl⟩ := List.mem_map.1 hx
        exact (hL i (List.mem_range.1 hi)).2.2
      refine ⟨(List.range len).map L, ⟨⟨by simp, hl, hm, ?_, fun _ => ⟨b, off, rfl, fun i hi => ?_⟩⟩, (by intro h; cases h), by omega, fun x hx => (hsz x hx).1⟩, fun x hx => (hsz x hx).2⟩
      · intro x hx
        have h3 := (hsz x hx).1
        omega
      · rw [e i hi]
        exact ⟨(hL i hi).1, (hL i hi).2.1⟩
    · exact ⟨[], ⟨⟨by simp; omega, hl, hm, by simp, fun h => absurd h h0⟩, (by intro h; cases h), by omega, by simp⟩, by simp⟩

end Go.Proofs.YtklchpdpooikdaaGreatDoor

namespace Go.Proofs.YtklchpdpooikdaaGreatDoor
open Go.ChangeShapes Go.WideShapes Go.ChangeAt Go.RowKit Go.Deep

theorem len_rowT {H : Type} {enc : TypeId × Value → H} {W : World} {a0 : Option Addr} {len cap : Nat} {d : DataW H} {p : List MemPlace}
    (h : DataW.Trod enc Tryz.prog W 0 (fun _ => true) true 22 (.slice a0 len cap) d p) (hb : Rows.uptoBulk d ≤ 1048576) : len ≤ 1048576 := by
  obtain ⟨fuel, hf⟩ := h
  rcases open_slice Tryz.underlying22 hf with ⟨hcs, hx⟩ | ⟨a, l, c, m, n, D, Pl, hcs, _, hl, hm, hmm, hx, hcell⟩
  · simp [Value.cells] at hcs
    obtain ⟨rfl, rfl, rfl⟩ := hcs
    exact Nat.zero_le _
  · simp [Value.cells] at hcs
    obtain ⟨rfl, rfl, rfl⟩ := hcs
    have hd : d = _ := congrArg Prod.fst hx
    rw [hd] at hb
    have h1 := nbulk_len ((List.range len).map D)
    simp only [List.length_map, List.length_range] at h1
    simp only [Rows.uptoBulk] at hb
    omega

end Go.Proofs.YtklchpdpooikdaaGreatDoor
