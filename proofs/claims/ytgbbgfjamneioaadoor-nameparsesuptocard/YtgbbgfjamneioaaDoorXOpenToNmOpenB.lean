/-
  How a row's []byte argument is opened into what the walks are told of it.
  The table of labels of package name, out of a row's list.
  How much a row's reading holds, against its length.
  How a row's argument of type Name is opened into what the walks are told of it.
  An argument of type Name, and what its bulk says of the lengths.
-/
import Derived.Test.YtgbbgfjamneioaaDoorRows
import Derived.Test.YtgbbgfjamneioaaDoorXBaseToBts
import Derived.ProofKit
import Derived.OpenShut
import Derived.ShutString
import Derived.ChangeOld
import Derived.Below
import Derived.SizedLaws
import Derived.Test.YtgbbgfjamneioaaDoorXNmTx2
import Derived.LaidMore
import Derived.LaidHandle
import Derived.Lib.LaidTab
import Derived.JoinedCond
import Derived.Test.YtgbbgfjamneioaaDoorXTxTToNmRow
import Derived.Deep.Slices
import Derived.ChangeSame
import Derived.JoinedOf
namespace Go.Proofs.YtgbbgfjamneioaaDoor
open Go.ChangeShapes Go.WideShapes Go.ChangeAt Go.RowKit

theorem Tryd.own : ownKnob Tryd.prog.godebug = none := by kernel_rfl
theorem Tryd.laidOut : laidOutB Tryd.prog = true := by kernel_rfl
theorem Tryd.cellsB : Tryd.prog.cellsOf 5 = 1 := by kernel_rfl
theorem Tryd.bytesB : Tryd.prog.bytesOf 5 = 1 := by kernel_rfl

theorem src_of_cells {W : World} {a : Addr} {len cap : Nat} {zs : List Int} (hl : len ≤ cap) (hm : cap ≤ maxLen) (hz : zs.length = cap) (hcell : ∀ i, i < zs.length → W.cell? (a.add i) = some (.int .u8 (zs.getD i 0)))
    (hwz : ∀ n ∈ zs, (Lit.int .u8 n).wf = true) : Src W (some a) len cap (zs.take len) := by
  refine ⟨by simp; omega, hl, hm, by simp, ?_, ?_⟩
  · intro hx
    have h0 : 0 < len ∧ 0 < zs.length := by
      rcases Nat.eq_zero_or_pos len with h | h
      · subst h; simp at hx
      · omega
    obtain ⟨b, off, spot⟩ := a
    have hc := hcell 0 h0.2
    have hspot : spot = none := by simpa [Addr.add] using World.cell?_spot hc
    subst hspot
    refine ⟨b, off, rfl, fun i hi => ?_⟩
    have hi' : i < len ∧ i < zs.length := by simp at hi; omega
    have := hcell i hi'.2
    rw [add_none] at this
    rw [this]
    simp [List.getD, hi'.1]
  · intro x hx
    have := hwz x (List.mem_of_mem_take hx)
    have := bounds_u8 this
    omega

/-- An argument of type []byte, as the row reads it. -/
theorem open_bytes {H : Type} {enc : TypeId × Value → H} {W : World} {a0 : Option Addr} {len cap : Nat} {d : DataW H} {p : List MemPlace}
    (h : DataW.Trod enc Tryd.prog W 0 (fun _ => true) true 25 (.slice a0 len cap) d p) :
    ∃ xs, Src W a0 len cap xs ∧ ((d = .nil ∧ len = 0 ∧ cap = 0) ∨ ∃ el sp, d = .slice el sp ∧ el.length + sp.length = cap) := by
  obtain ⟨fuel, hf⟩ := h
  rcases open_ints Tryd.underlying25 Tryd.underlying5 Tryd.cellsB hf with ⟨hcs, hx⟩ | ⟨x, l, c, zs, hcs, _, hl, hm, hz, hx, hcell, hwz⟩
  · simp [Value.cells] at hcs
    obtain ⟨rfl, rfl, rfl⟩ := hcs
    simp only [Prod.mk.injEq] at hx
    exact ⟨[], ⟨rfl, Nat.le_refl _, by decide, fun _ => ⟨rfl, rfl⟩, fun h => absurd rfl h, by simp⟩, .inl ⟨hx.1, rfl, rfl⟩⟩
  · simp [Value.cells] at hcs
    obtain ⟨rfl, rfl, rfl⟩ := hcs
    simp only [Prod.mk.injEq] at hx
    have hz' : zs.length = cap := by simpa using hz
    exact ⟨zs.take len, src_of_cells hl hm hz' hcell hwz, .inr ⟨_, _, hx.1, by simp [lits]; omega⟩⟩

end Go.Proofs.YtgbbgfjamneioaaDoor

namespace Go.Proofs.YtgbbgfjamneioaaDoor
open Go.ChangeShapes Go.WideShapes Go.ChangeAt Go.RowKit

theorem gLabels : Tryd.prog.globalNamed "chancery/name.labels" = some 0 := by kernel_rfl
theorem tLabels : (Tryd.prog.globals[0]?).map (·.type) = some 86 := by kernel_rfl
def labsL : List ByteArray := (List.range 12).map (fun k : Nat => labS (k : Int))
def tabS {H : Type} (ss : List ByteArray) : DataW H := .agg (ss.map fun s => .lit (.string s.data.toList))
theorem dLabels : (Rows.laid_chancery_name_labels : DataW Unit) = tabS labsL := by kernel_rfl

theorem cells_of_tabS {H : Type} {enc : TypeId × Value → H} {P : Program} {w : World} {base : Nat} {sp : Nat → Bool} {held : Bool} {fuel : Nat} {t e : TypeId} {n : Nat} {cs : List Value} {ss : List ByteArray} {p : List MemPlace}
    (ht : P.underlying t = some (.array n e)) (he : P.underlying e = some .string) (hce : P.cellsOf e = 1) (hct : P.cellsOf t = n)
    (h : DataW.trod enc P w base sp held fuel t cs = some (tabS ss, p)) : cs = ss.map Value.string := by
  cases fuel with
  | zero => simp [DataW.trod] at h
  | succ fuel =>
    simp only [DataW.trod, ht, hce, hct, Nat.mul_one] at h
    split at h
    · rename_i hl
      obtain ⟨xs, hm, hx⟩ := Option.map_eq_some_iff.1 h
      have hxs : xs.map (·.1) = ss.map fun s => (DataW.lit (.string s.data.toList) : DataW H) := by
        have := congrArg Prod.fst hx
        simpa [tabS] using this
      have hxl : xs.length = n := by simpa using Lib.mapM_length hm
      have hzl : ss.length = n := by
        have := congrArg List.length hxs
        simp at this
        omega
      apply List.ext_getElem?
      intro i
      by_cases hi : i < n
      · obtain ⟨b, hb, hf⟩ := Lib.mapM_at hm i i (by simp [hi])
        obtain ⟨s, hc, hy, _⟩ := DataW.trod_string he hf
        have h1 : cs[i]? = some (.string s) := by
          have := congrArg (·[0]?) hc
          simpa [List.getElem?_take, List.getElem?_drop] using this
        have h2 : (xs.map (·.1))[i]? = some b.1 := by simp [hb]
        rw [hxs, hy] at h2
        simp only [List.getElem?_map, Option.map_eq_some_iff, DataW.lit.injEq, Lit.string.injEq] at h2
        obtain ⟨s', hs', he'⟩ := h2
        have e : s = s' := by
          have h9 := he'
          first | exact (ByteArray.ext (Array.ext' h9)).symm | (rw [ByteArray.toList_eq] at h9; exact (ByteArray.ext (Array.ext' h9)).symm)
        rw [h1, List.getElem?_map, hs', e]
        rfl
      · rw [List.getElem?_eq_none (by omega), List.getElem?_eq_none (by simp; omega)]
    · cases h

theorem tabN_of_laid {W : World} (h : laidMetH Tryd.prog [("chancery/name.labels", Rows.laid_chancery_name_labels)] W) : TabN W := by
  have h1 : laidMet Tryd.prog [("chancery/name.labels", Rows.laid_chancery_name_labels)] W := h
  rw [dLabels] at h1
  obtain ⟨ps, ⟨g', t', cs, fuel, p, q, hg', ht', hvar, hd, _, _⟩, _⟩ := h1
  obtain rfl := Option.some.inj (gLabels.symm.trans hg')
  obtain rfl := Option.some.inj (tLabels.symm.trans ht')
  have hcs := cells_of_tabS Tryd.underlying86 Tryd.underlying9 (by kernel_rfl) (by kernel_rfl) hd
  intro k hk
  have h2 := World.var?_cell gLabels hvar k
  rw [h2, ← Array.getElem?_toList, hcs]
  unfold labsL
  rw [List.getElem?_map, List.getElem?_map, List.getElem?_range hk]
  rfl

end Go.Proofs.YtgbbgfjamneioaaDoor

namespace Go.Proofs.YtgbbgfjamneioaaDoor
open Go.ChangeShapes Go.WideShapes Go.ChangeAt Go.RowKit

theorem Tryd.cellsV : Tryd.prog.cellsOf 25 = 1 := by kernel_rfl

theorem bulk_pos {H : Type} (d : DataW H) : 1 ≤ Rows.uptoBulk d := by
  cases d with
  | lit l => cases l <;> simp [Rows.uptoBulk]
  | nil | ptr _ | slice _ _ | agg _ | iface _ _ | map _ | held _ => simp [Rows.uptoBulk]

theorem bulk_len {H : Type} : ∀ l : List (DataW H), l.length ≤ Rows.uptoBulkAll l
  | [] => by simp [Rows.uptoBulkAll]
  | d :: r => by have h1 := bulk_pos d; have h2 := bulk_len r; simp only [Rows.uptoBulkAll, List.length_cons]; omega

theorem bulk_mem {H : Type} : ∀ (l : List (DataW H)) (d : DataW H), d ∈ l → Rows.uptoBulk d ≤ Rows.uptoBulkAll l
  | [], _, h => by cases h
  | x :: r, d, h => by
    simp only [Rows.uptoBulkAll]
    rcases List.mem_cons.1 h with rfl | h
    · omega
    · have := bulk_mem r d h; omega

theorem bulk_slice {H : Type} (el sp : List (DataW H)) : Rows.uptoBulk (.slice el sp) = Rows.uptoBulkAll el + Rows.uptoBulkAll sp + 1 := by simp only [Rows.uptoBulk]

theorem bulk_bytes {H : Type} {d : DataW H} {len cap : Nat} (hc : len ≤ cap) (h : (d = .nil ∧ len = 0 ∧ cap = 0) ∨ ∃ el sp, d = .slice el sp ∧ el.length + sp.length = cap) : len ≤ Rows.uptoBulk d := by
  rcases h with ⟨_, rfl, _⟩ | ⟨el, sp, rfl, h⟩
  · omega
  · have h1 := bulk_len el
    have h2 := bulk_len sp
    rw [bulk_slice]
    omega

end Go.Proofs.YtgbbgfjamneioaaDoor

namespace Go.Proofs.YtgbbgfjamneioaaDoor
open Go.ChangeShapes Go.WideShapes Go.ChangeAt Go.RowKit Go.Deep

theorem Tryd.laidOutN : laidOutB Tryd.prog = true := by kernel_rfl
theorem Tryd.cellsI12 : Tryd.prog.cellsOf 3 = 1 := by kernel_rfl
theorem Tryd.cellsS12 : Tryd.prog.cellsOf 9 = 1 := by kernel_rfl
theorem Tryd.cellsA12 : Tryd.prog.cellsOf 52 = 2 := by kernel_rfl
theorem n_add_none (b off i : Nat) : (⟨b, off, none⟩ : Addr).add i = ⟨b, off + i, none⟩ := add_none _ _ _

theorem weights_all {H : Type} {P : Program} {e : TypeId} : ∀ {l : List (DataW H)} {d : DataW H}, d ∈ l → ∀ n ∈ d.weights P e, n ∈ DataW.weightsAll P e l
  | x :: r, d, h, n, hn => by
    simp only [DataW.weightsAll, List.mem_append]
    rcases List.mem_cons.1 h with rfl | h
    · exact Or.inl hn
    · exact Or.inr (weights_all h n hn)
  | [], _, h, _, _ => by cases h

set_option maxRecDepth 100000 in
theorem attr_at {H : Type} {enc : TypeId × Value → H} {W : World} {n : Nat} {b off : Nat} {cs : List Value} {y : DataW H × List MemPlace}
    (h1 : W.cells? 0 ⟨b, off, none⟩ 2 = some cs) (h2 : DataW.trod enc Tryd.prog W 0 (fun _ => true) true n 52 cs = some y) :
    ∃ (t : Int) (s : ByteArray), W.cell? ⟨b, off, none⟩ = some (.int .i64 t) ∧ W.cell? ⟨b, off + 1, none⟩ = some (.string s) ∧ s.size ∈ y.1.weights Tryd.prog 52 := by
  obtain ⟨_, hlen, hc⟩ := World.cells?_some h1
  match cs, hlen with
  | [v0, v1], _ =>
    have c0 := hc 0 (by omega)
    have c1 := hc 1 (by omega)
    rw [n_add_none] at c0 c1
    simp at c0 c1
    obtain ⟨y0, y1, n', rfl, _, e0, e1⟩ := trod_struct2 Tryd.underlying52 h2
    simp [Tryd.cellsI12, Tryd.cellsS12] at e0 e1
    obtain ⟨t, hv0, _, _⟩ := DataW.trod_int Tryd.underlying3 e0
    simp only [List.cons.injEq, and_true] at hv0
    subst hv0
    obtain ⟨s, hs, hy, _⟩ := DataW.trod_string Tryd.underlying9 e1
    simp only [List.cons.injEq, and_true] at hs
    subst hs
    refine ⟨t, s, c0, c1, ?_⟩
    show s.size ∈ DataW.weights Tryd.prog 52 (.agg [y0.1, y1.1])
    rw [DataW.weights, Tryd.underlying52]
    refine DataW.weights_mem_each (j := 1) (t := 9) (d := y1.1) rfl rfl _ ?_
    rw [hy]
    simp only [DataW.weights, List.mem_singleton]
    exact (size_len s).symm

set_option maxRecDepth 100000 in
/-- An argument of type Name, as the row reads it. -/
theorem open_attrs {H : Type} {enc : TypeId × Value → H} {W : World} {a0 : Option Addr} {len cap : Nat} {d : DataW H} {p : List MemPlace}
    (h : DataW.Trod enc Tryd.prog W 0 (fun _ => true) true 23 (.slice a0 len cap) d p) (hw : ∀ n ∈ d.weights Tryd.prog 23, n ≤ reachBytes) : ∃ xs, Ats W a0 len cap xs := by
  obtain ⟨fuel, hf⟩ := h
  rcases open_slice Tryd.underlying23 hf with ⟨hcs, hx⟩ | ⟨a, l, c, m, n, D, Pl, hcs, _, hl, hm, hmm, hx, hcell⟩
  · simp [Value.cells] at hcs
    obtain ⟨rfl, rfl, rfl⟩ := hcs
    exact ⟨[], ⟨rfl, Nat.le_refl _, by decide, by simp, fun h => absurd h (by omega)⟩⟩
  · simp [Value.cells] at hcs
    obtain ⟨rfl, rfl, rfl⟩ := hcs
    have hmc : m = cap := by simpa using hmm
    subst hmc
    rw [Tryd.cellsA12] at hcell
    have hd : d = _ := congrArg Prod.fst hx
    by_cases h0 : 0 < len
    · obtain ⟨b, off, spot⟩ := a
      have hspot : spot = none := by
        obtain ⟨cs', h1, _⟩ := hcell 0 (by omega)
        obtain ⟨_, hlen, hc⟩ := World.cells?_some h1
        have := hc 0 (by omega)
        match cs', hlen with
        | [v0, v1], _ =>
          simp at this
          simpa [Addr.add] using World.cell?_spot this
      subst hspot
      have key : ∀ i, ∃ e : Int × ByteArray, i < len → W.cell? ⟨b, off + i * 2, none⟩ = some (.int .i64 e.1) ∧ W.cell? ⟨b, off + i * 2 + 1, none⟩ = some (.string e.2) ∧ e.2.size ≤ reachBytes := by
        intro i
        by_cases hi : i < len
        · obtain ⟨cs', h1, h2⟩ := hcell i (by omega)
          rw [n_add_none] at h1
          obtain ⟨t, s, k1, k2, k3⟩ := attr_at h1 h2
          refine ⟨(t, s), fun _ => ⟨k1, k2, hw _ ?_⟩⟩
          rw [hd, DataW.weights, Tryd.underlying23]
          refine List.mem_cons_of_mem _ (List.mem_append_left _ (weights_all (List.mem_map.2 ⟨i, List.mem_range.2 hi, rfl⟩) _ k3))
        · exact ⟨(0, ByteArray.empty), fun h => absurd h hi⟩
      obtain ⟨L, hL⟩ := Classical.axiomOfChoice key
      have e : ∀ i, i < len → ((List.range len).map L).getD i (0, ByteArray.empty) = L i := fun i hi => by simp [List.getD, hi]
      refine ⟨(List.range len).map L, ⟨by simp, hl, hm, ?_, fun _ => ⟨b, off, rfl, fun i hi => ?_⟩⟩⟩
      · intro x hx
        obtain ⟨i, hi, rfl⟩ := List.mem_map.1 hx
        have h3 := (hL i (List.mem_range.1 hi)).2.2
        unfold reachBytes at h3
        omega
      · rw [e i hi]
        exact ⟨(hL i hi).1, (hL i hi).2.1⟩
    · exact ⟨[], ⟨by simp; omega, hl, hm, by simp, fun h => absurd h h0⟩⟩

end Go.Proofs.YtgbbgfjamneioaaDoor

namespace Go.Proofs.YtgbbgfjamneioaaDoor
open Go.ChangeShapes Go.WideShapes Go.ChangeAt Go.RowKit Go.Deep

theorem nbulk_pos {H : Type} (d : DataW H) : 1 ≤ Rows.uptoBulk d := by
  cases d with
  | lit l => cases l <;> simp [Rows.uptoBulk]
  | nil | ptr _ | slice _ _ | agg _ | iface _ _ | map _ | held _ => simp [Rows.uptoBulk]
theorem nbulk_len {H : Type} : ∀ l : List (DataW H), l.length ≤ Rows.uptoBulkAll l
  | [] => by simp [Rows.uptoBulkAll]
  | d :: r => by have h1 := nbulk_pos d; have h2 := nbulk_len r; simp only [Rows.uptoBulkAll, List.length_cons]; omega
theorem nbulk_mem {H : Type} : ∀ {l : List (DataW H)} {d : DataW H}, d ∈ l → Rows.uptoBulk d ≤ Rows.uptoBulkAll l
  | x :: r, d, h => by
    simp only [Rows.uptoBulkAll]
    rcases List.mem_cons.1 h with rfl | h
    · omega
    · have := nbulk_mem h; omega

set_option maxRecDepth 100000 in
theorem attr_bulk {H : Type} {enc : TypeId × Value → H} {W : World} {n : Nat} {b off : Nat} {cs : List Value} {y : DataW H × List MemPlace}
    (h1 : W.cells? 0 ⟨b, off, none⟩ 2 = some cs) (h2 : DataW.trod enc Tryd.prog W 0 (fun _ => true) true n 52 cs = some y) :
    ∃ (t : Int) (s : ByteArray), W.cell? ⟨b, off, none⟩ = some (.int .i64 t) ∧ W.cell? ⟨b, off + 1, none⟩ = some (.string s) ∧ s.size ≤ Rows.uptoBulk y.1 := by
  obtain ⟨_, hlen, hc⟩ := World.cells?_some h1
  match cs, hlen with
  | [v0, v1], _ =>
    have c0 := hc 0 (by omega)
    have c1 := hc 1 (by omega)
    rw [n_add_none] at c0 c1
    simp at c0 c1
    obtain ⟨y0, y1, n', rfl, _, e0, e1⟩ := trod_struct2 Tryd.underlying52 h2
    simp [Tryd.cellsI12, Tryd.cellsS12] at e0 e1
    obtain ⟨t, hv0, _, _⟩ := DataW.trod_int Tryd.underlying3 e0
    simp only [List.cons.injEq, and_true] at hv0
    subst hv0
    obtain ⟨s, hs, hy, _⟩ := DataW.trod_string Tryd.underlying9 e1
    simp only [List.cons.injEq, and_true] at hs
    subst hs
    refine ⟨t, s, c0, c1, ?_⟩
    have hz := size_len s
    show s.size ≤ Rows.uptoBulk (.agg [y0.1, y1.1])
    rw [hy]
    simp only [Rows.uptoBulk, Rows.uptoBulkAll]
    omega

set_option maxRecDepth 100000 in
/-- An argument of type Name, as the row reads it, with its bulk. -/
theorem open_attrsB {H : Type} {enc : TypeId × Value → H} {W : World} {a0 : Option Addr} {len cap : Nat} {d : DataW H} {p : List MemPlace}
    (h : DataW.Trod enc Tryd.prog W 0 (fun _ => true) true 23 (.slice a0 len cap) d p) (hb : Rows.uptoBulk d ≤ 1048576) :
    ∃ xs, Ats W a0 len cap xs ∧ (a0 = none → len = 0 ∧ cap = 0) ∧ len ≤ 1048576 ∧ ∀ x ∈ xs, x.2.size ≤ 1048576 := by
  obtain ⟨fuel, hf⟩ := h
  rcases open_slice Tryd.underlying23 hf with ⟨hcs, hx⟩ | ⟨a, l, c, m, n, D, Pl, hcs, _, hl, hm, hmm, hx, hcell⟩
  · simp [Value.cells] at hcs
    obtain ⟨rfl, rfl, rfl⟩ := hcs
    exact ⟨[], ⟨rfl, Nat.le_refl _, by decide, by simp, fun h => absurd h (by omega)⟩, fun _ => ⟨rfl, rfl⟩, Nat.zero_le _, by simp⟩
  · simp [Value.cells] at hcs
    obtain ⟨rfl, rfl, rfl⟩ := hcs
    have hmc : m = cap := by simpa using hmm
    subst hmc
    rw [Tryd.cellsA12] at hcell
    have hd : d = _ := congrArg Prod.fst hx
    have hall : ∀ i, i < len → Rows.uptoBulk (D i) ≤ 1048576 := fun i hi => by
      rw [hd] at hb
      have h1 := nbulk_mem (l := (List.range len).map D) (List.mem_map.2 ⟨i, List.mem_range.2 hi, rfl⟩)
      simp only [Rows.uptoBulk] at hb
      omega
    have hln : len ≤ 1048576 := by
      rw [hd] at hb
      have h1 := nbulk_len ((List.range len).map D)
      simp only [List.length_map, List.length_range] at h1
      simp only [Rows.uptoBulk] at hb
      omega
    by_cases h0 : 0 < len
    · obtain ⟨b, off, spot⟩ := a
      have hspot : spot = none := by
        obtain ⟨cs', h1, _⟩ := hcell 0 (by omega)
        obtain ⟨_, hlen, hc⟩ := World.cells?_some h1
        have := hc 0 (by omega)
        match cs', hlen with
        | [v0, v1], _ =>
          simp at this
          simpa [Addr.add] using World.cell?_spot this
      subst hspot
      have key : ∀ i, ∃ e : Int × ByteArray, i < len → W.cell? ⟨b, off + i * 2, none⟩ = some (.int .i64 e.1) ∧ W.cell? ⟨b, off + i * 2 + 1, none⟩ = some (.string e.2) ∧ e.2.size ≤ 1048576 := by
        intro i
        by_cases hi : i < len
        · obtain ⟨cs', h1, h2⟩ := hcell i (by omega)
          rw [n_add_none] at h1
          obtain ⟨t, s, k1, k2, k3⟩ := attr_bulk h1 h2
          exact ⟨(t, s), fun _ => ⟨k1, k2, Nat.le_trans k3 (hall i hi)⟩⟩
        · exact ⟨(0, ByteArray.empty), fun h => absurd h hi⟩
      obtain ⟨L, hL⟩ := Classical.axiomOfChoice key
      have e : ∀ i, i < len → ((List.range len).map L).getD i (0, ByteArray.empty) = L i := fun i hi => by simp [List.getD, hi]
      have hsz : ∀ x ∈ (List.range len).map L, x.2.size ≤ 1048576 := by
        intro x hx
        obtain ⟨i, hi, rfl⟩ := List.mem_map.1 hx
        exact (hL i (List.mem_range.1 hi)).2.2
      refine ⟨(List.range len).map L, ⟨by simp, hl, hm, ?_, fun _ => ⟨b, off, rfl, fun i hi => ?_⟩⟩, ?_, hln, hsz⟩
      · intro x hx
        have h3 := hsz x hx
        omega
      · rw [e i hi]
        exact ⟨(hL i hi).1, (hL i hi).2.1⟩
      · intro h; cases h
    · exact ⟨[], ⟨by simp; omega, hl, hm, by simp, fun h => absurd h h0⟩, (by intro h; cases h), hln, by simp⟩

end Go.Proofs.YtgbbgfjamneioaaDoor
