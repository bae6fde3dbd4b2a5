/-
  How a row's []byte argument is opened into what the walks are told of it.
  The table of labels of package name, out of a row's list.
  How much a row's reading holds, against its length.
-/
import Derived.Test.YtgbbgfjamneioaaDoorRows
import Derived.Test.YtgbbgfjamneioaaDoorZBts
import Derived.ProofKit
import Derived.OpenShut
import Derived.ShutString
import Derived.ChangeOld
import Derived.Below
import Derived.SizedLaws
import Derived.Test.YtgbbgfjamneioaaDoorZNmTx2
import Derived.LaidMore
import Derived.LaidHandle
import Derived.Lib.LaidTab
import Derived.JoinedCond
namespace Go.Proofs.YtgbbgfjamneioaaDoor
open Go.ChangeShapes Go.WideShapes Go.ChangeAt Go.RowKit

theorem Tryd.own : ownKnob Tryd.prog.godebug = none := by kernel_rfl
theorem Tryd.laidOut : laidOutB Tryd.prog = true := by kernel_rfl
theorem Tryd.cellsB : Tryd.prog.cellsOf 5 = 1 := by kernel_rfl
theorem Tryd.bytesB : Tryd.prog.bytesOf 5 = 1 := by kernel_rfl

theorem src_of_cells {W : World} {a : Addr} {len cap : Nat} {zs : List Int} (hl : len ≤ cap) (hm : cap ≤ maxLen) (hz : zs.length = cap) (hcell : ∀ i, i < zs.length → W.cell? (a.add i) = some (.int .u8 (zs.getD i 0)))
    (hwz : ∀ n ∈ zs, (Lit.int .u8 n).wf = true) : Src W (some a) len cap (zs.take len) := by
  refine ⟨by simp; omega, hl, hm, by simp, ?_, ?_⟩
  · intro hx
    have h0 : 0 < len ∧ 0 < zs.length := by
      rcases Nat.eq_zero_or_pos len with h | h
      · subst h; simp at hx
      · omega
    obtain ⟨b, off, spot⟩ := a
    have hc := hcell 0 h0.2
    have hspot : spot = none := by simpa [Addr.add] using World.cell?_spot hc
    subst hspot
    refine ⟨b, off, rfl, fun i hi => ?_⟩
    have hi' : i < len ∧ i < zs.length := by simp at hi; omega
    have := hcell i hi'.2
    rw [add_none] at this
    rw [this]
    simp [List.getD, hi'.1]
  · intro x hx
    have := hwz x (List.mem_of_mem_take hx)
    have := bounds_u8 this
    omega

/-- An argument of type []byte, as the row reads it. -/
theorem open_bytes {H : Type} {enc : TypeId × Value → H} {W : World} {a0 : Option Addr} {len cap : Nat} {d : DataW H} {p : List MemPlace}
    (h : DataW.Trod enc Tryd.prog W 0 (fun _ => true) true 25 (.slice a0 len cap) d p) :
    ∃ xs, Src W a0 len cap xs ∧ ((d = .nil ∧ len = 0 ∧ cap = 0) ∨ ∃ el sp, d = .slice el sp ∧ el.length + sp.length = cap) := by
  obtain ⟨fuel, hf⟩ := h
  rcases open_ints Tryd.underlying25 Tryd.underlying5 Tryd.cellsB hf with ⟨hcs, hx⟩ | ⟨x, l, c, zs, hcs, _, hl, hm, hz, hx, hcell, hwz⟩
  · simp [Value.cells] at hcs
    obtain ⟨rfl, rfl, rfl⟩ := hcs
    simp only [Prod.mk.injEq] at hx
    exact ⟨[], ⟨rfl, Nat.le_refl _, by decide, fun _ => ⟨rfl, rfl⟩, fun h => absurd rfl h, by simp⟩, .inl ⟨hx.1, rfl, rfl⟩⟩
  · simp [Value.cells] at hcs
    obtain ⟨rfl, rfl, rfl⟩ := hcs
    simp only [Prod.mk.injEq] at hx
    have hz' : zs.length = cap := by simpa using hz
    exact ⟨zs.take len, src_of_cells hl hm hz' hcell hwz, .inr ⟨_, _, hx.1, by simp [lits]; omega⟩⟩

end Go.Proofs.YtgbbgfjamneioaaDoor

namespace Go.Proofs.YtgbbgfjamneioaaDoor
open Go.ChangeShapes Go.WideShapes Go.ChangeAt Go.RowKit

theorem gLabels : Tryd.prog.globalNamed "chancery/name.labels" = some 0 := by kernel_rfl
theorem tLabels : (Tryd.prog.globals[0]?).map (·.type) = some 86 := by kernel_rfl
def labsL : List ByteArray := (List.range 12).map (fun k : Nat => labS (k : Int))
def tabS {H : Type} (ss : List ByteArray) : DataW H := .agg (ss.map fun s => .lit (.string s.data.toList))
theorem dLabels : (Rows.laid_chancery_name_labels : DataW Unit) = tabS labsL := by kernel_rfl

theorem cells_of_tabS {H : Type} {enc : TypeId × Value → H} {P : Program} {w : World} {base : Nat} {sp : Nat → Bool} {held : Bool} {fuel : Nat} {t e : TypeId} {n : Nat} {cs : List Value} {ss : List ByteArray} {p : List MemPlace}
    (ht : P.underlying t = some (.array n e)) (he : P.underlying e = some .string) (hce : P.cellsOf e = 1) (hct : P.cellsOf t = n)
    (h : DataW.trod enc P w base sp held fuel t cs = some (tabS ss, p)) : cs = ss.map Value.string := by
  cases fuel with
  | zero => simp [DataW.trod] at h
  | succ fuel =>
    simp only [DataW.trod, ht, hce, hct, Nat.mul_one] at h
    split at h
    · rename_i hl
      obtain ⟨xs, hm, hx⟩ := Option.map_eq_some_iff.1 h
      have hxs : xs.map (·.1) = ss.map fun s => (DataW.lit (.string s.data.toList) : DataW H) := by
        have := congrArg Prod.fst hx
        simpa [tabS] using this
      have hxl : xs.length = n := by simpa using Lib.mapM_length hm
      have hzl : ss.length = n := by
        have := congrArg List.length hxs
        simp at this
        omega
      apply List.ext_getElem?
      intro i
      by_cases hi : i < n
      · obtain ⟨b, hb, hf⟩ := Lib.mapM_at hm i i (by simp [hi])
        obtain ⟨s, hc, hy, _⟩ := DataW.trod_string he hf
        have h1 : cs[i]? = some (.string s) := by
          have := congrArg (·[0]?) hc
          simpa [List.getElem?_take, List.getElem?_drop] using this
        have h2 : (xs.map (·.1))[i]? = some b.1 := by simp [hb]
        rw [hxs, hy] at h2
        simp only [List.getElem?_map, Option.map_eq_some_iff, DataW.lit.injEq, Lit.string.injEq] at h2
        obtain ⟨s', hs', he'⟩ := h2
        have e : s = s' := by
          have h9 := he'
          first | exact (ByteArray.ext (Array.ext' h9)).symm | (rw [ByteArray.toList_eq] at h9; exact (ByteArray.ext (Array.ext' h9)).symm)
        rw [h1, List.getElem?_map, hs', e]
        rfl
      · rw [List.getElem?_eq_none (by omega), List.getElem?_eq_none (by simp; omega)]
    · cases h

theorem tabN_of_laid {W : World} (h : laidMetH Tryd.prog [("chancery/name.labels", Rows.laid_chancery_name_labels)] W) : TabN W := by
  have h1 : laidMet Tryd.prog [("chancery/name.labels", Rows.laid_chancery_name_labels)] W := h
  rw [dLabels] at h1
  obtain ⟨ps, ⟨g', t', cs, fuel, p, q, hg', ht', hvar, hd, _, _⟩, _⟩ := h1
  obtain rfl := Option.some.inj (gLabels.symm.trans hg')
  obtain rfl := Option.some.inj (tLabels.symm.trans ht')
  have hcs := cells_of_tabS Tryd.underlying86 Tryd.underlying9 (by kernel_rfl) (by kernel_rfl) hd
  intro k hk
  have h2 := World.var?_cell gLabels hvar k
  rw [h2, ← Array.getElem?_toList, hcs]
  unfold labsL
  rw [List.getElem?_map, List.getElem?_map, List.getElem?_range hk]
  rfl

end Go.Proofs.YtgbbgfjamneioaaDoor

namespace Go.Proofs.YtgbbgfjamneioaaDoor
open Go.ChangeShapes Go.WideShapes Go.ChangeAt Go.RowKit

theorem Tryd.cellsV : Tryd.prog.cellsOf 25 = 1 := by kernel_rfl

theorem bulk_pos {H : Type} (d : DataW H) : 1 ≤ Rows.uptoBulk d := by
  cases d with
  | lit l => cases l <;> simp [Rows.uptoBulk]
  | nil | ptr _ | slice _ _ | agg _ | iface _ _ | map _ | held _ => simp [Rows.uptoBulk]

theorem bulk_len {H : Type} : ∀ l : List (DataW H), l.length ≤ Rows.uptoBulkAll l
  | [] => by simp [Rows.uptoBulkAll]
  | d :: r => by have h1 := bulk_pos d; have h2 := bulk_len r; simp only [Rows.uptoBulkAll, List.length_cons]; omega

theorem bulk_mem {H : Type} : ∀ (l : List (DataW H)) (d : DataW H), d ∈ l → Rows.uptoBulk d ≤ Rows.uptoBulkAll l
  | [], _, h => by cases h
  | x :: r, d, h => by
    simp only [Rows.uptoBulkAll]
    rcases List.mem_cons.1 h with rfl | h
    · omega
    · have := bulk_mem r d h; omega

theorem bulk_slice {H : Type} (el sp : List (DataW H)) : Rows.uptoBulk (.slice el sp) = Rows.uptoBulkAll el + Rows.uptoBulkAll sp + 1 := by simp only [Rows.uptoBulk]

theorem bulk_bytes {H : Type} {d : DataW H} {len cap : Nat} (hc : len ≤ cap) (h : (d = .nil ∧ len = 0 ∧ cap = 0) ∨ ∃ el sp, d = .slice el sp ∧ el.length + sp.length = cap) : len ≤ Rows.uptoBulk d := by
  rcases h with ⟨_, rfl, _⟩ | ⟨el, sp, rfl, h⟩
  · omega
  · have h1 := bulk_len el
    have h2 := bulk_len sp
    rw [bulk_slice]
    omega

end Go.Proofs.YtgbbgfjamneioaaDoor
