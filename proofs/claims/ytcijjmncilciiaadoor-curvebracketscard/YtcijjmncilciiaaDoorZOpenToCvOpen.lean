/-
  How a row's []byte argument is opened into what the walks are told of it.
  The tables of package curve, out of a row's list.
  How a row's arguments of type Point and Digest are opened into what the walks are told of them.
-/
import Derived.Test.YtcijjmncilciiaaDoorRows
import Derived.Test.YtcijjmncilciiaaDoorZCvNamToBts
import Derived.ProofKit
import Derived.OpenShut
import Derived.ShutString
import Derived.ChangeOld
import Derived.Below
import Derived.SizedLaws
import Derived.LaidMore
import Derived.LaidHandle
import Derived.LaidSub
import Derived.Lib.LaidTab
import Derived.Test.YtcijjmncilciiaaDoorZCvDigToCvEqP
namespace Go.Proofs.YtcijjmncilciiaaDoor
open Go.ChangeShapes Go.WideShapes Go.ChangeAt Go.RowKit

theorem Tryd.own : ownKnob Tryd.prog.godebug = none := by kernel_rfl
theorem Tryd.laidOut : laidOutB Tryd.prog = true := by kernel_rfl
theorem Tryd.cellsB : Tryd.prog.cellsOf 5 = 1 := by kernel_rfl
theorem Tryd.bytesB : Tryd.prog.bytesOf 5 = 1 := by kernel_rfl

theorem src_of_cells {W : World} {a : Addr} {len cap : Nat} {zs : List Int} (hl : len ≤ cap) (hm : cap ≤ maxLen) (hz : zs.length = cap) (hcell : ∀ i, i < zs.length → W.cell? (a.add i) = some (.int .u8 (zs.getD i 0)))
    (hwz : ∀ n ∈ zs, (Lit.int .u8 n).wf = true) : Src W (some a) len cap (zs.take len) := by
  refine ⟨by simp; omega, hl, hm, by simp, ?_, ?_⟩
  · intro hx
    have h0 : 0 < len ∧ 0 < zs.length := by
      rcases Nat.eq_zero_or_pos len with h | h
      · subst h; simp at hx
      · omega
    obtain ⟨b, off, spot⟩ := a
    have hc := hcell 0 h0.2
    have hspot : spot = none := by simpa [Addr.add] using World.cell?_spot hc
    subst hspot
    refine ⟨b, off, rfl, fun i hi => ?_⟩
    have hi' : i < len ∧ i < zs.length := by simp at hi; omega
    have := hcell i hi'.2
    rw [add_none] at this
    rw [this]
    simp [List.getD, hi'.1]
  · intro x hx
    have := hwz x (List.mem_of_mem_take hx)
    have := bounds_u8 this
    omega

/-- An argument of type []byte, as the row reads it. -/
theorem open_bytes {H : Type} {enc : TypeId × Value → H} {W : World} {a0 : Option Addr} {len cap : Nat} {d : DataW H} {p : List MemPlace}
    (h : DataW.Trod enc Tryd.prog W 0 (fun _ => true) true 47 (.slice a0 len cap) d p) :
    ∃ xs, Src W a0 len cap xs ∧ ((d = .nil ∧ len = 0 ∧ cap = 0) ∨ ∃ el sp, d = .slice el sp ∧ el.length + sp.length = cap) := by
  obtain ⟨fuel, hf⟩ := h
  rcases open_ints Tryd.underlying47 Tryd.underlying5 Tryd.cellsB hf with ⟨hcs, hx⟩ | ⟨x, l, c, zs, hcs, _, hl, hm, hz, hx, hcell, hwz⟩
  · simp [Value.cells] at hcs
    obtain ⟨rfl, rfl, rfl⟩ := hcs
    simp only [Prod.mk.injEq] at hx
    exact ⟨[], ⟨rfl, Nat.le_refl _, by decide, fun _ => ⟨rfl, rfl⟩, fun h => absurd rfl h, by simp⟩, .inl ⟨hx.1, rfl, rfl⟩⟩
  · simp [Value.cells] at hcs
    obtain ⟨rfl, rfl, rfl⟩ := hcs
    simp only [Prod.mk.injEq] at hx
    have hz' : zs.length = cap := by simpa using hz
    exact ⟨zs.take len, src_of_cells hl hm hz' hcell hwz, .inr ⟨_, _, hx.1, by simp [lits]; omega⟩⟩

end Go.Proofs.YtcijjmncilciiaaDoor

namespace Go.Proofs.YtcijjmncilciiaaDoor
open Go.ChangeShapes Go.WideShapes Go.ChangeAt Go.RowKit

theorem range_of_tab {W : World} {name : String} {g : Nat} {zs : List Int} (hg : Tryd.prog.globalNamed name = some g) (h : Lib.TabIs Tryd.prog W name .u64 zs) : W.rangeAt g 0 (zs.map (Value.int .u64)) := by
  intro j v hv
  have hj : j < zs.length := by have := (List.getElem?_eq_some_iff.1 hv).1; simpa using this
  have := h.cell hg j hj
  rw [Nat.zero_add, this]
  simp [List.getElem?_eq_getElem hj] at hv
  subst hv
  simp [List.getD, hj]

theorem tab_order {W : World} {l : List (String × DataW Unit)} (h : laidMetH Tryd.prog l W) (e : l.filter (fun x => x.1 == "chancery/curve.order") = [("chancery/curve.order", Rows.laid_chancery_curve_order)]) : W.rangeAt 2 0 ([17562291160714782033, 13611842547513532036, 18446744073709551615, 18446744069414584320].map (Value.int .u64)) := by
  have h1 := h.filter (fun x => x.1 == "chancery/curve.order")
  rw [e] at h1
  have h2 : laidMet Tryd.prog [("chancery/curve.order", Lib.tabData .u64 [17562291160714782033, 13611842547513532036, 18446744073709551615, 18446744069414584320])] W := h1
  exact range_of_tab (by kernel_rfl) (Lib.tabIs_of_head (g := 2) (t := 99) (by kernel_rfl) (by kernel_rfl) Tryd.underlying99 Tryd.underlying57 (by kernel_rfl) (by kernel_rfl) h2)

theorem tab_baseX {W : World} {l : List (String × DataW Unit)} (h : laidMetH Tryd.prog l W) (e : l.filter (fun x => x.1 == "chancery/curve.baseX") = [("chancery/curve.baseX", Rows.laid_chancery_curve_baseX)]) : W.rangeAt 0 0 ([17627433388654248598, 8575836109218198432, 17923454489921339634, 7716867327612699207].map (Value.int .u64)) := by
  have h1 := h.filter (fun x => x.1 == "chancery/curve.baseX")
  rw [e] at h1
  have h2 : laidMet Tryd.prog [("chancery/curve.baseX", Lib.tabData .u64 [17627433388654248598, 8575836109218198432, 17923454489921339634, 7716867327612699207])] W := h1
  exact range_of_tab (by kernel_rfl) (Lib.tabIs_of_head (g := 0) (t := 99) (by kernel_rfl) (by kernel_rfl) Tryd.underlying99 Tryd.underlying57 (by kernel_rfl) (by kernel_rfl) h2)

theorem tab_baseY {W : World} {l : List (String × DataW Unit)} (h : laidMetH Tryd.prog l W) (e : l.filter (fun x => x.1 == "chancery/curve.baseY") = [("chancery/curve.baseY", Rows.laid_chancery_curve_baseY)]) : W.rangeAt 1 0 ([14678990851816772085, 3156516839386865358, 10297457778147434006, 5756518291402817435].map (Value.int .u64)) := by
  have h1 := h.filter (fun x => x.1 == "chancery/curve.baseY")
  rw [e] at h1
  have h2 : laidMet Tryd.prog [("chancery/curve.baseY", Lib.tabData .u64 [14678990851816772085, 3156516839386865358, 10297457778147434006, 5756518291402817435])] W := h1
  exact range_of_tab (by kernel_rfl) (Lib.tabIs_of_head (g := 1) (t := 99) (by kernel_rfl) (by kernel_rfl) Tryd.underlying99 Tryd.underlying57 (by kernel_rfl) (by kernel_rfl) h2)

theorem tab_coefficient {W : World} {l : List (String × DataW Unit)} (h : laidMetH Tryd.prog l W) (e : l.filter (fun x => x.1 == "chancery/curve.coefficient") = [("chancery/curve.coefficient", Rows.laid_chancery_curve_coefficient)]) : W.rangeAt 3 0 ([4309448131093880907, 7285987128567378166, 12964664127075681980, 6540974713487397863].map (Value.int .u64)) := by
  have h1 := h.filter (fun x => x.1 == "chancery/curve.coefficient")
  rw [e] at h1
  have h2 : laidMet Tryd.prog [("chancery/curve.coefficient", Lib.tabData .u64 [4309448131093880907, 7285987128567378166, 12964664127075681980, 6540974713487397863])] W := h1
  exact range_of_tab (by kernel_rfl) (Lib.tabIs_of_head (g := 3) (t := 99) (by kernel_rfl) (by kernel_rfl) Tryd.underlying99 Tryd.underlying57 (by kernel_rfl) (by kernel_rfl) h2)

theorem tab_one {W : World} {l : List (String × DataW Unit)} (h : laidMetH Tryd.prog l W) (e : l.filter (fun x => x.1 == "chancery/curve.one") = [("chancery/curve.one", Rows.laid_chancery_curve_one)]) : W.rangeAt 4 0 ([1, 18446744069414584320, 18446744073709551615, 4294967294].map (Value.int .u64)) := by
  have h1 := h.filter (fun x => x.1 == "chancery/curve.one")
  rw [e] at h1
  have h2 : laidMet Tryd.prog [("chancery/curve.one", Lib.tabData .u64 [1, 18446744069414584320, 18446744073709551615, 4294967294])] W := h1
  exact range_of_tab (by kernel_rfl) (Lib.tabIs_of_head (g := 4) (t := 70) (by kernel_rfl) (by kernel_rfl) Tryd.underlying70 Tryd.underlying57 (by kernel_rfl) (by kernel_rfl) h2)

theorem tab_lift {W : World} {l : List (String × DataW Unit)} (h : laidMetH Tryd.prog l W) (e : l.filter (fun x => x.1 == "chancery/curve.lift") = [("chancery/curve.lift", Rows.laid_chancery_curve_lift)]) : W.rangeAt 5 0 ([3, 18446744056529682431, 18446744073709551614, 21474836477].map (Value.int .u64)) := by
  have h1 := h.filter (fun x => x.1 == "chancery/curve.lift")
  rw [e] at h1
  have h2 : laidMet Tryd.prog [("chancery/curve.lift", Lib.tabData .u64 [3, 18446744056529682431, 18446744073709551614, 21474836477])] W := h1
  exact range_of_tab (by kernel_rfl) (Lib.tabIs_of_head (g := 5) (t := 70) (by kernel_rfl) (by kernel_rfl) Tryd.underlying70 Tryd.underlying57 (by kernel_rfl) (by kernel_rfl) h2)

end Go.Proofs.YtcijjmncilciiaaDoor

namespace Go.Proofs.YtcijjmncilciiaaDoor
open Go.ChangeShapes Go.WideShapes Go.ChangeAt Go.RowKit

/-- The number in a cell. -/
def cellN : Value → Int
  | .int _ z => z
  | _ => 0

set_option maxRecDepth 100000 in
theorem bytes_of_arr {H : Type} {enc : TypeId × Value → H} {W : World} {base : Nat} {sp : Nat → Bool} {held : Bool} {fuel : Nat} {t : TypeId} {n : Nat} {cs : List Value} {x : DataW H × List MemPlace}
    (ht : Tryd.prog.underlying t = some (.array n 5)) (hct : Tryd.prog.cellsOf t = n) (h : DataW.trod enc Tryd.prog W base sp held fuel t cs = some x) : ∃ X : List Int, cs = X.map (Value.int .u8) ∧ X.length = n ∧ Dg 256 X := by
  cases fuel with
  | zero => simp [DataW.trod] at h
  | succ fuel =>
    simp only [DataW.trod, ht, Tryd.cellsB, hct, Nat.mul_one] at h
    split at h
    · rename_i hl
      obtain ⟨xs, hm, hx⟩ := Option.map_eq_some_iff.1 h
      have key : ∀ i, i < n → ∃ z, cs[i]? = some (.int .u8 z) ∧ 0 ≤ z ∧ z < 256 := by
        intro i hi
        obtain ⟨b, hb, hf⟩ := Lib.mapM_at hm i i (by simp [hi])
        obtain ⟨z, hc, _, hw⟩ := DataW.trod_int Tryd.underlying5 hf
        refine ⟨z, ?_, ?_⟩
        · have := congrArg (·[0]?) hc
          simpa [List.getElem?_take, List.getElem?_drop] using this
        · have := bounds_u8 hw
          omega
      have hlen : cs.length = n := by simpa using hl
      refine ⟨cs.map cellN, ?_, by simpa using hlen, ?_⟩
      · apply List.ext_getElem?
        intro i
        by_cases hi : i < n
        · obtain ⟨z, hz, _⟩ := key i hi
          simp [hz, cellN]
        · rw [List.getElem?_eq_none (by omega), List.getElem?_eq_none (by simp; omega)]
      · intro y hy
        obtain ⟨v, hv, rfl⟩ := List.mem_map.1 hy
        obtain ⟨i, hi, rfl⟩ := List.getElem_of_mem hv
        obtain ⟨z, hz, hb⟩ := key i (by omega)
        rw [List.getElem?_eq_getElem hi] at hz
        simp only [Option.some.injEq] at hz
        rw [hz]
        exact hb
    · cases h

set_option maxRecDepth 100000 in
theorem okWide_arr {W : World} {r : Reach} {b0 n : Nat} {t e : TypeId} {v : Value} (ht : Tryd.prog.underlying t = some (.array n e)) (h : Value.okWide Tryd.prog W r b0 t v) : ∃ cs, v = .agg cs := by
  simp only [Value.okWide, ht] at h
  obtain ⟨cs, h1, _⟩ := h
  exact ⟨cs, h1⟩

set_option maxRecDepth 100000 in
theorem open_digest {H : Type} {enc : TypeId × Value → H} {W : World} {r : Reach} {b0 : Nat} {v : Value} {d : DataW H} {p : List MemPlace}
    (hv : Value.okWide Tryd.prog W r b0 23 v) (h : DataW.Trod enc Tryd.prog W 0 (fun _ => true) true 23 v d p) :
    ∃ X, v = .agg (bV X).toArray ∧ X.length = 32 ∧ Dg 256 X := by
  obtain ⟨cs, rfl⟩ := okWide_arr Tryd.underlying23 hv
  obtain ⟨fuel, hf⟩ := h
  obtain ⟨X, hX, hl, hd⟩ := bytes_of_arr Tryd.underlying23 (by kernel_rfl) hf
  refine ⟨X, ?_, hl, hd⟩
  have : cs.toList = bV X := by simpa [Value.cells, bV] using hX
  rw [← this]

set_option maxRecDepth 100000 in
theorem open_point {H : Type} {enc : TypeId × Value → H} {W : World} {r : Reach} {b0 : Nat} {v : Value} {d : DataW H} {p : List MemPlace}
    (hv : Value.okWide Tryd.prog W r b0 25 v) (h : DataW.Trod enc Tryd.prog W 0 (fun _ => true) true 25 v d p) :
    ∃ X Y f, v = .agg (pL X Y f).toArray ∧ X.length = 32 ∧ Y.length = 32 ∧ Dg 256 X ∧ Dg 256 Y := by
  have hs := Tryd.underlying25
  obtain ⟨cs, rfl, hsz⟩ := okWide_struct hs hv
  obtain ⟨fuel, hf⟩ := h
  obtain ⟨xs, n, _, _, hl, hlen, hfs⟩ := DataW.trod_struct hs hf
  have h65 : cs.toList.length = 65 := by simpa using hsz.trans (show Tryd.prog.cellsOf 25 = 65 by kernel_rfl)
  have g0 := hfs 0 _ rfl
  have g1 := hfs 1 _ rfl
  have g2 := hfs 2 _ rfl
  simp only [Value.cells] at g0 g1 g2
  match xs, hlen with
  | [y0, y1, y2], _ =>
    have k0 : DataW.trod enc Tryd.prog W 0 (fun _ => true) true n 23 ((cs.toList.drop 0).take 32) = some y0 := g0
    have k1 : DataW.trod enc Tryd.prog W 0 (fun _ => true) true n 23 ((cs.toList.drop 32).take 32) = some y1 := g1
    have k2 : DataW.trod enc Tryd.prog W 0 (fun _ => true) true n 4 ((cs.toList.drop 64).take 1) = some y2 := g2
    obtain ⟨X, hX, lX, dX⟩ := bytes_of_arr Tryd.underlying23 (by kernel_rfl) k0
    obtain ⟨Y, hY, lY, dY⟩ := bytes_of_arr Tryd.underlying23 (by kernel_rfl) k1
    obtain ⟨f, hf, _⟩ := DataW.trod_bool Tryd.underlying4 k2
    refine ⟨X, Y, f, ?_, lX, lY, dX, dY⟩
    have e : cs.toList = pL X Y f := by
      unfold pL
      rw [← hX, ← hY, ← hf, List.drop_zero]
      have e1 : (cs.toList.drop 32).take 32 ++ (cs.toList.drop 64).take 1 = cs.toList.drop 32 := by
        rw [List.take_of_length_le (l := cs.toList.drop 64) (by simp at h65 ⊢; omega), show (64 : Nat) = 32 + 32 from rfl, ← List.drop_drop, List.take_append_drop]
      rw [List.append_assoc, e1, List.take_append_drop]
    rw [← e]

end Go.Proofs.YtcijjmncilciiaaDoor
