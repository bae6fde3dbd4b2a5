/-
  The statement NameOnce: its walk.
  How a row's []byte argument is opened into what the walks are told of it.
  The table of labels of package name, out of a row's list.
  How much a row's reading holds, against its length.
-/
import Derived.Test.YtgbbgfjamneioaaDoorXNmDecW
import Derived.Test.YtgbbgfjamneioaaDoorXNmPrs
import Derived.Test.YtgbbgfjamneioaaDoorRows
import Derived.Test.YtgbbgfjamneioaaDoorXBaseToBts
import Derived.ProofKit
import Derived.OpenShut
import Derived.ShutString
import Derived.ChangeOld
import Derived.Below
import Derived.SizedLaws
import Derived.Test.YtgbbgfjamneioaaDoorXNmTx2
import Derived.LaidMore
import Derived.LaidHandle
import Derived.Lib.LaidTab
import Derived.JoinedCond
namespace Go.Proofs.YtgbbgfjamneioaaDoor
open Go.RowKit Go.IntWalk Go.Shelf

theorem ans_ok {xs : List Int} (h : ansE xs = 0) : nameL (ansN xs) = true ∧ encNC (ansN xs) = xs := by
  unfold ansE at h
  unfold ansN
  by_cases h1 : (oneS xs).2.2 ≠ 0
  · rw [if_pos h1] at h
    exact absurd h h1
  · rw [if_neg h1] at h ⊢
    by_cases hk : okN xs (decN xs) = true
    · rw [if_pos hk]
      unfold okN at hk
      rw [Bool.and_eq_true] at hk
      exact ⟨hk.1, of_decide_eq_true hk.2⟩
    · rw [if_neg hk] at h
      cases h
theorem name_size {n : List (Int × ByteArray)} (h : nameL n = true) : ∀ x ∈ n, x.2.size ≤ 1048576 := fun x hx => by
  have := attr_short ((name_all h).2 x hx)
  omega
theorem encNE_zero {n : List (Int × ByteArray)} (h : nameL n = true) : encNE n = 0 := by rw [encNE_ok, if_pos h]

set_option maxRecDepth 100000 in
set_option maxHeartbeats 2000000 in
theorem nameOnce_walk (ao : Option Addr) (n cap : Nat) (xs : List Int) (s : ByteArray) (m : Int) (w : World) (hT : TabN w) (hM : MLn w m) (hsrc : Src w ao n cap xs) (hN : n ≤ 1048576) (hs : s.size ≤ 1048576) :
    Calls Tryd.prog 6 #[.slice ao n cap, .string s] w fun e w' => e = .returned (.bool true) ∧ Below w.heap.size w w' := by
  have d1 := hide (callsIn_wide.1 (decodeN_in ao n cap xs w hsrc hN))
  have HS := hide hsrc
  have HT := hide hT
  have HM := hide hM
  have HAA : Hid (ansE xs = 0 → nameL (ansN xs) = true ∧ encNC (ansN xs) = xs) := ans_ok
  clear hsrc hT hM
  generalize ansE xs = AE at *
  generalize ansN xs = AN at *
  go_enter Tryd.func6, Tryd.ntmps6
  go_wp2_with fail
  refine d1.out.mono ?_
  rintro e v1 ⟨a1, m1, c1, rfl, o1, C1⟩
  have HK1 := hide C1
  by_cases ha : AE = 0
  · obtain ⟨hn1, he1⟩ := HAA.out ha
    subst ha
    have p0 : ((0 : Int) == 0) = true := rfl
    have A1 := o1.ats (name_size hn1)
    have d2 := hide (encodeN_any a1 m1 c1 AN v1 A1 (name_size hn1))
    have ez := encNE_zero hn1
    rw [he1, ez] at d2
    have d3 := hide (fun V' (h : Ats V' a1 m1 c1 AN) => mayN_any a1 m1 c1 AN V' h (fun x hx => by have := name_size hn1 x hx; omega))
    rw [hn1] at d3
    have HO1 := hide A1
    have HBY := hide HS.out.hbyt
    have q0 : ((0 : Int) != 0) = false := rfl
    have q1 : ((strOfNums xs).toList == (strOfNums xs).toList) = true := by simp
    clear d1 HAA o1 C1 A1 ez he1
    go_wp2_with fail
    refine d2.out.mono ?_
    rintro e v2 ⟨a2, m2, c2, rfl, o2, C2⟩
    have HK2 := hide (HK1.out.trans (C2.mono HK1.out.size))
    have t2 := (OwnB.toSrc o2 HBY.out).text
    have t0 := (HS.out.below HK2.out).text
    have d4 := hide (d3.out v2 (HO1.out.below C2))
    clear d2 d3 C2 HO1 HK1 o2
    go_wp2_with fail
    refine d4.out.mono ?_
    rintro e V ⟨rfl, C3⟩
    have HK := hide (HK2.out.trans (C3.mono HK2.out.size))
    clear d4 C3 HK2 t2 t0 hn1 HBY q1
    have d5 := hide (callsIn_wide.1 (parseN_in s hs m V (HT.out.below HK.out) (HM.out.below HK.out)))
    have HPA : Hid (pansE s = 0 → nameL (pansN s) = true ∧ txT (pansN s) = s) := pans_ok
    generalize pansE s = PE at *
    generalize pansN s = PN at *
    go_wp2_with fail
    refine d5.out.mono ?_
    rintro e v5 ⟨a5, m5, c5, rfl, o5, C5⟩
    have HK5 := hide (HK.out.trans (C5.mono HK.out.size))
    by_cases hp : PE = 0
    · obtain ⟨hn5, ht5⟩ := HPA.out hp
      subst hp
      have p0 : ((0 : Int) == 0) = true := rfl
      have A5 := o5.ats (name_size hn5)
      have d6 := hide (textN_any a5 m5 c5 PN v5 (HT.out.below HK5.out) A5 (name_size hn5))
      have ez := encNE_zero hn5
      rw [ht5, ez] at d6
      have d7 := hide (fun V' (h : Ats V' a5 m5 c5 PN) => mayN_any a5 m5 c5 PN V' h (fun x hx => by have := name_size hn5 x hx; omega))
      rw [hn5] at d7
      have HO5 := hide A5
      have q0 : ((0 : Int) != 0) = false := rfl
      have q1 : (s.toList == s.toList) = true := by simp
      clear d5 HPA o5 C5 A5 ez ht5 HK
      go_wp2_with fail
      refine d6.out.mono ?_
      rintro e v6 ⟨rfl, C6⟩
      have HK6 := hide (HK5.out.trans (C6.mono HK5.out.size))
      have d8 := hide (d7.out v6 (HO5.out.below C6))
      clear d6 d7 C6 HO5 HK5
      go_wp2_with fail
      refine d8.out.mono ?_
      rintro e v7 ⟨rfl, C7⟩
      have HK := hide (HK6.out.trans (C7.mono HK6.out.size))
      clear d8 C7 HK6
      go_wp2_with fail
      refine (there_any _).mono ?_
      rintro e wz ⟨rfl, BZ⟩
      go_wp2
      go_ret
      exact ⟨rfl, HK.out.trans (BZ.mono HK.out.size)⟩
    · have p0 : (PE == 0) = false := by simpa using hp
      clear d5 HPA o5 C5 HK
      have HK := hide HK5.out
      go_wp2_with fail
      refine (there_any _).mono ?_
      rintro e wz ⟨rfl, BZ⟩
      go_wp2
      go_ret
      exact ⟨rfl, HK.out.trans (BZ.mono HK.out.size)⟩
  · have p0 : (AE == 0) = false := by simpa using ha
    clear d1 HAA o1 C1
    have HK := hide HK1.out
    obtain ⟨V, hV⟩ : ∃ V, V = v1 := ⟨_, rfl⟩
    subst hV
    clear HK1
    have d5 := hide (callsIn_wide.1 (parseN_in s hs m V (HT.out.below HK.out) (HM.out.below HK.out)))
    have HPA : Hid (pansE s = 0 → nameL (pansN s) = true ∧ txT (pansN s) = s) := pans_ok
    generalize pansE s = PE at *
    generalize pansN s = PN at *
    go_wp2_with fail
    refine d5.out.mono ?_
    rintro e v5 ⟨a5, m5, c5, rfl, o5, C5⟩
    have HK5 := hide (HK.out.trans (C5.mono HK.out.size))
    by_cases hp : PE = 0
    · obtain ⟨hn5, ht5⟩ := HPA.out hp
      subst hp
      have p0 : ((0 : Int) == 0) = true := rfl
      have A5 := o5.ats (name_size hn5)
      have d6 := hide (textN_any a5 m5 c5 PN v5 (HT.out.below HK5.out) A5 (name_size hn5))
      have ez := encNE_zero hn5
      rw [ht5, ez] at d6
      have d7 := hide (fun V' (h : Ats V' a5 m5 c5 PN) => mayN_any a5 m5 c5 PN V' h (fun x hx => by have := name_size hn5 x hx; omega))
      rw [hn5] at d7
      have HO5 := hide A5
      have q0 : ((0 : Int) != 0) = false := rfl
      have q1 : (s.toList == s.toList) = true := by simp
      clear d5 HPA o5 C5 A5 ez ht5 HK
      go_wp2_with fail
      refine d6.out.mono ?_
      rintro e v6 ⟨rfl, C6⟩
      have HK6 := hide (HK5.out.trans (C6.mono HK5.out.size))
      have d8 := hide (d7.out v6 (HO5.out.below C6))
      clear d6 d7 C6 HO5 HK5
      go_wp2_with fail
      refine d8.out.mono ?_
      rintro e v7 ⟨rfl, C7⟩
      have HK := hide (HK6.out.trans (C7.mono HK6.out.size))
      clear d8 C7 HK6
      go_wp2_with fail
      refine (there_any _).mono ?_
      rintro e wz ⟨rfl, BZ⟩
      go_wp2
      go_ret
      exact ⟨rfl, HK.out.trans (BZ.mono HK.out.size)⟩
    · have p0 : (PE == 0) = false := by simpa using hp
      clear d5 HPA o5 C5 HK
      have HK := hide HK5.out
      go_wp2_with fail
      refine (there_any _).mono ?_
      rintro e wz ⟨rfl, BZ⟩
      go_wp2
      go_ret
      exact ⟨rfl, HK.out.trans (BZ.mono HK.out.size)⟩

end Go.Proofs.YtgbbgfjamneioaaDoor

namespace Go.Proofs.YtgbbgfjamneioaaDoor
open Go.ChangeShapes Go.WideShapes Go.ChangeAt Go.RowKit

theorem Tryd.own : ownKnob Tryd.prog.godebug = none := by kernel_rfl
theorem Tryd.laidOut : laidOutB Tryd.prog = true := by kernel_rfl
theorem Tryd.cellsB : Tryd.prog.cellsOf 5 = 1 := by kernel_rfl
theorem Tryd.bytesB : Tryd.prog.bytesOf 5 = 1 := by kernel_rfl

theorem src_of_cells {W : World} {a : Addr} {len cap : Nat} {zs : List Int} (hl : len ≤ cap) (hm : cap ≤ maxLen) (hz : zs.length = cap) (hcell : ∀ i, i < zs.length → W.cell? (a.add i) = some (.int .u8 (zs.getD i 0)))
    (hwz : ∀ n ∈ zs, (Lit.int .u8 n).wf = true) : Src W (some a) len cap (zs.take len) := by
  refine ⟨by simp; omega, hl, hm, by simp, ?_, ?_⟩
  · intro hx
    have h0 : 0 < len ∧ 0 < zs.length := by
      rcases Nat.eq_zero_or_pos len with h | h
      · subst h; simp at hx
      · omega
    obtain ⟨b, off, spot⟩ := a
    have hc := hcell 0 h0.2
    have hspot : spot = none := by simpa [Addr.add] using World.cell?_spot hc
    subst hspot
    refine ⟨b, off, rfl, fun i hi => ?_⟩
    have hi' : i < len ∧ i < zs.length := by simp at hi; omega
    have := hcell i hi'.2
    rw [add_none] at this
    rw [this]
    simp [List.getD, hi'.1]
  · intro x hx
    have := hwz x (List.mem_of_mem_take hx)
    have := bounds_u8 this
    omega

/-- An argument of type []byte, as the row reads it. -/
theorem open_bytes {H : Type} {enc : TypeId × Value → H} {W : World} {a0 : Option Addr} {len cap : Nat} {d : DataW H} {p : List MemPlace}
    (h : DataW.Trod enc Tryd.prog W 0 (fun _ => true) true 25 (.slice a0 len cap) d p) :
    ∃ xs, Src W a0 len cap xs ∧ ((d = .nil ∧ len = 0 ∧ cap = 0) ∨ ∃ el sp, d = .slice el sp ∧ el.length + sp.length = cap) := by
  obtain ⟨fuel, hf⟩ := h
  rcases open_ints Tryd.underlying25 Tryd.underlying5 Tryd.cellsB hf with ⟨hcs, hx⟩ | ⟨x, l, c, zs, hcs, _, hl, hm, hz, hx, hcell, hwz⟩
  · simp [Value.cells] at hcs
    obtain ⟨rfl, rfl, rfl⟩ := hcs
    simp only [Prod.mk.injEq] at hx
    exact ⟨[], ⟨rfl, Nat.le_refl _, by decide, fun _ => ⟨rfl, rfl⟩, fun h => absurd rfl h, by simp⟩, .inl ⟨hx.1, rfl, rfl⟩⟩
  · simp [Value.cells] at hcs
    obtain ⟨rfl, rfl, rfl⟩ := hcs
    simp only [Prod.mk.injEq] at hx
    have hz' : zs.length = cap := by simpa using hz
    exact ⟨zs.take len, src_of_cells hl hm hz' hcell hwz, .inr ⟨_, _, hx.1, by simp [lits]; omega⟩⟩

end Go.Proofs.YtgbbgfjamneioaaDoor

namespace Go.Proofs.YtgbbgfjamneioaaDoor
open Go.ChangeShapes Go.WideShapes Go.ChangeAt Go.RowKit

theorem gLabels : Tryd.prog.globalNamed "chancery/name.labels" = some 0 := by kernel_rfl
theorem tLabels : (Tryd.prog.globals[0]?).map (·.type) = some 86 := by kernel_rfl
def labsL : List ByteArray := (List.range 12).map (fun k : Nat => labS (k : Int))
def tabS {H : Type} (ss : List ByteArray) : DataW H := .agg (ss.map fun s => .lit (.string s.data.toList))
theorem dLabels : (Rows.laid_chancery_name_labels : DataW Unit) = tabS labsL := by kernel_rfl

theorem cells_of_tabS {H : Type} {enc : TypeId × Value → H} {P : Program} {w : World} {base : Nat} {sp : Nat → Bool} {held : Bool} {fuel : Nat} {t e : TypeId} {n : Nat} {cs : List Value} {ss : List ByteArray} {p : List MemPlace}
    (ht : P.underlying t = some (.array n e)) (he : P.underlying e = some .string) (hce : P.cellsOf e = 1) (hct : P.cellsOf t = n)
    (h : DataW.trod enc P w base sp held fuel t cs = some (tabS ss, p)) : cs = ss.map Value.string := by
  cases fuel with
  | zero => simp [DataW.trod] at h
  | succ fuel =>
    simp only [DataW.trod, ht, hce, hct, Nat.mul_one] at h
    split at h
    · rename_i hl
      obtain ⟨xs, hm, hx⟩ := Option.map_eq_some_iff.1 h
      have hxs : xs.map (·.1) = ss.map fun s => (DataW.lit (.string s.data.toList) : DataW H) := by
        have := congrArg Prod.fst hx
        simpa [tabS] using this
      have hxl : xs.length = n := by simpa using Lib.mapM_length hm
      have hzl : ss.length = n := by
        have := congrArg List.length hxs
        simp at this
        omega
      apply List.ext_getElem?
      intro i
      by_cases hi : i < n
      · obtain ⟨b, hb, hf⟩ := Lib.mapM_at hm i i (by simp [hi])
        obtain ⟨s, hc, hy, _⟩ := DataW.trod_string he hf
        have h1 : cs[i]? = some (.string s) := by
          have := congrArg (·[0]?) hc
          simpa [List.getElem?_take, List.getElem?_drop] using this
        have h2 : (xs.map (·.1))[i]? = some b.1 := by simp [hb]
        rw [hxs, hy] at h2
        simp only [List.getElem?_map, Option.map_eq_some_iff, DataW.lit.injEq, Lit.string.injEq] at h2
        obtain ⟨s', hs', he'⟩ := h2
        have e : s = s' := by
          have h9 := he'
          first | exact (ByteArray.ext (Array.ext' h9)).symm | (rw [ByteArray.toList_eq] at h9; exact (ByteArray.ext (Array.ext' h9)).symm)
        rw [h1, List.getElem?_map, hs', e]
        rfl
      · rw [List.getElem?_eq_none (by omega), List.getElem?_eq_none (by simp; omega)]
    · cases h

theorem tabN_of_laid {W : World} (h : laidMetH Tryd.prog [("chancery/name.labels", Rows.laid_chancery_name_labels)] W) : TabN W := by
  have h1 : laidMet Tryd.prog [("chancery/name.labels", Rows.laid_chancery_name_labels)] W := h
  rw [dLabels] at h1
  obtain ⟨ps, ⟨g', t', cs, fuel, p, q, hg', ht', hvar, hd, _, _⟩, _⟩ := h1
  obtain rfl := Option.some.inj (gLabels.symm.trans hg')
  obtain rfl := Option.some.inj (tLabels.symm.trans ht')
  have hcs := cells_of_tabS Tryd.underlying86 Tryd.underlying9 (by kernel_rfl) (by kernel_rfl) hd
  intro k hk
  have h2 := World.var?_cell gLabels hvar k
  rw [h2, ← Array.getElem?_toList, hcs]
  unfold labsL
  rw [List.getElem?_map, List.getElem?_map, List.getElem?_range hk]
  rfl

end Go.Proofs.YtgbbgfjamneioaaDoor

namespace Go.Proofs.YtgbbgfjamneioaaDoor
open Go.ChangeShapes Go.WideShapes Go.ChangeAt Go.RowKit

theorem Tryd.cellsV : Tryd.prog.cellsOf 25 = 1 := by kernel_rfl

theorem bulk_pos {H : Type} (d : DataW H) : 1 ≤ Rows.uptoBulk d := by
  cases d with
  | lit l => cases l <;> simp [Rows.uptoBulk]
  | nil | ptr _ | slice _ _ | agg _ | iface _ _ | map _ | held _ => simp [Rows.uptoBulk]

theorem bulk_len {H : Type} : ∀ l : List (DataW H), l.length ≤ Rows.uptoBulkAll l
  | [] => by simp [Rows.uptoBulkAll]
  | d :: r => by have h1 := bulk_pos d; have h2 := bulk_len r; simp only [Rows.uptoBulkAll, List.length_cons]; omega

theorem bulk_mem {H : Type} : ∀ (l : List (DataW H)) (d : DataW H), d ∈ l → Rows.uptoBulk d ≤ Rows.uptoBulkAll l
  | [], _, h => by cases h
  | x :: r, d, h => by
    simp only [Rows.uptoBulkAll]
    rcases List.mem_cons.1 h with rfl | h
    · omega
    · have := bulk_mem r d h; omega

theorem bulk_slice {H : Type} (el sp : List (DataW H)) : Rows.uptoBulk (.slice el sp) = Rows.uptoBulkAll el + Rows.uptoBulkAll sp + 1 := by simp only [Rows.uptoBulk]

theorem bulk_bytes {H : Type} {d : DataW H} {len cap : Nat} (hc : len ≤ cap) (h : (d = .nil ∧ len = 0 ∧ cap = 0) ∨ ∃ el sp, d = .slice el sp ∧ el.length + sp.length = cap) : len ≤ Rows.uptoBulk d := by
  rcases h with ⟨_, rfl, _⟩ | ⟨el, sp, rfl, h⟩
  · omega
  · have h1 := bulk_len el
    have h2 := bulk_len sp
    rw [bulk_slice]
    omega

end Go.Proofs.YtgbbgfjamneioaaDoor
