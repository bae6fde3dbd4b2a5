/-
  The statement SignOnce: its walk.
  How a row's []byte argument is opened into what the walks are told of it.
  The tables of package curve, out of a row's list.
  How much a row's reading holds, against its length.
-/
import Derived.Test.YtnabmdpgibnkaabDoorYSgDec
import Derived.Test.YtnabmdpgibnkaabDoorYSgMayO
import Derived.Test.YtnabmdpgibnkaabDoorRows
import Derived.Test.YtnabmdpgibnkaabDoorYBaseToBts
import Derived.ProofKit
import Derived.OpenShut
import Derived.ShutString
import Derived.ChangeOld
import Derived.Below
import Derived.SizedLaws
import Derived.Test.YtnabmdpgibnkaabDoorYCvNam
import Derived.LaidMore
import Derived.LaidHandle
import Derived.LaidSub
import Derived.Lib.LaidTab
import Derived.JoinedCond
namespace Go.Proofs.YtnabmdpgibnkaabDoor
open Go.RowKit Go.IntWalk
attribute [local go_sem ↓] ld_dig st_dig ne_dgs bd_dgs ld_sg st_sg bd_sg eq_sg

theorem ldSg {T : TypeId} {w : World} {g : Nat} {L : List Value} (hL : L.length = 64) (h : Blk T w g L) : (ldA 26 (.pointer (some ⟨g, 0, none⟩))).run Tryd.prog w = .ok (.agg L.toArray) w :=
  ldA_all Tryd.underlying26 rfl (by rw [hL]; exact info_sg) h
theorem stSgn (w : World) {L : List Value} (hL : L.length = 64) (h1 : ∀ v ∈ L, v.oneCell' = true) : (stA 26 (.pointer (some ⟨w.heap.size, 0, none⟩)) (.agg L.toArray)).run Tryd.prog (w.alloc (.cells #[.int .u8 0, .int .u8 0, .int .u8 0, .int .u8 0, .int .u8 0, .int .u8 0, .int .u8 0, .int .u8 0, .int .u8 0, .int .u8 0, .int .u8 0, .int .u8 0, .int .u8 0, .int .u8 0, .int .u8 0, .int .u8 0, .int .u8 0, .int .u8 0, .int .u8 0, .int .u8 0, .int .u8 0, .int .u8 0, .int .u8 0, .int .u8 0, .int .u8 0, .int .u8 0, .int .u8 0, .int .u8 0, .int .u8 0, .int .u8 0, .int .u8 0, .int .u8 0, .int .u8 0, .int .u8 0, .int .u8 0, .int .u8 0, .int .u8 0, .int .u8 0, .int .u8 0, .int .u8 0, .int .u8 0, .int .u8 0, .int .u8 0, .int .u8 0, .int .u8 0, .int .u8 0, .int .u8 0, .int .u8 0, .int .u8 0, .int .u8 0, .int .u8 0, .int .u8 0, .int .u8 0, .int .u8 0, .int .u8 0, .int .u8 0, .int .u8 0, .int .u8 0, .int .u8 0, .int .u8 0, .int .u8 0, .int .u8 0, .int .u8 0, .int .u8 0] 26)) = .ok () (w.alloc (.cells L.toArray 26)) :=
  run_storeAt_new (P := Tryd.prog) w 26 _ L.toArray (by rw [List.size_toArray, hL]; exact info_sg) (by simp [hL]) (all_oneCell_toArray h1)
theorem eqSgZ (w : World) : (eqA 26 (.agg sgZ.toArray) (.agg sgZ.toArray)).run Tryd.prog w = .ok (.bool true) w := by kernel_rfl
theorem may_one : mayS one32 = true := by decide +kernel
theorem dg_one : Dg 256 one32 := by intro x hx; simp [one32] at hx; omega

set_option maxRecDepth 100000 in
set_option maxHeartbeats 4000000 in
theorem once_walk11 (ao : Option Addr) (n cap : Nat) (xs : List Int) (w : World) (hN : Od w) (hs : Src w ao n cap xs) (hn : n ≤ 1099511627776) :
    Calls Tryd.prog 3 #[.slice ao n cap] w fun e w' => e = .returned (.bool true) ∧ Below w.heap.size w w' := by
  have HN := hide hN
  have HSR := hide hs
  have HMY : Hid (∀ W, Od W → Calls Tryd.prog 10 #[.agg (bV one32).toArray] W (Ans (.bool true) W)) := fun W hW => by rw [← may_one]; exact may_od one32 rfl dg_one W hW
  have HDC := hide (decode_once ao n cap xs w hs hn)
  have hb1 := bdd1
  generalize bV one32 = L1 at *
  clear hN hs
  go_enter Tryd.func3, Tryd.ntmps3
  go_wp2_with fail
  refine HDC.out.mono ?_
  rintro e U1 ⟨R, S, err, rfl, h1, h2, LB⟩
  have hS : Bx w [] U1 := ⟨fun x hx => (by cases hx), List.nodup_nil, fun x hx => (by cases hx), LB⟩
  by_cases he : err = 0
  · obtain ⟨lR, lS, dR, dS, hE⟩ := h2 he
    have HEN : Hid (∀ W, Calls Tryd.prog 11 #[.agg (sgL R S).toArray] W fun e w' => ∃ a m c, e = .returned (.slice a m c) ∧ OwnB w' W.heap.size (.slice a m c) xs ∧ Below W.heap.size W w') := fun W => by rw [← hE]; exact enc_any R S lR lS dR dS W
    have HEB : Hid (∀ x ∈ xs, 0 ≤ x ∧ x < 256) := HSR.out.hbyt
    have HLG : Hid ((sgL R S).length = 64) := sgL_len lR lS
    have HOG := hide (sgL_one R S)
    subst he
    generalize sgL R S = LG at *
    clear h1 h2 lR lS dR dS hE
    have hst := stSgn U1 HLG.out HOG.out
    have hS' : Bx w [(U1.heap.size, 26, LG)] (U1.alloc (.cells LG.toArray 26)) := hS.newAt 0 U1.heap.size rfl 26 LG _ rfl
    clear hS LB
    have hS := hS'
    clear hS'
    go_upto_region 2 with fail
    generalize U1.alloc (.cells LG.toArray 26) = U2 at hS ⊢
    generalize U1.heap.size = g3 at hS ⊢
    clear hst
    go_wp2
    have hS := hS.drew
    refine wp_region_held_drew (S := Bx w [(g3, 26, LG)]) (by kernel_rfl) (hS.pre 1) (fun _ => ?_)
    generalize U2.drew = U1 at hS ⊢
    have hP : Bx w [(g3, 26, LG)] U1 := hS.pre 1
    refine wpAnyH_take (i := 0) (v := ?_) rfl (by kernel_rfl) (by kernel_rfl) (by kernel_rfl) (fun _ _ _ h => h) (Or.inl ⟨by rfl, ?_⟩) (by assumption) ?_
    rotate_left
    · intro wq hSq
      have hl := ldSg HLG.out (hSq.get 0 rfl)
      go_simp
      try with_reducible rfl
    simp only [List.getElem_toArray, List.getElem_cons_zero, Act.put, List.setIfInBounds_toArray, List.set_cons_zero, List.set_cons_succ]
    refine wpAnyH_take (i := 3) (v := ?_) rfl (by kernel_rfl) (by kernel_rfl) (by kernel_rfl) (fun _ _ _ h => h) (Or.inl ⟨by rfl, ?_⟩) (by assumption) ?_
    rotate_left
    · intro wq hSq
      go_simp
      try with_reducible rfl
    simp only [List.getElem_toArray, List.getElem_cons_succ, List.getElem_cons_zero, Act.put, List.setIfInBounds_toArray, List.set_cons_zero, List.set_cons_succ]
    refine wpAnyH_take (i := 4) (v := ?_) rfl (by kernel_rfl) (by kernel_rfl) (by kernel_rfl) (fun _ _ _ h => h) (Or.inl ⟨by rfl, ?_⟩) (by assumption) ?_
    rotate_left
    · intro wq hSq
      have hl := (HSR.out.below hSq.bl).text
      go_simp
      try with_reducible rfl
    simp only [List.getElem_toArray, List.getElem_cons_succ, List.getElem_cons_zero, Act.put, List.setIfInBounds_toArray, List.set_cons_zero, List.set_cons_succ]
    clear hP
    refine wpAnyH_ready (rs := [1]) (by kernel_rfl) (by simp) ?_
    refine AllReadyH.cons rfl (fun Kq hKq => ?_) AllReadyH.nil
    go_simp
    refine (HEN.out _).mono ?_
    rintro e U2 ⟨ea, em, ec, rfl, oE, LB⟩
    have hS := hS.below LB
    clear LB
    have sE := hide (oE.toSrc HEB.out)
    clear oE
    refine hKq.out _ _ (hS.pre 1) (fun _ => ?_)
    clear hKq Kq
    have hP : Bx w [(g3, 26, LG)] U2 := hS.pre 1
    have hx := sE.out.text
    refine wpAnyH_ready (rs := [2]) (by kernel_rfl) (by simp) ?_
    refine AllReadyH.cons rfl (fun Kq hKq => ?_) AllReadyH.nil
    go_simp
    clear hx
    refine hKq.out _ _ (hS.pre 1) (fun _ => ?_)
    clear hKq Kq
    refine wpAnyH_take (i := 5) (v := ?_) rfl (by kernel_rfl) (by kernel_rfl) (by kernel_rfl) (fun _ _ _ h => h) (Or.inl ⟨by rfl, ?_⟩) (by assumption) ?_
    rotate_left
    · intro wq hSq
      go_simp
      try with_reducible rfl
    simp only [List.getElem_toArray, List.getElem_cons_succ, List.getElem_cons_zero, Act.put, List.setIfInBounds_toArray, List.set_cons_zero, List.set_cons_succ]
    refine wpAnyH_take (i := 6) (v := ?_) rfl (by kernel_rfl) (by kernel_rfl) (by kernel_rfl) (fun _ _ _ h => h) (Or.inl ⟨by rfl, ?_⟩) (by assumption) ?_
    rotate_left
    · intro wq hSq
      go_simp
      try with_reducible rfl
    simp only [List.getElem_toArray, List.getElem_cons_succ, List.getElem_cons_zero, Act.put, List.setIfInBounds_toArray, List.set_cons_zero, List.set_cons_succ]
    refine wpAnyH_take (i := 7) (v := ?_) rfl (by kernel_rfl) (by kernel_rfl) (by kernel_rfl) (fun _ _ _ h => h) (Or.inl ⟨by rfl, ?_⟩) (by assumption) ?_
    rotate_left
    · intro wq hSq
      have hl := hb1 wq
      go_simp
      try with_reducible rfl
    simp only [List.getElem_toArray, List.getElem_cons_succ, List.getElem_cons_zero, Act.put, List.setIfInBounds_toArray, List.set_cons_zero, List.set_cons_succ]
    clear hP
    refine wpAnyH_ready (rs := [8]) (by kernel_rfl) (by simp) ?_
    refine AllReadyH.cons rfl (fun Kq hKq => ?_) AllReadyH.nil
    go_simp
    refine (HMY.out _ (HN.out.below hS.bl)).mono ?_
    rintro e U3 ⟨rfl, LB⟩
    have hS := hS.below LB
    clear LB
    refine hKq.out _ _ (hS.pre 1) (fun _ => ?_)
    clear hKq Kq
    have hP : Bx w [(g3, 26, LG)] U3 := hS.pre 1
    refine wpAnyH_take (i := 9) (v := ?_) rfl (by kernel_rfl) (by kernel_rfl) (by kernel_rfl) (fun _ _ _ h => h) (Or.inl ⟨by rfl, ?_⟩) (by assumption) ?_
    rotate_left
    · intro wq hSq
      go_simp
      try with_reducible rfl
    simp only [List.getElem_toArray, List.getElem_cons_succ, List.getElem_cons_zero, Act.put, List.setIfInBounds_toArray, List.set_cons_zero, List.set_cons_succ]
    refine wpAnyH_ready (rs := [10]) (by kernel_rfl) (by simp) ?_
    refine AllReadyH.cons rfl (fun Kq hKq => ?_) AllReadyH.nil
    go_simp
    refine hKq.out _ _ (hS.pre 1) (fun _ => ?_)
    clear hKq Kq
    clear hP
    refine wpAnyH_done (by kernel_rfl) ?_ _
    have U9 := hide hS.bl
    clear hS sE
    go_wp2
    go_ret
    exact ⟨rfl, U9.out⟩
  · obtain ⟨rfl, rfl⟩ := h1 he
    have hbn : (err != 0) = true := by simpa using he
    rw [← sgZ_eq]
    have HLG : Hid (sgZ.length = 64) := rfl
    have HOG : Hid (∀ v ∈ sgZ, v.oneCell' = true) := sgL_one z32 z32
    have hbz := bds0
    have hqz := eqSgZ
    generalize sgZ = LG at *
    clear h1 h2 he
    have hst := stSgn U1 HLG.out HOG.out
    have hS' : Bx w [(U1.heap.size, 26, LG)] (U1.alloc (.cells LG.toArray 26)) := hS.newAt 0 U1.heap.size rfl 26 LG _ rfl
    clear hS LB
    have hS := hS'
    clear hS'
    go_upto_region 2 with fail
    generalize U1.alloc (.cells LG.toArray 26) = U2 at hS ⊢
    generalize U1.heap.size = g3 at hS ⊢
    clear hst
    have hl := ldSg HLG.out (hS.get 0 rfl)
    go_wp2_with fail
    refine (HMY.out _ (HN.out.below hS.bl)).mono ?_
    rintro e U3 ⟨rfl, LB⟩
    have U9 := hide (hS.below LB).bl
    clear hS LB hl hbz hqz
    go_wp2
    go_ret
    exact ⟨rfl, U9.out⟩

theorem once_walkU (ao : Option Addr) (n cap : Nat) (xs : List Int) (w : World) (hN : Od w) (hs : Src w ao n cap xs) (hn : n ≤ 1048576) :
    Calls Tryd.prog 3 #[.slice ao n cap] w fun e w' => e = .returned (.bool true) ∧ Below w.heap.size w w' := once_walk11 ao n cap xs w hN hs (by omega)

end Go.Proofs.YtnabmdpgibnkaabDoor

namespace Go.Proofs.YtnabmdpgibnkaabDoor
open Go.ChangeShapes Go.WideShapes Go.ChangeAt Go.RowKit

theorem Tryd.own : ownKnob Tryd.prog.godebug = none := by kernel_rfl
theorem Tryd.laidOut : laidOutB Tryd.prog = true := by kernel_rfl
theorem Tryd.cellsB : Tryd.prog.cellsOf 5 = 1 := by kernel_rfl
theorem Tryd.bytesB : Tryd.prog.bytesOf 5 = 1 := by kernel_rfl

theorem src_of_cells {W : World} {a : Addr} {len cap : Nat} {zs : List Int} (hl : len ≤ cap) (hm : cap ≤ maxLen) (hz : zs.length = cap) (hcell : ∀ i, i < zs.length → W.cell? (a.add i) = some (.int .u8 (zs.getD i 0)))
    (hwz : ∀ n ∈ zs, (Lit.int .u8 n).wf = true) : Src W (some a) len cap (zs.take len) := by
  refine ⟨by simp; omega, hl, hm, by simp, ?_, ?_⟩
  · intro hx
    have h0 : 0 < len ∧ 0 < zs.length := by
      rcases Nat.eq_zero_or_pos len with h | h
      · subst h; simp at hx
      · omega
    obtain ⟨b, off, spot⟩ := a
    have hc := hcell 0 h0.2
    have hspot : spot = none := by simpa [Addr.add] using World.cell?_spot hc
    subst hspot
    refine ⟨b, off, rfl, fun i hi => ?_⟩
    have hi' : i < len ∧ i < zs.length := by simp at hi; omega
    have := hcell i hi'.2
    rw [add_none] at this
    rw [this]
    simp [List.getD, hi'.1]
  · intro x hx
    have := hwz x (List.mem_of_mem_take hx)
    have := bounds_u8 this
    omega

/-- An argument of type []byte, as the row reads it. -/
theorem open_bytes {H : Type} {enc : TypeId × Value → H} {W : World} {a0 : Option Addr} {len cap : Nat} {d : DataW H} {p : List MemPlace}
    (h : DataW.Trod enc Tryd.prog W 0 (fun _ => true) true 22 (.slice a0 len cap) d p) :
    ∃ xs, Src W a0 len cap xs ∧ ((d = .nil ∧ len = 0 ∧ cap = 0) ∨ ∃ el sp, d = .slice el sp ∧ el.length + sp.length = cap) := by
  obtain ⟨fuel, hf⟩ := h
  rcases open_ints Tryd.underlying22 Tryd.underlying5 Tryd.cellsB hf with ⟨hcs, hx⟩ | ⟨x, l, c, zs, hcs, _, hl, hm, hz, hx, hcell, hwz⟩
  · simp [Value.cells] at hcs
    obtain ⟨rfl, rfl, rfl⟩ := hcs
    simp only [Prod.mk.injEq] at hx
    exact ⟨[], ⟨rfl, Nat.le_refl _, by decide, fun _ => ⟨rfl, rfl⟩, fun h => absurd rfl h, by simp⟩, .inl ⟨hx.1, rfl, rfl⟩⟩
  · simp [Value.cells] at hcs
    obtain ⟨rfl, rfl, rfl⟩ := hcs
    simp only [Prod.mk.injEq] at hx
    have hz' : zs.length = cap := by simpa using hz
    exact ⟨zs.take len, src_of_cells hl hm hz' hcell hwz, .inr ⟨_, _, hx.1, by simp [lits]; omega⟩⟩

end Go.Proofs.YtnabmdpgibnkaabDoor

namespace Go.Proofs.YtnabmdpgibnkaabDoor
open Go.ChangeShapes Go.WideShapes Go.ChangeAt Go.RowKit

theorem range_of_tab {W : World} {name : String} {g : Nat} {zs : List Int} (hg : Tryd.prog.globalNamed name = some g) (h : Lib.TabIs Tryd.prog W name .u64 zs) : W.rangeAt g 0 (zs.map (Value.int .u64)) := by
  intro j v hv
  have hj : j < zs.length := by have := (List.getElem?_eq_some_iff.1 hv).1; simpa using this
  have := h.cell hg j hj
  rw [Nat.zero_add, this]
  simp [List.getElem?_eq_getElem hj] at hv
  subst hv
  simp [List.getD, hj]

theorem tab_order {W : World} {l : List (String × DataW Unit)} (h : laidMetH Tryd.prog l W) (e : l.filter (fun x => x.1 == "chancery/curve.order") = [("chancery/curve.order", Rows.laid_chancery_curve_order)]) : W.rangeAt 2 0 ([17562291160714782033, 13611842547513532036, 18446744073709551615, 18446744069414584320].map (Value.int .u64)) := by
  have h1 := h.filter (fun x => x.1 == "chancery/curve.order")
  rw [e] at h1
  have h2 : laidMet Tryd.prog [("chancery/curve.order", Lib.tabData .u64 [17562291160714782033, 13611842547513532036, 18446744073709551615, 18446744069414584320])] W := h1
  exact range_of_tab (by kernel_rfl) (Lib.tabIs_of_head (g := 2) (t := 117) (by kernel_rfl) (by kernel_rfl) Tryd.underlying117 Tryd.underlying64 (by kernel_rfl) (by kernel_rfl) h2)

theorem tab_baseX {W : World} {l : List (String × DataW Unit)} (h : laidMetH Tryd.prog l W) (e : l.filter (fun x => x.1 == "chancery/curve.baseX") = [("chancery/curve.baseX", Rows.laid_chancery_curve_baseX)]) : W.rangeAt 0 0 ([17627433388654248598, 8575836109218198432, 17923454489921339634, 7716867327612699207].map (Value.int .u64)) := by
  have h1 := h.filter (fun x => x.1 == "chancery/curve.baseX")
  rw [e] at h1
  have h2 : laidMet Tryd.prog [("chancery/curve.baseX", Lib.tabData .u64 [17627433388654248598, 8575836109218198432, 17923454489921339634, 7716867327612699207])] W := h1
  exact range_of_tab (by kernel_rfl) (Lib.tabIs_of_head (g := 0) (t := 117) (by kernel_rfl) (by kernel_rfl) Tryd.underlying117 Tryd.underlying64 (by kernel_rfl) (by kernel_rfl) h2)

theorem tab_baseY {W : World} {l : List (String × DataW Unit)} (h : laidMetH Tryd.prog l W) (e : l.filter (fun x => x.1 == "chancery/curve.baseY") = [("chancery/curve.baseY", Rows.laid_chancery_curve_baseY)]) : W.rangeAt 1 0 ([14678990851816772085, 3156516839386865358, 10297457778147434006, 5756518291402817435].map (Value.int .u64)) := by
  have h1 := h.filter (fun x => x.1 == "chancery/curve.baseY")
  rw [e] at h1
  have h2 : laidMet Tryd.prog [("chancery/curve.baseY", Lib.tabData .u64 [14678990851816772085, 3156516839386865358, 10297457778147434006, 5756518291402817435])] W := h1
  exact range_of_tab (by kernel_rfl) (Lib.tabIs_of_head (g := 1) (t := 117) (by kernel_rfl) (by kernel_rfl) Tryd.underlying117 Tryd.underlying64 (by kernel_rfl) (by kernel_rfl) h2)

theorem tab_coefficient {W : World} {l : List (String × DataW Unit)} (h : laidMetH Tryd.prog l W) (e : l.filter (fun x => x.1 == "chancery/curve.coefficient") = [("chancery/curve.coefficient", Rows.laid_chancery_curve_coefficient)]) : W.rangeAt 3 0 ([4309448131093880907, 7285987128567378166, 12964664127075681980, 6540974713487397863].map (Value.int .u64)) := by
  have h1 := h.filter (fun x => x.1 == "chancery/curve.coefficient")
  rw [e] at h1
  have h2 : laidMet Tryd.prog [("chancery/curve.coefficient", Lib.tabData .u64 [4309448131093880907, 7285987128567378166, 12964664127075681980, 6540974713487397863])] W := h1
  exact range_of_tab (by kernel_rfl) (Lib.tabIs_of_head (g := 3) (t := 117) (by kernel_rfl) (by kernel_rfl) Tryd.underlying117 Tryd.underlying64 (by kernel_rfl) (by kernel_rfl) h2)

theorem tab_one {W : World} {l : List (String × DataW Unit)} (h : laidMetH Tryd.prog l W) (e : l.filter (fun x => x.1 == "chancery/curve.one") = [("chancery/curve.one", Rows.laid_chancery_curve_one)]) : W.rangeAt 4 0 ([1, 18446744069414584320, 18446744073709551615, 4294967294].map (Value.int .u64)) := by
  have h1 := h.filter (fun x => x.1 == "chancery/curve.one")
  rw [e] at h1
  have h2 : laidMet Tryd.prog [("chancery/curve.one", Lib.tabData .u64 [1, 18446744069414584320, 18446744073709551615, 4294967294])] W := h1
  exact range_of_tab (by kernel_rfl) (Lib.tabIs_of_head (g := 4) (t := 88) (by kernel_rfl) (by kernel_rfl) Tryd.underlying88 Tryd.underlying64 (by kernel_rfl) (by kernel_rfl) h2)

theorem tab_lift {W : World} {l : List (String × DataW Unit)} (h : laidMetH Tryd.prog l W) (e : l.filter (fun x => x.1 == "chancery/curve.lift") = [("chancery/curve.lift", Rows.laid_chancery_curve_lift)]) : W.rangeAt 6 0 ([3, 18446744056529682431, 18446744073709551614, 21474836477].map (Value.int .u64)) := by
  have h1 := h.filter (fun x => x.1 == "chancery/curve.lift")
  rw [e] at h1
  have h2 : laidMet Tryd.prog [("chancery/curve.lift", Lib.tabData .u64 [3, 18446744056529682431, 18446744073709551614, 21474836477])] W := h1
  exact range_of_tab (by kernel_rfl) (Lib.tabIs_of_head (g := 6) (t := 88) (by kernel_rfl) (by kernel_rfl) Tryd.underlying88 Tryd.underlying64 (by kernel_rfl) (by kernel_rfl) h2)

end Go.Proofs.YtnabmdpgibnkaabDoor

namespace Go.Proofs.YtnabmdpgibnkaabDoor
open Go.ChangeShapes Go.WideShapes Go.ChangeAt Go.RowKit

theorem Tryd.cellsV : Tryd.prog.cellsOf 22 = 1 := by kernel_rfl

theorem bulk_pos {H : Type} (d : DataW H) : 1 ≤ Rows.uptoBulk d := by
  cases d with
  | lit l => cases l <;> simp [Rows.uptoBulk]
  | nil | ptr _ | slice _ _ | agg _ | iface _ _ | map _ | held _ => simp [Rows.uptoBulk]

theorem bulk_len {H : Type} : ∀ l : List (DataW H), l.length ≤ Rows.uptoBulkAll l
  | [] => by simp [Rows.uptoBulkAll]
  | d :: r => by have h1 := bulk_pos d; have h2 := bulk_len r; simp only [Rows.uptoBulkAll, List.length_cons]; omega

theorem bulk_mem {H : Type} : ∀ (l : List (DataW H)) (d : DataW H), d ∈ l → Rows.uptoBulk d ≤ Rows.uptoBulkAll l
  | [], _, h => by cases h
  | x :: r, d, h => by
    simp only [Rows.uptoBulkAll]
    rcases List.mem_cons.1 h with rfl | h
    · omega
    · have := bulk_mem r d h; omega

theorem bulk_slice {H : Type} (el sp : List (DataW H)) : Rows.uptoBulk (.slice el sp) = Rows.uptoBulkAll el + Rows.uptoBulkAll sp + 1 := by simp only [Rows.uptoBulk]

theorem bulk_bytes {H : Type} {d : DataW H} {len cap : Nat} (hc : len ≤ cap) (h : (d = .nil ∧ len = 0 ∧ cap = 0) ∨ ∃ el sp, d = .slice el sp ∧ el.length + sp.length = cap) : len ≤ Rows.uptoBulk d := by
  rcases h with ⟨_, rfl, _⟩ | ⟨el, sp, rfl, h⟩
  · omega
  · have h1 := bulk_len el
    have h2 := bulk_len sp
    rw [bulk_slice]
    omega

end Go.Proofs.YtnabmdpgibnkaabDoor
