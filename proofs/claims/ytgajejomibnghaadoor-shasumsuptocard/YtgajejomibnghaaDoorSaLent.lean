/-
  The law's lent: pieces with marks in the room behind them.
-/
import Derived.Test.YtgajejomibnghaaDoorSaLents
import Derived.Test.YtgajejomibnghaaDoorSaJoin
import Derived.Deep.DeepCutAuto
namespace Go.Proofs.YtgajejomibnghaaDoor
open Go.RowKit Go.IntWalk

theorem below_drewT {n : Nat} {w V : World} (h : Below n w V) : Below n w V.drew := ⟨h.os, h.tape, h.output, h.size, h.block⟩

set_option maxRecDepth 100000 in
set_option maxHeartbeats 4000000 in
theorem lentP_any (po : Option Addr) (pn pc : Nat) (ls : List (List Int)) (w : World) (hP : Pcs0 w po pn ls) (hpn : pn ≤ 1048576) (hb : ls.flatten.length ≤ 1048576) :
    Calls Tryd.prog 7 #[.slice po pn pc] w fun e w' => ∃ ao co vs, e = .returned (.slice ao pn co) ∧ OwnV w' w.heap.size (.slice ao pn co) vs ∧ Lents w' w.heap.size vs ls ∧ vs.length = pn ∧ Below w.heap.size w w' := by
  have HP := hide hP
  have HLL := hide hP.len
  have HFb := hide hb
  have pI : (pn : Int) ≤ 1048576 := by omega
  clear hP hb
  go_enter Tryd.func7, Tryd.ntmps7
  go_wp2
  go_loopw [3, 4] (fun v i wr => ∃ (k : Nat) (ao : Option Addr) (co : Nat) (vs : List Value), v = .slice ao k co ∧ i = .int .i64 (k : Int) ∧ k ≤ pn ∧ Hid (OwnV wr w.heap.size (.slice ao k co) vs) ∧ Hid (Lents wr w.heap.size vs (ls.take k)) ∧ Hid (vs.length = k) ∧ Hid (Below w.heap.size w wr)) (fun _ i _ => pn - (intOf i).toNat)
  case atStart => exact ⟨0, none, 0, [], rfl, rfl, by omega, OwnV.nil _ _, Lents.nil _ _, rfl, Below.refl _ _⟩
  case round =>
    obtain ⟨k, ao, co, vs, rfl, rfl, hk, HO, HLt, HVL, HB⟩ := hrel
    by_cases hlt : k < pn
    · have kI : (k : Int) < (pn : Int) := by omega
      obtain ⟨b, off, rfl, hr⟩ := HP.out.row (by omega)
      obtain ⟨a', m, c', hc0, hs0⟩ := hr k hlt
      have HCC : Hid (∀ W, Below w.heap.size w W → W.cell? ⟨b, off + k, none⟩ = some (.slice a' m c')) := fun W hW => (hW.cell (p := ⟨b, off + k, none⟩) (ltCell hc0)).trans hc0
      obtain ⟨l, hl⟩ : ∃ l, ls.getD k [] = l := ⟨_, rfl⟩
      rw [hl] at hs0
      have HLe := hide hl
      have HS := hide (hs0.below HB.out).toS
      have HLl := hide hs0.hlen
      have hmb : m ≤ 1048576 := by
        have h3 := flat_take ls k (by rw [HLL.out]; exact hlt)
        have h4 := flat_le ls (k + 1)
        have h5 := HFb.out
        rw [h3, List.length_append, hl, HLl.out] at h4
        omega
      have mI : (m : Int) ≤ 1048576 := by omega
      have HBd := hide (below_drewT HB.out)
      clear hr hc0 hs0 hl
      go_wp2
      refine wp_region_held_drew (S := fun W => W.cell? ⟨b, off + k, none⟩ = some (.slice a' m c')) (by kernel_rfl) (HCC.out _ HBd.out) (fun hS0 => ?_)
      have HUd : Hid (Below wr.heap.size wr wr.drew) := ⟨rfl, rfl, rfl, Nat.le_refl _, fun _ _ => rfl⟩
      have HSd := hide (HS.out.below HUd.out)
      have HZD : Hid (wr.drew.heap.size = wr.heap.size) := rfl
      generalize wr.drew = U at hS0 HBd HUd HSd HZD ⊢
      have hzU : wr.heap.size ≤ U.heap.size := by have := HZD.out; omega
      refine wpAnyH_take (i := 0) (v := ?_) rfl (by kernel_rfl) (by kernel_rfl) (by kernel_rfl) (fun _ _ _ h => h) (Or.inl ⟨by rfl, ?_⟩) (by assumption) ?_
      rotate_left
      · intro wq hSq
        go_simp
        try with_reducible rfl
      simp only [List.getElem_toArray, List.getElem_cons_zero, Act.put, List.setIfInBounds_toArray, List.set_cons_zero, List.set_cons_succ]
      refine wpAnyH_take (i := 2) (v := ?_) rfl (by kernel_rfl) (by kernel_rfl) (by kernel_rfl) (fun _ _ _ h => h) (Or.inl ⟨by rfl, ?_⟩) (by assumption) ?_
      rotate_left
      · intro wq hSq
        go_simp
        try with_reducible rfl
      simp only [List.getElem_toArray, List.getElem_cons_succ, List.getElem_cons_zero, Act.put, List.setIfInBounds_toArray, List.set_cons_zero, List.set_cons_succ]
      refine wpAnyH_take (i := 3) (v := ?_) rfl (by kernel_rfl) (by kernel_rfl) (by kernel_rfl) (fun _ _ _ h => h) (Or.inl ⟨by rfl, ?_⟩) (by assumption) ?_
      rotate_left
      · intro wq hSq
        go_simp
        try with_reducible rfl
      simp only [List.getElem_toArray, List.getElem_cons_succ, List.getElem_cons_zero, Act.put, List.setIfInBounds_toArray, List.set_cons_zero, List.set_cons_succ]
      refine wpAnyH_take (i := 4) (v := ?_) rfl (by kernel_rfl) (by kernel_rfl) (by kernel_rfl) (fun _ _ _ h => h) (Or.inl ⟨by rfl, ?_⟩) (by assumption) ?_
      rotate_left
      · intro wq hSq
        go_simp
        try with_reducible rfl
      simp only [List.getElem_toArray, List.getElem_cons_succ, List.getElem_cons_zero, Act.put, List.setIfInBounds_toArray, List.set_cons_zero, List.set_cons_succ]
      refine wpAnyH_take (i := 5) (v := ?_) rfl (by kernel_rfl) (by kernel_rfl) (by kernel_rfl) (fun _ _ _ h => h) (Or.inl ⟨by rfl, ?_⟩) (by assumption) ?_
      rotate_left
      · intro wq hSq
        go_simp
        try with_reducible rfl
      simp only [List.getElem_toArray, List.getElem_cons_succ, List.getElem_cons_zero, Act.put, List.setIfInBounds_toArray, List.set_cons_zero, List.set_cons_succ]
      refine wpAnyH_take (i := 9) (v := ?_) rfl (by kernel_rfl) (by kernel_rfl) (by kernel_rfl) (fun _ _ _ h => h) (Or.inl ⟨by rfl, ?_⟩) (by assumption) ?_
      rotate_left
      · intro wq hSq
        go_simp
        try with_reducible rfl
      simp only [List.getElem_toArray, List.getElem_cons_succ, List.getElem_cons_zero, Act.put, List.setIfInBounds_toArray, List.set_cons_zero, List.set_cons_succ]
      refine wpAnyH_take (i := 10) (v := ?_) rfl (by kernel_rfl) (by kernel_rfl) (by kernel_rfl) (fun _ _ _ h => h) (Or.inl ⟨by rfl, ?_⟩) (by assumption) ?_
      rotate_left
      · intro wq hSq
        go_simp
        try with_reducible rfl
      simp only [List.getElem_toArray, List.getElem_cons_succ, List.getElem_cons_zero, Act.put, List.setIfInBounds_toArray, List.set_cons_zero, List.set_cons_succ]
      refine wpAnyH_take (i := 11) (v := ?_) rfl (by kernel_rfl) (by kernel_rfl) (by kernel_rfl) (fun _ _ _ h => h) (Or.inl ⟨by rfl, ?_⟩) (by assumption) ?_
      rotate_left
      · intro wq hSq
        go_simp
        try with_reducible rfl
      simp only [List.getElem_toArray, List.getElem_cons_succ, List.getElem_cons_zero, Act.put, List.setIfInBounds_toArray, List.set_cons_zero, List.set_cons_succ]
      refine wpAnyH_take (i := 12) (v := ?_) rfl (by kernel_rfl) (by kernel_rfl) (by kernel_rfl) (fun _ _ _ h => h) (Or.inl ⟨by rfl, ?_⟩) (by assumption) ?_
      rotate_left
      · intro wq hSq
        go_simp
        try with_reducible rfl
      simp only [List.getElem_toArray, List.getElem_cons_succ, List.getElem_cons_zero, Act.put, List.setIfInBounds_toArray, List.set_cons_zero, List.set_cons_succ]
      refine wpAnyH_take (i := 13) (v := ?_) rfl (by kernel_rfl) (by kernel_rfl) (by kernel_rfl) (fun _ _ _ h => h) (Or.inl ⟨by rfl, ?_⟩) (by assumption) ?_
      rotate_left
      · intro wq hSq
        go_simp
        try with_reducible rfl
      simp only [List.getElem_toArray, List.getElem_cons_succ, List.getElem_cons_zero, Act.put, List.setIfInBounds_toArray, List.set_cons_zero, List.set_cons_succ]
      refine wpAnyH_ready (rs := [1, 7]) (by kernel_rfl) (by simp) ?_
      refine AllReadyH.cons rfl (fun Kq hKq => ?_) (AllReadyH.cons rfl (fun Kq hKq => ?_) AllReadyH.nil)
      · go_simp
        refine hKq.out _ _ (HCC.out _ (HBd.out.alloc HBd.out.size _)) (fun _ => ?_)
        clear hKq Kq
        refine wpAnyH_ready (rs := [6, 7]) (by kernel_rfl) (by simp) ?_
        refine AllReadyH.cons rfl (fun Kq hKq => ?_) (AllReadyH.cons rfl (fun Kq hKq => ?_) AllReadyH.nil)
        · refine step_appN _ rfl (.tmp 12) (.tmp 16) rfl wr.heap.size (.slice (some ⟨U.heap.size, 0, none⟩) 0 0) [] ?_ ?_ a' m c' l ?_ ?_ m ?_ ?_ ?_ ?_ ?_
          · exact rfl
          · exact OwnB.lit wr.heap.size [] _ 0 rfl rfl hzU (by decide)
          · exact rfl
          · exact HSd.out.alloc _
          · simpa using HLl.out
          · exact .inl (by simp)
          · omega
          · (simp; omega)
          intro g1 c1 w1 ho1 hb1 hl1 hc1 hm1 hg1
          have hz1 := hg1.size
          have O1 : Hid (OwnB w1 wr.heap.size (.slice (some ⟨g1, 0, none⟩) m c1) l) := by unfold Hid; simpa using ho1
          have B1 : Hid (Below wr.heap.size wr w1) := (HUd.out.alloc hzU _).grown hg1 (by simp; omega) (fun q hq => by simp [Value.ownBlock] at hq; omega)
          have BW1 : Hid (Below w.heap.size w w1) := HB.out.trans (B1.out.mono HB.out.size)
          refine hKq.out _ _ (HCC.out _ BW1.out) (fun _ => ?_)
          clear hKq Kq
          simp only [Act.put, List.setIfInBounds_toArray]
          refine wpAnyH_ready (rs := [7]) (by kernel_rfl) (by simp) ?_
          refine AllReadyH.cons rfl (fun Kq hKq => ?_) AllReadyH.nil
          go_simp
          refine hKq.out _ _ (HCC.out _ (BW1.out.alloc BW1.out.size _)) (fun _ => ?_)
          clear hKq Kq
          refine wpAnyH_ready (rs := [8]) (by kernel_rfl) (by simp) ?_
          refine AllReadyH.cons rfl (fun Kq hKq => ?_) AllReadyH.nil
          refine step_appN _ rfl (.tmp 17) (.tmp 18) rfl wr.heap.size (.slice (some ⟨g1, 0, none⟩) m c1) l ?_ ?_ (some ⟨w1.heap.size, 0, none⟩) 1 1 [90] ?_ ?_ (m + 1) ?_ ?_ ?_ ?_ ?_
          · exact rfl
          · exact O1.out.alloc _
          · exact rfl
          · exact Src.lit [90] _ 1 rfl rfl (by simp) (by decide)
          · simpa using HLl.out
          · exact .inl (by simp)
          · omega
          · (have := B1.out.size; simp; omega)
          intro g2 c2 w2 ho2 hb2 hl2 hc2 hm2 hg2
          have HB2 : Hid (Below wr.heap.size wr w2) := (B1.out.alloc B1.out.size _).grown hg2 (by have := B1.out.size; simp; omega) (fun q hq => by simp [Value.ownBlock] at hq; omega)
          have hc2I : (m : Int) ≤ (c2 : Int) := by omega
          have hz2 := HB2.out.size
          have BW2 : Hid (Below w.heap.size w w2) := HB.out.trans (HB2.out.mono HB.out.size)
          refine hKq.out _ _ (HCC.out _ BW2.out) (fun _ => ?_)
          clear hKq Kq
          simp only [Act.put, List.setIfInBounds_toArray]
          refine wpAnyH_take (i := 14) (v := ?_) rfl (by kernel_rfl) (by kernel_rfl) (by kernel_rfl) (fun _ _ _ h => h) (Or.inl ⟨by rfl, ?_⟩) (by assumption) ?_
          rotate_left
          · intro wq hSq
            go_simp
            try with_reducible rfl
          simp only [List.getElem_toArray, List.getElem_cons_succ, List.getElem_cons_zero, Act.put, List.setIfInBounds_toArray, List.set_cons_zero, List.set_cons_succ]
          refine wpAnyH_ready (rs := [15]) (by kernel_rfl) (by simp) ?_
          refine AllReadyH.cons rfl (fun Kq hKq => ?_) AllReadyH.nil
          go_simp
          refine hKq.out _ _ (HCC.out _ (BW2.out.alloc BW2.out.size _)) (fun _ => ?_)
          clear hKq Kq
          refine wpAnyH_ready (rs := [16]) (by kernel_rfl) (by simp) ?_
          refine AllReadyH.cons rfl (fun Kq hKq => ?_) AllReadyH.nil
          have HV2 := hide ((HO.out.belowA (show Below wr.heap.size wr w2 from HB2.out)).alloc (.cells #[.slice (some ⟨g2, 0, none⟩) m c2] 22))
          refine step_appV _ rfl (.tmp 11) (.tmp 26) rfl w.heap.size (.slice ao k co) vs ?_ ?_ w2.heap.size (some ⟨g2, 0, none⟩) m c2 ?_ ?_ (k + 1) ?_ ?_ ?_ ?_
          · exact rfl
          · exact HV2.out
          · exact rfl
          · simp
          · have := HVL.out; omega
          · omega
          · have := HB.out.size; simp; omega
          intro g3 c3 w3 ho3 hb3 hl3 hc3 hm3 hg3
          have HO2 : Hid (OwnB w2 wr.heap.size (.slice (some ⟨g2, 0, none⟩) (m + 1) c2) (l ++ [90])) := ho2
          have hgl2 : g2 < w2.heap.size := hl2
          have B3 : Hid (Below w.heap.size w w3) := (BW2.out.alloc BW2.out.size _).grown hg3 (by have := BW2.out.size; simp; omega) (fun q hq => (HO.out.lt q hq).1)
          have L3 : Hid (Lents w3 w.heap.size (vs ++ [.slice (some ⟨g2, 0, none⟩) m c2]) (ls.take (k + 1))) := by
            have hLA := (HLt.out.belowA (show Below wr.heap.size wr w2 from HB2.out)).belowA (show Below w2.heap.size w2 (w2.alloc (.cells #[.slice (some ⟨g2, 0, none⟩) m c2] 22)) from (Below.refl _ _).alloc (Nat.le_refl _) _)
            have hLG := hLA.grown hg3 (fun g n c xs hx _ he => own_types hx HV2.out he)
            have hOG := (HO2.out.alloc (.cells #[.slice (some ⟨g2, 0, none⟩) m c2] 22)).kept hg3 (.inr fun e => own_types (HO2.out.alloc (.cells #[.slice (some ⟨g2, 0, none⟩) m c2] 22)) HV2.out e.symm)
            have e1 : ls.take (k + 1) = ls.take k ++ [l] := by rw [List.take_succ_eq_append_getElem (by rw [HLL.out]; exact hlt)]; congr 2; rw [← HLe.out]; simp [List.getD, show k < ls.length by rw [HLL.out]; exact hlt]
            unfold Hid
            rw [e1]
            exact hLG.snoc g2 m c2 l HLl.out hc2 hm2 (by have := HB.out.size; omega) (by have := hg3.size; simp at this; omega) (hOG.rebase HB.out.size)
          refine hKq.out _ _ (HCC.out _ B3.out) (fun _ => ?_)
          clear hKq Kq
          simp only [Act.put]
          refine wpAnyH_ready (rs := [17]) (by kernel_rfl) (by simp) ?_
          refine AllReadyH.cons rfl (fun Kq hKq => ?_) AllReadyH.nil
          go_simp
          refine hKq.out _ _ (HCC.out _ B3.out) (fun _ => ?_)
          clear hKq Kq
          refine wpAnyH_done (by kernel_rfl) ?_ _
          have V3 := hide ho3
          have HV3L : Hid ((vs ++ [Value.slice (some ⟨g2, 0, none⟩) m c2]).length = k + 1) := by unfold Hid; rw [List.length_append, HVL.out]; rfl
          clear ho1 ho2 ho3 hg1 hg2 hg3 HV2 HO2 HB2 BW2
          go_wp2
          go_roundw
          case rel => exact ⟨k + 1, some ⟨g3, 0, none⟩, c3, vs ++ [.slice (some ⟨g2, 0, none⟩) m c2], rfl, by go_num, by omega, V3, L3, HV3L, B3⟩
          case measure => simp [intOf]; omega
        · go_simp
          refine hKq.out _ _ (HCC.out _ ((HBd.out.alloc HBd.out.size _).alloc (by have := HBd.out.size; simp; omega) _)) (fun _ => ?_)
          clear hKq Kq
          refine wpAnyH_ready (rs := [6]) (by kernel_rfl) (by simp) ?_
          refine AllReadyH.cons rfl (fun Kq hKq => ?_) AllReadyH.nil
          refine step_appN _ rfl (.tmp 12) (.tmp 16) rfl wr.heap.size (.slice (some ⟨U.heap.size, 0, none⟩) 0 0) [] ?_ ?_ a' m c' l ?_ ?_ m ?_ ?_ ?_ ?_ ?_
          · exact rfl
          · exact (OwnB.lit wr.heap.size [] _ 0 rfl rfl hzU (by decide)).alloc _
          · exact rfl
          · exact (HSd.out.alloc _).alloc _
          · simpa using HLl.out
          · exact .inl (by simp)
          · omega
          · (simp; omega)
          intro g1 c1 w1 ho1 hb1 hl1 hc1 hm1 hg1
          have hz1 := hg1.size
          have O1 : Hid (OwnB w1 wr.heap.size (.slice (some ⟨g1, 0, none⟩) m c1) l) := by unfold Hid; simpa using ho1
          have B1 : Hid (Below wr.heap.size wr w1) := ((HUd.out.alloc hzU _).alloc (by simp; omega) _).grown hg1 (by simp; omega) (fun q hq => by simp [Value.ownBlock] at hq; omega)
          have BW1 : Hid (Below w.heap.size w w1) := HB.out.trans (B1.out.mono HB.out.size)
          refine hKq.out _ _ (HCC.out _ BW1.out) (fun _ => ?_)
          clear hKq Kq
          simp only [Act.put]
          refine wpAnyH_ready (rs := [8]) (by kernel_rfl) (by simp) ?_
          refine AllReadyH.cons rfl (fun Kq hKq => ?_) AllReadyH.nil
          refine step_appN _ rfl (.tmp 17) (.tmp 18) rfl wr.heap.size (.slice (some ⟨g1, 0, none⟩) m c1) l ?_ ?_ (some ⟨U.heap.size + 1, 0, none⟩) 1 1 [90] ?_ ?_ (m + 1) ?_ ?_ ?_ ?_ ?_
          · exact rfl
          · exact O1.out
          · exact rfl
          · exact (Src.litAt [90] _ 1 (U.heap.size + 1) rfl rfl (by simp) (by decide) (by simp)).grown hg1 (fun b' o' h _ => by cases h; simp [Value.ownBlock])
          · simpa using HLl.out
          · exact .inl (by simp)
          · omega
          · (exact B1.out.size)
          intro g2 c2 w2 ho2 hb2 hl2 hc2 hm2 hg2
          have HB2 : Hid (Below wr.heap.size wr w2) := B1.out.grown hg2 B1.out.size (fun q hq => by simp [Value.ownBlock] at hq; omega)
          have hc2I : (m : Int) ≤ (c2 : Int) := by omega
          have hz2 := HB2.out.size
          have BW2 : Hid (Below w.heap.size w w2) := HB.out.trans (HB2.out.mono HB.out.size)
          refine hKq.out _ _ (HCC.out _ BW2.out) (fun _ => ?_)
          clear hKq Kq
          simp only [Act.put, List.setIfInBounds_toArray]
          refine wpAnyH_take (i := 14) (v := ?_) rfl (by kernel_rfl) (by kernel_rfl) (by kernel_rfl) (fun _ _ _ h => h) (Or.inl ⟨by rfl, ?_⟩) (by assumption) ?_
          rotate_left
          · intro wq hSq
            go_simp
            try with_reducible rfl
          simp only [List.getElem_toArray, List.getElem_cons_succ, List.getElem_cons_zero, Act.put, List.setIfInBounds_toArray, List.set_cons_zero, List.set_cons_succ]
          refine wpAnyH_ready (rs := [15]) (by kernel_rfl) (by simp) ?_
          refine AllReadyH.cons rfl (fun Kq hKq => ?_) AllReadyH.nil
          go_simp
          refine hKq.out _ _ (HCC.out _ (BW2.out.alloc BW2.out.size _)) (fun _ => ?_)
          clear hKq Kq
          refine wpAnyH_ready (rs := [16]) (by kernel_rfl) (by simp) ?_
          refine AllReadyH.cons rfl (fun Kq hKq => ?_) AllReadyH.nil
          have HV2 := hide ((HO.out.belowA (show Below wr.heap.size wr w2 from HB2.out)).alloc (.cells #[.slice (some ⟨g2, 0, none⟩) m c2] 22))
          refine step_appV _ rfl (.tmp 11) (.tmp 26) rfl w.heap.size (.slice ao k co) vs ?_ ?_ w2.heap.size (some ⟨g2, 0, none⟩) m c2 ?_ ?_ (k + 1) ?_ ?_ ?_ ?_
          · exact rfl
          · exact HV2.out
          · exact rfl
          · simp
          · have := HVL.out; omega
          · omega
          · have := HB.out.size; simp; omega
          intro g3 c3 w3 ho3 hb3 hl3 hc3 hm3 hg3
          have HO2 : Hid (OwnB w2 wr.heap.size (.slice (some ⟨g2, 0, none⟩) (m + 1) c2) (l ++ [90])) := ho2
          have hgl2 : g2 < w2.heap.size := hl2
          have B3 : Hid (Below w.heap.size w w3) := (BW2.out.alloc BW2.out.size _).grown hg3 (by have := BW2.out.size; simp; omega) (fun q hq => (HO.out.lt q hq).1)
          have L3 : Hid (Lents w3 w.heap.size (vs ++ [.slice (some ⟨g2, 0, none⟩) m c2]) (ls.take (k + 1))) := by
            have hLA := (HLt.out.belowA (show Below wr.heap.size wr w2 from HB2.out)).belowA (show Below w2.heap.size w2 (w2.alloc (.cells #[.slice (some ⟨g2, 0, none⟩) m c2] 22)) from (Below.refl _ _).alloc (Nat.le_refl _) _)
            have hLG := hLA.grown hg3 (fun g n c xs hx _ he => own_types hx HV2.out he)
            have hOG := (HO2.out.alloc (.cells #[.slice (some ⟨g2, 0, none⟩) m c2] 22)).kept hg3 (.inr fun e => own_types (HO2.out.alloc (.cells #[.slice (some ⟨g2, 0, none⟩) m c2] 22)) HV2.out e.symm)
            have e1 : ls.take (k + 1) = ls.take k ++ [l] := by rw [List.take_succ_eq_append_getElem (by rw [HLL.out]; exact hlt)]; congr 2; rw [← HLe.out]; simp [List.getD, show k < ls.length by rw [HLL.out]; exact hlt]
            unfold Hid
            rw [e1]
            exact hLG.snoc g2 m c2 l HLl.out hc2 hm2 (by have := HB.out.size; omega) (by have := hg3.size; simp at this; omega) (hOG.rebase HB.out.size)
          refine hKq.out _ _ (HCC.out _ B3.out) (fun _ => ?_)
          clear hKq Kq
          simp only [Act.put]
          refine wpAnyH_ready (rs := [17]) (by kernel_rfl) (by simp) ?_
          refine AllReadyH.cons rfl (fun Kq hKq => ?_) AllReadyH.nil
          go_simp
          refine hKq.out _ _ (HCC.out _ B3.out) (fun _ => ?_)
          clear hKq Kq
          refine wpAnyH_done (by kernel_rfl) ?_ _
          have V3 := hide ho3
          have HV3L : Hid ((vs ++ [Value.slice (some ⟨g2, 0, none⟩) m c2]).length = k + 1) := by unfold Hid; rw [List.length_append, HVL.out]; rfl
          clear ho1 ho2 ho3 hg1 hg2 hg3 HV2 HO2 HB2 BW2
          go_wp2
          go_roundw
          case rel => exact ⟨k + 1, some ⟨g3, 0, none⟩, c3, vs ++ [.slice (some ⟨g2, 0, none⟩) m c2], rfl, by go_num, by omega, V3, L3, HV3L, B3⟩
          case measure => simp [intOf]; omega
      · go_simp
        refine hKq.out _ _ (HCC.out _ (HBd.out.alloc HBd.out.size _)) (fun _ => ?_)
        clear hKq Kq
        refine wpAnyH_ready (rs := [1]) (by kernel_rfl) (by simp) ?_
        refine AllReadyH.cons rfl (fun Kq hKq => ?_) AllReadyH.nil
        go_simp
        refine hKq.out _ _ (HCC.out _ ((HBd.out.alloc HBd.out.size _).alloc (by have := HBd.out.size; simp; omega) _)) (fun _ => ?_)
        clear hKq Kq
        refine wpAnyH_ready (rs := [6]) (by kernel_rfl) (by simp) ?_
        refine AllReadyH.cons rfl (fun Kq hKq => ?_) AllReadyH.nil
        refine step_appN _ rfl (.tmp 12) (.tmp 16) rfl wr.heap.size (.slice (some ⟨U.heap.size + 1, 0, none⟩) 0 0) [] ?_ ?_ a' m c' l ?_ ?_ m ?_ ?_ ?_ ?_ ?_
        · exact rfl
        · exact OwnB.litAt wr.heap.size (U.heap.size + 1) [] _ 0 rfl rfl (by simp) (by simp; omega) (by decide)
        · exact rfl
        · exact (HSd.out.alloc _).alloc _
        · simpa using HLl.out
        · exact .inl (by simp)
        · omega
        · (simp; omega)
        intro g1 c1 w1 ho1 hb1 hl1 hc1 hm1 hg1
        have hz1 := hg1.size
        have O1 : Hid (OwnB w1 wr.heap.size (.slice (some ⟨g1, 0, none⟩) m c1) l) := by unfold Hid; simpa using ho1
        have B1 : Hid (Below wr.heap.size wr w1) := ((HUd.out.alloc hzU _).alloc (by simp; omega) _).grown hg1 (by simp; omega) (fun q hq => by simp [Value.ownBlock] at hq; omega)
        have BW1 : Hid (Below w.heap.size w w1) := HB.out.trans (B1.out.mono HB.out.size)
        refine hKq.out _ _ (HCC.out _ BW1.out) (fun _ => ?_)
        clear hKq Kq
        simp only [Act.put]
        refine wpAnyH_ready (rs := [8]) (by kernel_rfl) (by simp) ?_
        refine AllReadyH.cons rfl (fun Kq hKq => ?_) AllReadyH.nil
        refine step_appN _ rfl (.tmp 17) (.tmp 18) rfl wr.heap.size (.slice (some ⟨g1, 0, none⟩) m c1) l ?_ ?_ (some ⟨U.heap.size, 0, none⟩) 1 1 [90] ?_ ?_ (m + 1) ?_ ?_ ?_ ?_ ?_
        · exact rfl
        · exact O1.out
        · exact rfl
        · exact ((Src.lit [90] _ 1 rfl rfl (by simp) (by decide)).alloc _).grown hg1 (fun b' o' h _ => by cases h; simp [Value.ownBlock])
        · simpa using HLl.out
        · exact .inl (by simp)
        · omega
        · (exact B1.out.size)
        intro g2 c2 w2 ho2 hb2 hl2 hc2 hm2 hg2
        have HB2 : Hid (Below wr.heap.size wr w2) := B1.out.grown hg2 B1.out.size (fun q hq => by simp [Value.ownBlock] at hq; omega)
        have hc2I : (m : Int) ≤ (c2 : Int) := by omega
        have hz2 := HB2.out.size
        have BW2 : Hid (Below w.heap.size w w2) := HB.out.trans (HB2.out.mono HB.out.size)
        refine hKq.out _ _ (HCC.out _ BW2.out) (fun _ => ?_)
        clear hKq Kq
        simp only [Act.put, List.setIfInBounds_toArray]
        refine wpAnyH_take (i := 14) (v := ?_) rfl (by kernel_rfl) (by kernel_rfl) (by kernel_rfl) (fun _ _ _ h => h) (Or.inl ⟨by rfl, ?_⟩) (by assumption) ?_
        rotate_left
        · intro wq hSq
          go_simp
          try with_reducible rfl
        simp only [List.getElem_toArray, List.getElem_cons_succ, List.getElem_cons_zero, Act.put, List.setIfInBounds_toArray, List.set_cons_zero, List.set_cons_succ]
        refine wpAnyH_ready (rs := [15]) (by kernel_rfl) (by simp) ?_
        refine AllReadyH.cons rfl (fun Kq hKq => ?_) AllReadyH.nil
        go_simp
        refine hKq.out _ _ (HCC.out _ (BW2.out.alloc BW2.out.size _)) (fun _ => ?_)
        clear hKq Kq
        refine wpAnyH_ready (rs := [16]) (by kernel_rfl) (by simp) ?_
        refine AllReadyH.cons rfl (fun Kq hKq => ?_) AllReadyH.nil
        have HV2 := hide ((HO.out.belowA (show Below wr.heap.size wr w2 from HB2.out)).alloc (.cells #[.slice (some ⟨g2, 0, none⟩) m c2] 22))
        refine step_appV _ rfl (.tmp 11) (.tmp 26) rfl w.heap.size (.slice ao k co) vs ?_ ?_ w2.heap.size (some ⟨g2, 0, none⟩) m c2 ?_ ?_ (k + 1) ?_ ?_ ?_ ?_
        · exact rfl
        · exact HV2.out
        · exact rfl
        · simp
        · have := HVL.out; omega
        · omega
        · have := HB.out.size; simp; omega
        intro g3 c3 w3 ho3 hb3 hl3 hc3 hm3 hg3
        have HO2 : Hid (OwnB w2 wr.heap.size (.slice (some ⟨g2, 0, none⟩) (m + 1) c2) (l ++ [90])) := ho2
        have hgl2 : g2 < w2.heap.size := hl2
        have B3 : Hid (Below w.heap.size w w3) := (BW2.out.alloc BW2.out.size _).grown hg3 (by have := BW2.out.size; simp; omega) (fun q hq => (HO.out.lt q hq).1)
        have L3 : Hid (Lents w3 w.heap.size (vs ++ [.slice (some ⟨g2, 0, none⟩) m c2]) (ls.take (k + 1))) := by
          have hLA := (HLt.out.belowA (show Below wr.heap.size wr w2 from HB2.out)).belowA (show Below w2.heap.size w2 (w2.alloc (.cells #[.slice (some ⟨g2, 0, none⟩) m c2] 22)) from (Below.refl _ _).alloc (Nat.le_refl _) _)
          have hLG := hLA.grown hg3 (fun g n c xs hx _ he => own_types hx HV2.out he)
          have hOG := (HO2.out.alloc (.cells #[.slice (some ⟨g2, 0, none⟩) m c2] 22)).kept hg3 (.inr fun e => own_types (HO2.out.alloc (.cells #[.slice (some ⟨g2, 0, none⟩) m c2] 22)) HV2.out e.symm)
          have e1 : ls.take (k + 1) = ls.take k ++ [l] := by rw [List.take_succ_eq_append_getElem (by rw [HLL.out]; exact hlt)]; congr 2; rw [← HLe.out]; simp [List.getD, show k < ls.length by rw [HLL.out]; exact hlt]
          unfold Hid
          rw [e1]
          exact hLG.snoc g2 m c2 l HLl.out hc2 hm2 (by have := HB.out.size; omega) (by have := hg3.size; simp at this; omega) (hOG.rebase HB.out.size)
        refine hKq.out _ _ (HCC.out _ B3.out) (fun _ => ?_)
        clear hKq Kq
        simp only [Act.put]
        refine wpAnyH_ready (rs := [17]) (by kernel_rfl) (by simp) ?_
        refine AllReadyH.cons rfl (fun Kq hKq => ?_) AllReadyH.nil
        go_simp
        refine hKq.out _ _ (HCC.out _ B3.out) (fun _ => ?_)
        clear hKq Kq
        refine wpAnyH_done (by kernel_rfl) ?_ _
        have V3 := hide ho3
        have HV3L : Hid ((vs ++ [Value.slice (some ⟨g2, 0, none⟩) m c2]).length = k + 1) := by unfold Hid; rw [List.length_append, HVL.out]; rfl
        clear ho1 ho2 ho3 hg1 hg2 hg3 HV2 HO2 HB2 BW2
        go_wp2
        go_roundw
        case rel => exact ⟨k + 1, some ⟨g3, 0, none⟩, c3, vs ++ [.slice (some ⟨g2, 0, none⟩) m c2], rfl, by go_num, by omega, V3, L3, HV3L, B3⟩
        case measure => simp [intOf]; omega
    · obtain rfl : k = pn := by omega
      have e : ls.take k = ls := List.take_of_length_le (by rw [HLL.out]; exact Nat.le_refl _)
      rw [e] at HLt
      clear e
      go_wp2
      go_ret
      exact ⟨ao, co, vs, rfl, HO.out, HLt.out, HVL.out, HB.out⟩

end Go.Proofs.YtgajejomibnghaaDoor
