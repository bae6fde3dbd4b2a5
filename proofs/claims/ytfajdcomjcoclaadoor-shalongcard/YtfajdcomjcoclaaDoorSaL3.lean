/-
  The statement ShaLong: its walk.
-/
import Derived.Test.YtfajdcomjcoclaaDoorSaZer
import Derived.Test.YtfajdcomjcoclaaDoorSaL2
namespace Go.Proofs.YtfajdcomjcoclaaDoor
open Go.RowKit Go.IntWalk

attribute [local go_sem ↓] ld_words ld_part ld_sched ld_hash ld_dig ld_arr st_words st_part st_sched st_hash st_dig st_arr ix_words bd_hash bd_keyed bd_dig eq_dig

set_option maxRecDepth 100000 in
set_option maxHeartbeats 4000000 in
theorem long_short (a : Option Addr) (n c : Nat) (key : List Int) (a1 : Option Addr) (n1 c1 : Nat) (bs : List Int) (w : World) (hs : SrcG .u8 256 w a n c key) (hs1 : SrcG .u8 256 w a1 n1 c1 bs) (hn : n ≤ 64) (hn1 : n1 ≤ 140737488351232) (hT : Tabs w) :
    Calls Tryd.prog 7 #[.slice a n c, .slice a1 n1 c1] w fun e w' => e = .returned (.bool true) ∧ Below w.heap.size w w' := by
  have HS := hide hs
  have HS1 := hide hs1
  have HT := hide hT
  have HLt := hide hT.lt
  have HN1 := hide hn1
  have hlk := hs.hlen
  have hnI : (n : Int) ≤ 64 := by omega
  have HLK := hide hlk
  have HDk := hide hs.hdg
  have HK : Hid (macD (key ++ List.replicate (64 - n) 0) bs = macD key bs) := macD_key (by rw [← hlk]; exact keyOf_zeros (by omega)) bs
  have q1 := fun W => eqD_same (macD key bs) (macD_len _ _) W
  clear hs hs1 hT hlk hn1
  go_enter Tryd.func7, Tryd.ntmps7
  go_wp2_with (first | (at_builtin; refine wpList_zeros _ rfl (.tmp 27) (.tmp 30) rfl w.heap.size g1 n c2 (64 - n) key rfl (64 - (n : Int)) (by omega) rfl ho1 hn (by omega) (by have := hg1.size; simp at this; omega) 64 (by omega) ?_; intro g2 c3 w2 ho2 hb2 hl2 hg2) | (at_builtin; refine appG 22 1 Tryd.underlying22 Tryd.infoB8 _ rfl (.tmp 25) (.tmp 26) rfl w.heap.size (.slice (some ⟨w.heap.size, 0, none⟩) 0 0) [] rfl (OwnG.lit _ [] _ 0 rfl rfl (Nat.le_refl _) (by decide)) a n c key rfl (HS.out.alloc _) n (by simpa using HLK.out) (.inl (by simp)) (by omega) (by omega) (by simp) ?_; intro g1 c2 w1 ho1 hb1 hl1 hc1 hm1 hg1 hat1) | fail)
  have HO2 := hide ho2
  have HW2 : Hid (Below w.heap.size w w2) := by
    have h1 : Below w.heap.size w w1 := ((Below.refl _ _).alloc (Nat.le_refl _) _).grown hg1 (by simp) (fun k hk => by simp [Value.ownBlock] at hk; omega)
    exact h1.grown hg2 h1.size (fun k hk => by simp at hk; omega)
  have HD2 : Hid (Dg 256 (key ++ List.replicate (64 - n) 0)) := by
    intro x hx
    rcases List.mem_append.1 hx with hx | hx
    · exact HDk.out x hx
    · simp at hx; omega
  have HSL := hide (HO2.out.toSrc HD2.out)
  clear ho1 hb1 hl1 hc1 hm1 hg1 hat1 ho2 hb2 hl2 hg2
  refine (mac_one a n c key w2.heap.size a1 n1 c1 bs (w2.alloc (.cells #[.slice a1 n1 c1] 22)) ((HS.out.below HW2.out).alloc _) (by omega) ((Blk.new (T := 22) w2 [.slice a1 n1 c1] _ _ rfl rfl).cell 0) ((HS1.out.below HW2.out).alloc _) (by have := HN1.out; omega) (HT.out.below (HW2.out.alloc HW2.out.size _) HLt.out)).mono ?_
  rintro e w3 ⟨rfl, hB3⟩
  have HW3 : Hid (Below w.heap.size w w3) := (HW2.out.alloc HW2.out.size _).trans (hB3.mono (by have := HW2.out.size; simp; omega))
  have HSL3 := hide ((HSL.out.alloc (.cells #[.slice a1 n1 c1] 22)).below hB3)
  clear hB3
  go_wp2_with fail
  refine (mac_one (some ⟨g2, 0, none⟩) 64 c3 (key ++ List.replicate (64 - n) 0) w3.heap.size a1 n1 c1 bs (w3.alloc (.cells #[.slice a1 n1 c1] 22)) (HSL3.out.alloc _) (by omega) ((Blk.new (T := 22) w3 [.slice a1 n1 c1] _ _ rfl rfl).cell 0) ((HS1.out.below HW3.out).alloc _) (by have := HN1.out; omega) (HT.out.below (HW3.out.alloc HW3.out.size _) HLt.out)).mono ?_
  rintro e w4 ⟨rfl, hB4⟩
  rw [HK.out]
  have HW4 : Hid (Below w.heap.size w w4) := (HW3.out.alloc HW3.out.size _).trans (hB4.mono (by have := HW3.out.size; simp; omega))
  clear hB4
  generalize macD key bs = M at *
  go_wp2_with fail
  refine (works_any w4 (HT.out.below HW4.out HLt.out)).mono ?_
  rintro e w5 ⟨rfl, hB5⟩
  go_wp2
  go_ret
  exact ⟨rfl, HW4.out.trans (hB5.mono HW4.out.size)⟩

set_option maxRecDepth 100000 in
set_option maxHeartbeats 4000000 in
theorem long_long (a : Option Addr) (n c : Nat) (key : List Int) (a1 : Option Addr) (n1 c1 : Nat) (bs : List Int) (w : World) (hs : SrcG .u8 256 w a n c key) (hs1 : SrcG .u8 256 w a1 n1 c1 bs) (hn : 64 < n) (hn0 : n ≤ 140737488351232) (hn1 : n1 ≤ 140737488351232) (hT : Tabs w) :
    Calls Tryd.prog 7 #[.slice a n c, .slice a1 n1 c1] w fun e w' => e = .returned (.bool true) ∧ Below w.heap.size w w' := by
  have HS := hide hs
  have HS1 := hide hs1
  have HT := hide hT
  have HLt := hide hT.lt
  have HN0 := hide hn0
  have HN1 := hide hn1
  have hnI : (64 : Int) < (n : Int) := by omega
  have HK : Hid (macD (dig key) bs = macD key bs) := macD_key (keyOf_dig (by rw [hs.hlen]; exact hn)) bs
  have q1 := fun W => eqD_same (macD key bs) (macD_len _ _) W
  have hid : (Tryd.prog.info? 26).map (·.size) = some ((dig key).map (Value.int .u8)).length := by rw [List.length_map, dig_len]; exact info_dig
  have HID := hide hid
  have hsd := slice_all32
  clear hs hs1 hT hn0 hn1 hid
  go_enter Tryd.func7, Tryd.ntmps7
  go_wp2_with fail
  refine (sum_one w.heap.size a n c key (w.alloc (.cells #[.slice a n c] 22)) ((Blk.new (T := 22) w [.slice a n c] _ _ rfl rfl).cell 0) (HS.out.alloc _) (by have := HN0.out; omega) (HT.out.below ((Below.refl _ _).alloc (Nat.le_refl _) _) HLt.out)).mono ?_
  rintro e w1 ⟨rfl, hB1⟩
  have HW1 : Hid (Below w.heap.size w w1) := ((Below.refl _ _).alloc (Nat.le_refl _) _).trans (hB1.mono (by simp))
  have hst : ∀ c1 : Array Value, c1.size = 32 → (stA 26 (.pointer (some ⟨w1.heap.size, 0, none⟩)) (.agg ((dig key).map (Value.int .u8)).toArray)).run Tryd.prog (w1.alloc (.cells c1 26)) = .ok () (w1.alloc (.cells ((dig key).map (Value.int .u8)).toArray 26)) :=
    fun c1 hc => run_storeAt_new w1 _ c1 _ (by rw [List.size_toArray]; exact HID.out) (by rw [hc, List.size_toArray, List.length_map, dig_len]) (all_oneCell_toArray (ints_one _ _))
  clear hB1
  go_wp2
  have HBU : Hid (Blk 26 (w1.alloc (.cells ((dig key).map (Value.int .u8)).toArray 26)) w1.heap.size ((dig key).map (Value.int .u8))) := Blk.new w1 _ _ _ rfl rfl
  have HWU : Hid (Below w.heap.size w (w1.alloc (.cells ((dig key).map (Value.int .u8)).toArray 26))) := HW1.out.alloc HW1.out.size _
  generalize w1.alloc (.cells ((dig key).map (Value.int .u8)).toArray 26) = U at *
  have HTU := hide (HT.out.below HWU.out HLt.out)
  have M1 : Hid (∀ W b, Below U.heap.size U W → Blk 22 W b [.slice a1 n1 c1] → Calls Tryd.prog 13 #[.slice a n c, .slice (some ⟨b, 0, none⟩) 1 1] W fun e w' => e = .returned (.agg ((macD key bs).map (Value.int .u8)).toArray) ∧ Below U.heap.size U w' ∧ Below W.heap.size W w') := by
    intro W b hW hc
    have hbl := HWU.out.trans (hW.mono HWU.out.size)
    refine (mac_one a n c key b a1 n1 c1 bs W (HS.out.below hbl) (by have := HN0.out; omega) (hc.cell 0) (HS1.out.below hbl) (by have := HN1.out; omega) (HTU.out.below hW HTU.out.lt)).mono ?_
    rintro e w' ⟨he, hb⟩
    exact ⟨he, keep_below hW hb, hb⟩
  have M2 : Hid (∀ W b, Below U.heap.size U W → Blk 22 W b [.slice a1 n1 c1] → Calls Tryd.prog 13 #[.slice (some ⟨w1.heap.size, 0, none⟩) 32 32, .slice (some ⟨b, 0, none⟩) 1 1] W fun e w' => e = .returned (.agg ((macD key bs).map (Value.int .u8)).toArray) ∧ Below U.heap.size U w' ∧ Below W.heap.size W w') := by
    intro W b hW hc
    have hbl := HWU.out.trans (hW.mono HWU.out.size)
    have h := mac_one (some ⟨w1.heap.size, 0, none⟩) 32 32 (dig key) b a1 n1 c1 bs W ((blk_src HBU.out (dig_dg key) (dig_len key) (by omega)).below hW) (by omega) (hc.cell 0) (HS1.out.below hbl) (by have := HN1.out; omega) (HTU.out.below hW HTU.out.lt)
    rw [HK.out] at h
    refine h.mono ?_
    rintro e w' ⟨he, hb⟩
    exact ⟨he, keep_below hW hb, hb⟩
  have CW : Hid (∀ W, Below U.heap.size U W → Calls Tryd.prog 24 #[] W fun e w' => e = .returned (.bool true) ∧ Below U.heap.size U w' ∧ Below W.heap.size W w') := by
    intro W hW
    refine (works_any W (HTU.out.below hW HTU.out.lt)).mono ?_
    rintro e w' ⟨he, hb⟩
    exact ⟨he, keep_below hW hb, hb⟩
  have h0 : Below U.heap.size U U.drew := (Below.refl _ _).drew
  generalize macD key bs = M at *
  clear hst HS HS1 HK HBU HW1
  refine wp_region_held (S := fun W => Below U.heap.size U W) (by kernel_rfl) ?_
  refine wpAnyH_take (i := 0) (v := ?_) rfl (by kernel_rfl) (by kernel_rfl) (by kernel_rfl) (fun _ _ _ h => h) (Or.inl ⟨by rfl, ?_⟩) (by assumption) ?_
  rotate_left
  · intro wq hSq
    go_simp
    try with_reducible rfl
  simp only [List.getElem_toArray, List.getElem_cons_zero, Act.put, List.setIfInBounds_toArray, List.set_cons_zero, List.set_cons_succ]
  refine wpAnyH_take (i := 1) (v := ?_) rfl (by kernel_rfl) (by kernel_rfl) (by kernel_rfl) (fun _ _ _ h => h) (Or.inl ⟨by rfl, ?_⟩) (by assumption) ?_
  rotate_left
  · intro wq hSq
    go_simp
    try with_reducible rfl
  simp only [List.getElem_toArray, List.getElem_cons_succ, List.getElem_cons_zero, Act.put, List.setIfInBounds_toArray, List.set_cons_zero, List.set_cons_succ]
  refine wpAnyH_take (i := 4) (v := ?_) rfl (by kernel_rfl) (by kernel_rfl) (by kernel_rfl) (fun _ _ _ h => h) (Or.inl ⟨by rfl, ?_⟩) (by assumption) ?_
  rotate_left
  · intro wq hSq
    go_simp
    try with_reducible rfl
  simp only [List.getElem_toArray, List.getElem_cons_succ, List.getElem_cons_zero, Act.put, List.setIfInBounds_toArray, List.set_cons_zero, List.set_cons_succ]
  refine wpAnyH_take (i := 5) (v := ?_) rfl (by kernel_rfl) (by kernel_rfl) (by kernel_rfl) (fun _ _ _ h => h) (Or.inl ⟨by rfl, ?_⟩) (by assumption) ?_
  rotate_left
  · intro wq hSq
    go_simp
    try with_reducible rfl
  simp only [List.getElem_toArray, List.getElem_cons_succ, List.getElem_cons_zero, Act.put, List.setIfInBounds_toArray, List.set_cons_zero, List.set_cons_succ]
  refine' mk_rest (U := U) (fun REST1 => ?_) ?_
  rotate_left
  · skip
    refine wpAnyH_ready (rs := [2, 6]) (by kernel_rfl) (by simp) ?_
    refine AllReadyH.cons rfl (fun Kq hKq => ?_) (AllReadyH.cons rfl (fun Kq hKq => ?_) AllReadyH.nil)
    · go_simp
      refine hKq.out _ _ ((below_al (Below.refl _ U) _).drew) (fun hHeld => ?_)
      clear hKq Kq hHeld
      refine wpAnyH_ready (rs := [3, 6]) (by kernel_rfl) (by simp) ?_
      refine AllReadyH.cons rfl (fun Kq hKq => ?_) (AllReadyH.cons rfl (fun Kq hKq => ?_) AllReadyH.nil)
      · go_simp
        refine (M1.out ((U.alloc (.cells #[.slice a1 n1 c1] 22)).drew) U.heap.size ((below_al (Below.refl _ U) _).drew) (Blk.heap (w := U.alloc (.cells #[.slice a1 n1 c1] 22)) (Blk.new U _ _ _ rfl rfl) rfl)).mono ?_
        rintro e w4 ⟨rfl, hw4, bw4⟩
        refine hKq.out _ _ hw4 (fun hHeld => ?_)
        clear hKq Kq hHeld
        refine wpAnyH_ready (rs := [6]) (by kernel_rfl) (by simp) ?_
        refine AllReadyH.cons rfl (fun Kq hKq => ?_) AllReadyH.nil
        go_simp
        refine hKq.out _ _ (below_al hw4 _) (fun hHeld => ?_)
        clear hKq Kq hHeld
        refine wpAnyH_ready (rs := [7]) (by kernel_rfl) (by simp) ?_
        refine AllReadyH.cons rfl (fun Kq hKq => ?_) AllReadyH.nil
        go_simp
        refine (M2.out (w4.alloc (.cells #[.slice a1 n1 c1] 22)) w4.heap.size (below_al hw4 _) (Blk.new w4 _ _ _ rfl rfl)).mono ?_
        rintro e w5 ⟨rfl, hw5, bw5⟩
        refine hKq.out _ _ hw5 (fun hHeld => ?_)
        clear hKq Kq hHeld
        generalize (Value.slice (some ⟨U.heap.size, 0, none⟩) 1 1) = x
        generalize (Value.slice (some ⟨w4.heap.size, 0, none⟩) 1 1) = y
        exact REST1.out w5 x y hw5
      · go_simp
        refine hKq.out _ _ ((below_al (below_al (Below.refl _ U) _) _).drew) (fun hHeld => ?_)
        clear hKq Kq hHeld
        refine wpAnyH_ready (rs := [3]) (by kernel_rfl) (by simp) ?_
        refine AllReadyH.cons rfl (fun Kq hKq => ?_) AllReadyH.nil
        go_simp
        refine (M1.out (((U.alloc (.cells #[.slice a1 n1 c1] 22)).alloc (.cells #[.slice a1 n1 c1] 22)).drew) U.heap.size ((below_al (below_al (Below.refl _ U) _) _).drew) (Blk.heap (w := (U.alloc (.cells #[.slice a1 n1 c1] 22)).alloc (.cells #[.slice a1 n1 c1] 22)) ((Blk.new U _ _ _ rfl rfl).alloc _) rfl)).mono ?_
        rintro e w4 ⟨rfl, hw4, bw4⟩
        refine hKq.out _ _ hw4 (fun hHeld => ?_)
        clear hKq Kq hHeld
        refine wpAnyH_ready (rs := [7]) (by kernel_rfl) (by simp) ?_
        refine AllReadyH.cons rfl (fun Kq hKq => ?_) AllReadyH.nil
        go_simp
        refine (M2.out w4 (U.heap.size + 1) hw4 (Blk.below (Blk.heap (w' := ((U.alloc (.cells #[.slice a1 n1 c1] 22)).alloc (.cells #[.slice a1 n1 c1] 22)).drew) (Blk.new _ _ _ _ rfl (by simp)) rfl) bw4)).mono ?_
        rintro e w5 ⟨rfl, hw5, bw5⟩
        refine hKq.out _ _ hw5 (fun hHeld => ?_)
        clear hKq Kq hHeld
        exact REST1.out w5 _ _ hw5
    · go_simp
      refine hKq.out _ _ ((below_al (Below.refl _ U) _).drew) (fun hHeld => ?_)
      clear hKq Kq hHeld
      refine wpAnyH_ready (rs := [2]) (by kernel_rfl) (by simp) ?_
      refine AllReadyH.cons rfl (fun Kq hKq => ?_) AllReadyH.nil
      go_simp
      refine hKq.out _ _ ((below_al (below_al (Below.refl _ U) _) _).drew) (fun hHeld => ?_)
      clear hKq Kq hHeld
      refine wpAnyH_ready (rs := [3]) (by kernel_rfl) (by simp) ?_
      refine AllReadyH.cons rfl (fun Kq hKq => ?_) AllReadyH.nil
      go_simp
      refine (M1.out (((U.alloc (.cells #[.slice a1 n1 c1] 22)).alloc (.cells #[.slice a1 n1 c1] 22)).drew) (U.heap.size + 1) ((below_al (below_al (Below.refl _ U) _) _).drew) (Blk.heap (w := (U.alloc (.cells #[.slice a1 n1 c1] 22)).alloc (.cells #[.slice a1 n1 c1] 22)) (Blk.new _ _ _ _ rfl (by simp)) rfl)).mono ?_
      rintro e w4 ⟨rfl, hw4, bw4⟩
      refine hKq.out _ _ hw4 (fun hHeld => ?_)
      clear hKq Kq hHeld
      refine wpAnyH_ready (rs := [7]) (by kernel_rfl) (by simp) ?_
      refine AllReadyH.cons rfl (fun Kq hKq => ?_) AllReadyH.nil
      go_simp
      refine (M2.out w4 U.heap.size hw4 (Blk.below (Blk.heap (w' := ((U.alloc (.cells #[.slice a1 n1 c1] 22)).alloc (.cells #[.slice a1 n1 c1] 22)).drew) ((Blk.new U _ _ _ rfl rfl).alloc _) rfl) bw4)).mono ?_
      rintro e w5 ⟨rfl, hw5, bw5⟩
      refine hKq.out _ _ hw5 (fun hHeld => ?_)
      clear hKq Kq hHeld
      exact REST1.out w5 _ _ hw5
  · intro W3 x3 y3 hW3
    refine wpAnyH_take (i := 8) (v := ?_) rfl (by kernel_rfl) (by kernel_rfl) (by kernel_rfl) (fun _ _ _ h => h) (Or.inl ⟨by rfl, ?_⟩) (by assumption) ?_
    rotate_left
    · intro wq hSq
      go_simp
      try with_reducible rfl
    simp only [List.getElem_toArray, List.getElem_cons_succ, List.getElem_cons_zero, Act.put, List.setIfInBounds_toArray, List.set_cons_zero, List.set_cons_succ]
    refine wpAnyH_take (i := 9) (v := ?_) rfl (by kernel_rfl) (by kernel_rfl) (by kernel_rfl) (fun _ _ _ h => h) (Or.inl ⟨by rfl, ?_⟩) (by assumption) ?_
    rotate_left
    · intro wq hSq
      go_simp
      try with_reducible rfl
    simp only [List.getElem_toArray, List.getElem_cons_succ, List.getElem_cons_zero, Act.put, List.setIfInBounds_toArray, List.set_cons_zero, List.set_cons_succ]
    refine wpAnyH_ready (rs := [10]) (by kernel_rfl) (by simp) ?_
    refine AllReadyH.cons rfl (fun Kq hKq => ?_) AllReadyH.nil
    go_simp
    refine (CW.out W3 hW3).mono ?_
    rintro e w6 ⟨rfl, hw6, bw6⟩
    refine hKq.out _ _ hw6 (fun hHeld => ?_)
    clear hKq Kq hHeld
    refine wpAnyH_take (i := 11) (v := ?_) rfl (by kernel_rfl) (by kernel_rfl) (by kernel_rfl) (fun _ _ _ h => h) (Or.inl ⟨by rfl, ?_⟩) (by assumption) ?_
    rotate_left
    · intro wq hSq
      go_simp
      try with_reducible rfl
    simp only [List.getElem_toArray, List.getElem_cons_succ, List.getElem_cons_zero, Act.put, List.setIfInBounds_toArray, List.set_cons_zero, List.set_cons_succ]
    refine wpAnyH_take (i := 12) (v := ?_) rfl (by kernel_rfl) (by kernel_rfl) (by kernel_rfl) (fun _ _ _ h => h) (Or.inl ⟨by rfl, ?_⟩) (by assumption) ?_
    rotate_left
    · intro wq hSq
      go_simp
      try with_reducible rfl
    simp only [List.getElem_toArray, List.getElem_cons_succ, List.getElem_cons_zero, Act.put, List.setIfInBounds_toArray, List.set_cons_zero, List.set_cons_succ]
    refine wpAnyH_done (by kernel_rfl) ?_ _
    go_wp2
    go_ret
    exact ⟨rfl, HWU.out.trans (hw6.mono HWU.out.size)⟩

theorem long_walk (a : Option Addr) (n c : Nat) (key : List Int) (a1 : Option Addr) (n1 c1 : Nat) (bs : List Int) (w : World) (hs : SrcG .u8 256 w a n c key) (hs1 : SrcG .u8 256 w a1 n1 c1 bs) (hn0 : n ≤ 140737488351232) (hn1 : n1 ≤ 140737488351232) (hT : Tabs w) :
    Calls Tryd.prog 7 #[.slice a n c, .slice a1 n1 c1] w fun e w' => e = .returned (.bool true) ∧ Below w.heap.size w w' := by
  by_cases h : n ≤ 64
  · exact long_short a n c key a1 n1 c1 bs w hs hs1 h hn1 hT
  · exact long_long a n c key a1 n1 c1 bs w hs hs1 (by omega) hn0 hn1 hT

end Go.Proofs.YtfajdcomjcoclaaDoor
