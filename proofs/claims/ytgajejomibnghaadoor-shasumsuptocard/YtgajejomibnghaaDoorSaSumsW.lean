/-
  The statement ShaSums: its walk.
-/
import Derived.Test.YtgajejomibnghaaDoorSaKept
import Derived.Test.YtgajejomibnghaaDoorSaRMac
import Derived.Test.YtgajejomibnghaaDoorSaMc
import Derived.Test.YtgajejomibnghaaDoorSaWk
namespace Go.Proofs.YtgajejomibnghaaDoor
open Go.RowKit Go.IntWalk
attribute [local go_sem ↓] ld_words ld_part ld_sched ld_hash ld_dig ld_arr st_words st_part st_sched st_hash st_dig st_arr ix_words bd_hash bd_keyed bd_dig eq_dig

theorem Lents.pcs0 {w : World} {base : Nat} {vs : List Value} {ls : List (List Int)} (h : Lents w base vs ls) (hd : ∀ l ∈ ls, Dg 256 l) {ao : Option Addr} {n c : Nat} (hv : OwnV w base (.slice ao n c) vs) (hl : vs.length = n) : Pcs0 w ao n ls := by
  refine ⟨by rw [← h.len]; exact hl, fun hp => ?_⟩
  obtain ⟨g, hg, _⟩ := hv.at 0 (by omega)
  refine ⟨g, 0, hg, fun i hi => ?_⟩
  obtain ⟨g', hg', hc⟩ := hv.at i (by omega)
  obtain ⟨g2, c2, h1, _, _, _, h2⟩ := h.src hd i (by omega)
  rw [hg] at hg'
  simp only [Option.some.injEq, Addr.mk.injEq, and_true] at hg'
  subst hg'
  rw [h1] at hc
  exact ⟨_, _, _, by rw [Nat.zero_add]; exact hc, h2.toG⟩

set_option maxRecDepth 100000 in
set_option maxHeartbeats 4000000 in
theorem sums_walk (a : Option Addr) (n c : Nat) (key : List Int) (po : Option Addr) (pn pc : Nat) (ls : List (List Int)) (w : World) (hT : Tabs w) (hs : SrcG .u8 256 w a n c key) (hP : Pcs0 w po pn ls) (_hpc : pn ≤ pc) (hn : n ≤ 1048576) (hpn : pn ≤ 1048576) (hb : ls.flatten.length ≤ 1048576) :
    Calls Tryd.prog 3 #[.slice a n c, .slice po pn pc] w fun e w' => e = .returned (.bool true) ∧ Below w.heap.size w w' := by
  have HS := hide hs
  have HT := hide hT
  have HLt := hide hT.lt
  have HP := hide hP
  have HD := hide hP.dg
  have HFb := hide hb
  have HKd := hide hs.hdg
  have HKl := hide hs.hlen
  have pI : (pn : Int) ≤ 1048576 := by omega
  have HSM : Hid (∀ ai ci W, Pcs0 W ai pn ls → Tabs W → Calls Tryd.prog 8 #[.slice ai pn ci] W fun e w' => e = .returned (.agg ((dig ls.flatten).map (Value.int .u8)).toArray) ∧ Below W.heap.size W w') := fun ai ci W h1 h2 => sum_any ai pn ci ls W h1 h2 (by omega) (by omega)
  have HMC : Hid (∀ ak ck ai ci W, SrcG .u8 256 W ak n ck key → Pcs0 W ai pn ls → Tabs W → Calls Tryd.prog 11 #[.slice ak n ck, .slice ai pn ci] W fun e w' => e = .returned (.agg ((macD key ls.flatten).map (Value.int .u8)).toArray) ∧ Below W.heap.size W w') := fun ak ck ai ci W h1 h2 h3 => mac_any ak n ck key ai pn ci ls W h1 (by omega) h2 h3 (by omega) (by omega)
  have HQ1 := fun W => eqD_same (dig ls.flatten) (dig_len _) W
  have HQ2 := fun W => eqD_same (macD key ls.flatten) (macD_len _ _) W
  obtain ⟨F, hF⟩ : ∃ F, ls.flatten = F := ⟨_, rfl⟩
  obtain ⟨N, hN⟩ : ∃ N, F.length = N := ⟨_, rfl⟩
  have HFe := hide hF
  have HNe := hide hN
  rw [hF] at HSM HMC HQ1 HQ2 hb
  rw [hN] at hb
  have HRS : Hid (∀ aj cj W, SrcG .u8 256 W aj N cj F → Calls Tryd.prog 9 #[.slice aj N cj] W fun e w' => e = .returned (.agg ((dig F).map (Value.int .u8)).toArray) ∧ Below W.heap.size W w') := fun aj cj W h => refSum_any aj N cj F W h (by omega)
  have HRM : Hid (∀ aj cj W, SrcG .u8 256 W a n c key → SrcG .u8 256 W aj N cj F → Calls Tryd.prog 12 #[.slice a n c, .slice aj N cj] W fun e w' => e = .returned (.agg ((macD key F).map (Value.int .u8)).toArray) ∧ Below W.heap.size W w') := fun aj cj W h1 h2 => rmac_any a n c key aj N cj F W h1 h2 (by omega) (by omega)
  have HJ : Hid (∀ W, Pcs0 W po pn ls → Calls Tryd.prog 10 #[.slice po pn pc] W fun e w' => ∃ a c, e = .returned (.slice a N c) ∧ SrcG .u8 256 w' a N c F ∧ Below W.heap.size W w') := fun W h => joined_any po pn pc ls F hF N hN W h (by omega) (by omega)
  clear hs hT hP hF hN hb
  generalize dig F = D at *
  generalize macD key F = M at *
  go_enter Tryd.func3, Tryd.ntmps3
  go_wp2_with fail
  refine (lentP_any po pn pc ls _ HP.out hpn HFb.out).mono ?_
  rintro e w1 ⟨ai, ci, vs, rfl, hV1, hL1, hvl, B1⟩
  have V1 := hide hV1
  have L1 := hide hL1
  have HVL := hide hvl
  have HB1 := hide B1
  have S1 := hide (HS.out.below B1)
  clear hV1 hL1 hvl B1
  go_wp2_with fail
  have PK : Hid (Pcs0 (w1.alloc (.cells #[.slice a n c] 22)) (some ⟨w1.heap.size, 0, none⟩) 1 [key]) := Pcs0.one ((Blk.new (T := 22) w1 [.slice a n c] _ _ rfl rfl).cell 0) (S1.out.alloc _)
  refine (lentP_any (some ⟨w1.heap.size, 0, none⟩) 1 1 [key] _ PK.out (by omega) (by have := HKl.out; simp; omega)).mono ?_
  rintro e w2 ⟨ak, ck, vk, rfl, hV2, hL2, hvl2, B2⟩
  have hB12 : Below w1.heap.size w1 w2 := ((Below.refl _ w1).alloc (Nat.le_refl _) _).trans (B2.mono (by simp))
  have V2 := hide hV2
  have L2 := hide hL2
  have HVL2 := hide hvl2
  have V12 := hide (V1.out.belowA hB12)
  have L12 := hide (L1.out.belowA hB12)
  have HB2 : Hid (Below w.heap.size w w2) := HB1.out.trans (hB12.mono HB1.out.size)
  have HKd1 : Hid (∀ l ∈ [key], Dg 256 l) := by intro l hl; simp at hl; subst hl; exact HKd.out
  have P2 := hide (L12.out.pcs0 HD.out V12.out HVL.out)
  clear hV2 hL2 hvl2 B2 hB12
  go_wp2_with (first | (go_at_call 13; have S9w := S8w.out.heap D9.out.heap; refine (keptP_any _ (some ⟨gk, 0, none⟩) ck vk (some ⟨w9.heap.size, 0, none⟩) 1 1 [key] _ (V9k.out.alloc (.cells #[.slice a n c] 22)) (L9k.out.belowA ((Below.refl _ _).alloc (Nat.le_refl _) (.cells #[.slice a n c] 22))) HVL2.out (Pcs0.one ((Blk.new (T := 22) w9 [.slice a n c] _ _ rfl rfl).cell 0) (S9w.alloc _)) (by omega) (by have := HKl.out; simp; omega)).mono ?_; rintro e w10 ⟨rfl, hW10⟩; have B10 : Hid (Below w.heap.size w w10) := hW10.below (B9.out.alloc B9.out.size _); clear hW10 S9w) | (go_at_call 10; refine (HJ.out _ (HP.out.below B6.out)).mono ?_; rintro e w7 ⟨al, cl, rfl, hsl, LB⟩; have Sl := hide hsl; have V7 := hide (V6.out.belowA LB); have L7 := hide (L6.out.belowA LB); have V7k := hide (V6k.out.belowA LB); have L7k := hide (L6k.out.belowA LB); have B7 : Hid (Below w.heap.size w w7) := B6.out.trans (LB.mono B6.out.size); clear LB hsl) | (go_at_call 10; refine (HJ.out _ (HP.out.below B3.out)).mono ?_; rintro e w4 ⟨aj, cj, rfl, hsj, LB⟩; have Sj := hide hsj; have V4 := hide (V3.out.belowA LB); have L4' := hide (L3.out.belowA LB); have V4k := hide (V3k.out.belowA LB); have L4k := hide (L3k.out.belowA LB); have B4 : Hid (Below w.heap.size w w4) := B3.out.trans (LB.mono B3.out.size); clear LB hsj) | (go_at_call 8; refine (HSM.out _ _ _ P2.out (HT.out.below HB2.out (by have := HLt.out; omega))).mono ?_; rintro e w3 ⟨rfl, LB⟩; have V3 := hide (V12.out.belowA LB); have L3 := hide (L12.out.belowA LB); have V3k := hide (V2.out.belowA LB); have L3k := hide (L2.out.belowA LB); have B3 : Hid (Below w.heap.size w w3) := HB2.out.trans (LB.mono HB2.out.size); clear LB) | (go_at_call 9; refine (HRS.out aj cj _ Sj.out).mono ?_; rintro e w5 ⟨rfl, LB⟩; have V5 := hide (V4.out.belowA LB); have L5 := hide (L4'.out.belowA LB); have V5k := hide (V4k.out.belowA LB); have L5k := hide (L4k.out.belowA LB); have B5 : Hid (Below w.heap.size w w5) := B4.out.trans (LB.mono B4.out.size); clear LB; obtain ⟨gk, hgk, hck⟩ := V5k.out.at 0 (by have := HVL2.out; omega); obtain ⟨g9, c9, h91, _, _, _, h92⟩ := L5k.out.src HKd1.out 0 (by have := HVL2.out; omega); rw [h91] at hck; simp only [List.getD_cons_zero] at hck h92; rw [HKl.out] at hck h92; have S9 := hide h92.toG; have P5 := hide (L5.out.pcs0 HD.out V5.out HVL.out); subst hgk; clear h91 h92) | (go_at_call 11; refine (HMC.out _ _ _ _ _ S9.out P5.out (HT.out.below B5.out (by have := HLt.out; omega))).mono ?_; rintro e w6 ⟨rfl, LB⟩; have V6 := hide (V5.out.belowA LB); have L6 := hide (L5.out.belowA LB); have V6k := hide (V5k.out.belowA LB); have L6k := hide (L5k.out.belowA LB); have B6 : Hid (Below w.heap.size w w6) := B5.out.trans (LB.mono B5.out.size); clear LB) | (go_at_call 12; refine (HRM.out al cl _ (HS.out.below B7.out) Sl.out).mono ?_; rintro e w8 ⟨rfl, LB⟩; have V8 := hide (V7.out.belowA LB); have L8 := hide (L7.out.belowA LB); have V8k := hide (V7k.out.belowA LB); have L8k := hide (L7k.out.belowA LB); have B8 : Hid (Below w.heap.size w w8) := B7.out.trans (LB.mono B7.out.size); have S8w := hide (HS.out.below B8.out); clear LB) | (go_at_call 13; refine (keptP_any w.heap.size ai ci vs po pn pc ls _ V8.out L8.out HVL.out (HP.out.below B8.out) hpn HFb.out).mono ?_; rintro e w9 ⟨rfl, hW9⟩; have D9 := hide hW9; have B89 := hide (hW9.toBelow w8.heap.size); have V9k := hide (V8k.out.belowA B89.out); have L9k := hide (L8k.out.belowA B89.out); have B9 : Hid (Below w.heap.size w w9) := hW9.below B8.out; clear hW9))
  go_ret
  exact ⟨rfl, B10.out⟩

end Go.Proofs.YtgajejomibnghaaDoor
