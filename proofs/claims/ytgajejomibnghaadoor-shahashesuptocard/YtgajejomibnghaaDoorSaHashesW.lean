/-
  The statement ShaHashes: its walk.
-/
import Derived.Test.YtgajejomibnghaaDoorSaH1
import Derived.Test.YtgajejomibnghaaDoorSaKeysW
import Derived.Test.YtgajejomibnghaaDoorStep
namespace Go.Proofs.YtgajejomibnghaaDoor
open Go.RowKit Go.IntWalk

attribute [local go_sem ↓] ld_words ld_part ld_sched ld_hash ld_dig ld_arr st_words st_part st_sched st_hash st_dig st_arr ix_words bd_hash bd_keyed bd_dig eq_dig ne_dig

theorem third (x : Int) : ∃ p : Nat, p < 3 ∧ IntKind.u64.wrap x = x % 18446744073709551616 ∧ (x % 18446744073709551616).tmod 3 = (p : Int) ∧ IntKind.i64.wrap (p : Int) = (p : Int) := by
  refine ⟨((x % 18446744073709551616).tmod 3).toNat, ?_, ?_, ?_, ?_⟩
  all_goals try rw [Int.tmod_eq_emod_of_nonneg (by omega)]
  · omega
  · rw [IntKind.wrap_u64]
  · omega
  · rw [IntKind.wrap_i64]
    omega

theorem Pcs.two {w : World} {g b : Nat} {a1 a2 : Option Addr} {n1 c1 n2 c2 : Nat} {x1 x2 : List Int} (h1 : w.cell? ⟨b, 0, none⟩ = some (.slice a1 n1 c1)) (h2 : w.cell? ⟨b, 1, none⟩ = some (.slice a2 n2 c2)) (hb : b ≠ g) (s1 : SrcG .u8 256 w a1 n1 c1 x1) (s2 : SrcG .u8 256 w a2 n2 c2 x2)
    (k1 : ∀ b' o', a1 = some ⟨b', o', none⟩ → x1 ≠ [] → b' ≠ g) (k2 : ∀ b' o', a2 = some ⟨b', o', none⟩ → x2 ≠ [] → b' ≠ g) : Pcs w g (some ⟨b, 0, none⟩) 2 [x1, x2] := by
  refine ⟨rfl, fun _ => ⟨b, 0, rfl, hb, fun i hi => ?_⟩⟩
  match i, hi with
  | 0, _ => exact ⟨a1, n1, c1, h1, s1, k1⟩
  | 1, _ => exact ⟨a2, n2, c2, h2, s2, k2⟩


set_option maxRecDepth 100000 in
set_option maxHeartbeats 4000000 in
theorem hashes_walk (ao : Option Addr) (n cap : Nat) (es : List (Int × Int × Int × List Int)) (w : World) (hT : Tabs w) (hA : Acts w ao n cap es) (hb : (es.map (fun e => e.2.2.2)).flatten.length ≤ 1048576) :
    Calls Tryd.prog 4 #[.slice ao n cap] w fun e w' => e = .returned (.bool true) ∧ Below w.heap.size w w' := by
  have HA := hide hA
  have HT := hide hT
  have HLt := hide hT.lt
  have nI : (n : Int) ≤ 9223372036854775807 := by have := hA.hcap; have := hA.hmax; unfold maxLen at *; omega
  have HFb : Hid (∀ k, totA es k ≤ 1048576) := fun k => Nat.le_trans (totA_le es k) hb
  have HLL := hide hA.hl
  clear hA hT hb
  have HS1 := hide (L1.start w)
  go_enter Tryd.func4, Tryd.ntmps4
  go_upto_region 4 with fail
  go_loopw [5] (fun i wr => ∃ (t : Nat) (ps : List Nat), t ≤ 3 ∧ i = .int .i64 (t : Int) ∧ Hid (L1 w wr t ps)) (fun i _ => 3 - (intOf i).toNat)
  case atStart => exact ⟨0, [], by omega, rfl, HS1⟩
  case round =>
    clear HS1
    obtain ⟨t, ps, ht, rfl, HL1⟩ := hrel
    by_cases hlt : t < 3
    · have tI : (t : Int) < 3 := by omega
      obtain ⟨hc, hfr⟩ := HL1.out.cell hlt
      go_wp2_with fail
      refine (new_any _ (HT.out.below HL1.out.bl (by have := HLt.out; omega))).mono ?_
      rintro e w1 ⟨rfl, hH, LB⟩
      have HN := hide (HL1.out.next hlt LB hH)
      have hw0 := HL1.out.own.lt
      have hc1 : w1.cell? ⟨w.heap.size, t, none⟩ = some (.pointer none) := (LB.cell (p := ⟨w.heap.size, t, none⟩) hw0).trans hc
      have hfr1 : w1.frozen? ⟨w.heap.size, t, none⟩ = false := (HL1.out.own.below LB).frozen t
      clear hH LB hc hfr
      go_wp2
      go_roundw
      case rel => exact ⟨t + 1, _, by omega, by go_num, HN⟩
      case measure => simp [intOf]; omega
    · obtain rfl : t = 3 := by omega
      have H0 := hide HL1.out.done
      clear HL1
      go_upto_region 8 with fail
      go_loopw [6] (fun i wr => ∃ (k : Nat) (ps : List Nat) (vs : List Value) (xs : List (List Int)), k ≤ n ∧ k ≤ 60 ∧ i = .int .i64 (k : Int) ∧ Hid (H3 w wr ps vs xs xs) ∧ Hid (∀ j, j < 3 → (xs.getD j []).length ≤ totA es k)) (fun i _ => n - (intOf i).toNat)
      case atStart => exact ⟨0, ps, _, _, by omega, by omega, rfl, H0, fun j _ => by rw [nil_three]; simp⟩
      case round =>
        clear H0
        obtain ⟨k, ps, vs, xs, hk, hk60, rfl, HH, HX⟩ := hrel
        by_cases hin : k < n ∧ k < 60
        · obtain ⟨h1, h2⟩ := hin
          have kI : (k : Int) < (n : Int) := by omega
          have k60 : (k : Int) < 60 := by omega
          obtain ⟨b, off, rfl, hr⟩ := HA.out.hrd (by omega)
          obtain ⟨a', m, c', e0, e1, e2, e3, hs0⟩ := hr k h1
          have hbw : b < w.heap.size := ltCell e0
          have HT1 : Hid (totA es (k + 1) = totA es k + (es.getD k (0, 0, 0, [])).2.2.2.length) := totA_next es k (by rw [HLL.out]; exact h1)
          generalize es.getD k (0, 0, 0, []) = E at e0 e1 e2 e3 hs0 HT1
          obtain ⟨kd, on0, to0, B⟩ := E
          simp only at e0 e1 e2 e3 hs0 HT1
          have f0 := (HH.out.bl.cell (p := ⟨b, off + k * 4, none⟩) hbw).trans e0
          have f1 := (HH.out.bl.cell (p := ⟨b, off + k * 4 + 1, none⟩) hbw).trans e1
          have f2 := (HH.out.bl.cell (p := ⟨b, off + k * 4 + 2, none⟩) hbw).trans e2
          have f3 := (HH.out.bl.cell (p := ⟨b, off + k * 4 + 3, none⟩) hbw).trans e3
          have HS := hide hs0
          have HSL := hide hs0.hlen
          clear hr e0 e1 e2 e3 hs0 hbw
          obtain ⟨p, hp3, hu1, hu2, hu3⟩ := third on0
          obtain ⟨q, hq3, hv1, hv2, hv3⟩ := third to0
          go_upto_region 11 with fail
          go_quiet (fail)
          obtain ⟨W1, hW1⟩ : ∃ W1, (wr.alloc (.cells #[.int .i64 kd, .int .i64 on0, .int .i64 to0, .slice a' m c'] 40)).drewN nq = W1 := ⟨_, rfl⟩
          rw [hW1]
          have BW1 : Hid (Below wr.heap.size wr W1) := by
            unfold Hid
            rw [← hW1]
            have h := (Below.refl wr.heap.size wr).alloc (Nat.le_refl _) (.cells #[.int .i64 kd, .int .i64 on0, .int .i64 to0, .slice a' m c'] 40)
            exact ⟨h.os, h.tape, h.output, h.size, h.block⟩
          have BX : Hid (Blk 40 W1 wr.heap.size [.int .i64 kd, .int .i64 on0, .int .i64 to0, .slice a' m c']) := by
            unfold Hid
            rw [← hW1]
            exact (Blk.new (T := 40) wr [.int .i64 kd, .int .i64 on0, .int .i64 to0, .slice a' m c'] _ _ rfl rfl).heap rfl
          have H1 := hide (HH.out.below BW1.out)
          have x0 : W1.cell? ⟨wr.heap.size, 0, none⟩ = some (.int .i64 kd) := BX.out.cell 0
          have x3 : W1.cell? ⟨wr.heap.size, 3, none⟩ = some (.slice a' m c') := BX.out.cell 3
          have HTk : Hid (totA es k ≤ totA es (k + 1)) := by have := HT1.out; unfold Hid; omega
          clear f0 f1 f2 f3 hW1
          by_cases hk2 : kd = 2
          · subst hk2
            obtain ⟨gq, hgq⟩ : ∃ gq, ps.getD q 0 = gq := ⟨_, rfl⟩
            have hcq : W1.cell? ⟨w.heap.size, q, none⟩ = some (.pointer (some ⟨gq, 0, none⟩)) := by have := (H1.out.cell q hq3).1; rw [hgq] at this; exact this
            have HHq := hide (H1.out.hs q hq3)
            rw [hgq] at HHq
            go_wp2_with fail
            refine (copy_yes 73 gq 0 [] [] _ _ HHq.out rfl).mono ?_
            rintro e w2 ⟨rfl, hH2, LB⟩
            have hcp : w2.cell? ⟨w.heap.size, p, none⟩ = some (hp (ps.getD p 0)) := ((H1.out.below LB).cell p hp3).1
            have hfp : w2.frozen? ⟨w.heap.size, p, none⟩ = false := (H1.out.own.below LB).frozen p
            go_upto_region 24 with fail
            obtain ⟨W3, hW3⟩ : ∃ W3, w2.setCell ⟨w.heap.size, p, none⟩ (.pointer (some ⟨W1.heap.size, 0, none⟩)) = W3 := ⟨_, rfl⟩
            rw [hW3]
            have H3' : Hid (H3 w W3 (ps.set p W1.heap.size) vs (xs.set p (xs.getD q [])) xs) := by
              unfold Hid
              rw [← hW3]
              exact H1.out.hash LB p hp3 W1.heap.size (Nat.le_refl _) _ hH2
            clear hW3 hH2 LB hcp hfp
            obtain ⟨a2, m2, c2, hv2, hs2, _⟩ := H3'.out.sv q hq3
            have hd2 := (H3'.out.cell q hq3).2.1
            rw [hv2] at hd2
            have hlt3 := H3'.out.want.lt
            have HS2 := hide hs2
            have HL2 := hide hs2.hlen
            have HM2 : Hid (m2 ≤ 1048576) := by have h1 := hs2.hlen; have h2 := HX.out q hq3; have h3 := HFb.out k; unfold Hid; omega
            have hm2 := HM2.out
            clear hs2
            go_upto_region 28 with (at_builtin; (refine appG 22 1 Tryd.underlying22 Tryd.infoB8 _ rfl (.tmp 108) (.tmp 111) rfl W3.heap.size (.slice (some ⟨W3.heap.size, 0, none⟩) 0 0) [] rfl (OwnG.lit _ [] _ 0 rfl rfl (Nat.le_refl _) (by decide)) a2 m2 c2 _ rfl (HS2.out.alloc _) m2 (by simpa using HL2.out) (.inl (by simp)) (by omega) (by omega) (by simp) ?_; intro g1 c1 w4 ho1 hb1 hl1 hc1 hm1 hg1 hat1; have B4 : Hid (Below W3.heap.size W3 w4) := ((Below.refl _ W3).alloc (Nat.le_refl _) _).grown hg1 (by simp) (fun k hk => by simp [Value.ownBlock] at hk; omega); have O1 : Hid (OwnG .u8 5 w4 W3.heap.size (.slice (some ⟨g1, 0, none⟩) m2 c1) (xs.getD q [])) := (by unfold Hid; simpa using ho1); have H4 := hide (H3'.out.below B4.out); have hcp := (H4.out.cell p hp3).2.1; have hfp := (H4.out.cell p hp3).2.2.2; clear ho1 hg1 hat1))
            have H5 := hide (H4.out.text p hp3 (some ⟨g1, 0, none⟩) m2 c1 (xs.getD q []) (O1.out.toSrc (B := 256) HS2.out.hdg) (fun b o hb _ => by
              simp only [Option.some.injEq, Addr.mk.injEq, and_true] at hb
              obtain ⟨rfl, rfl⟩ := hb
              have := H3'.out.want.lt
              exact ⟨by omega, fun i hi => by have := H3'.out.lt i hi; omega⟩))
            obtain ⟨W5, hW5⟩ : ∃ W5, w4.setCell ⟨w.heap.size + 1, p, none⟩ (.slice (some ⟨g1, 0, none⟩) m2 c1) = W5 := ⟨_, rfl⟩
            rw [hW5]
            have HZ : Hid (∃ ps2 vs2 xs2, H3 w W5 ps2 vs2 xs2 xs2 ∧ ∀ j, j < 3 → (xs2.getD j []).length ≤ totA es (k + 1)) := by
              refine ⟨_, _, _, by rw [← hW5]; exact H5.out, fun j hj => ?_⟩
              have h3 := HTk.out
              by_cases e : p = j
              · subst e
                have h1 := HX.out q hq3
                rw [getD_set_self _ _ _ _ (by rw [HH.out.lx]; exact hp3)]
                omega
              · have h1 := HX.out j hj
                rw [getD_set_ne _ _ _ _ _ e]
                omega
            clear H5 H4 H3' HS2 HL2 HM2 hm2 hd2 hv2 O1 B4 hcp hfp hW5 hcq HHq hgq x0 x3 HS HSL BX H1 BW1 HH HX
            obtain ⟨ps2, vs2, xs2, HH2', HX2'⟩ := HZ.out
            have pI : (p : Int) < 3 := by omega
            have p0 : (0 : Int) ≤ (p : Int) := by omega
            have HH2 := hide HH2'
            have HX2 := hide HX2'
            have HX2e : Hid (∀ j, j < 3 → (xs2.getD j []).length ≤ 1048576) := fun j hj => Nat.le_trans (HX2.out j hj) (HFb.out (k + 1))
            clear HZ HH2' HX2'
            obtain ⟨hc1, hc2, hf1, hf2⟩ := HH2.out.cell p hp3
            obtain ⟨a', m, c', hv, hsv, _⟩ := HH2.out.sv p hp3
            obtain ⟨g, hg⟩ : ∃ g, ps2.getD p 0 = g := ⟨_, rfl⟩
            rw [hv] at hc2
            rw [hg] at hc1
            unfold hp at hc1
            have HSv := hide hsv
            have Hhs := hide (HH2.out.hs p hp3)
            rw [hg] at Hhs
            have HXt := hide (HX2e.out p hp3)
            have HXl := hide hsv.hlen
            have HTr := hide (HT.out.below HH2.out.bl (by have := HLt.out; omega))
            have hq := neD_same (dig (xs2.getD p [])) (dig_len _)
            have HCC : Hid (∀ W, Below W5.heap.size W5 W → W.cell? ⟨w.heap.size, p, none⟩ = some (.pointer (some ⟨g, 0, none⟩)) ∧ W.cell? ⟨w.heap.size + 1, p, none⟩ = some (.slice a' m c')) := fun W hW => ⟨(hW.cell (p := ⟨w.heap.size, p, none⟩) HH2.out.own.lt).trans hc1, (hW.cell (p := ⟨w.heap.size + 1, p, none⟩) HH2.out.want.lt).trans hc2⟩
            generalize xs2.getD p [] = X at hsv HSv Hhs HXt HXl hq
            clear hsv
            go_wp2_with fail
            go_region_held3 (fun W => W.cell? ⟨w.heap.size, p, none⟩ = some (.pointer (some ⟨g, 0, none⟩)) ∧ W.cell? ⟨w.heap.size + 1, p, none⟩ = some (.slice a' m c')) (first | exact HCC.out _ B5.out | exact HCC.out _ B4.out | exact HCC.out _ (below_drewS (Below.refl _ _)) | exact HCC.out _ (Below.refl _ _)) (first | (go_at_call 17; refine (hsum_yes 73 g 0 [] [] X _ (Hhs.out.below (below_drewS (Below.refl _ _))) rfl (HTr.out.below (B := 2) (below_drewS (Below.refl _ _)) (Nat.le_refl _)) (by have := HXt.out; omega)).mono ?_; rintro e w4 ⟨rfl, LB⟩; have B4 : Hid (Below W5.heap.size W5 w4) := (below_drewS (Below.refl _ W5)).trans LB; clear LB) | (go_at_call 9; refine (refSum_any a' m c' X _ (HSv.out.below B4.out) (by have := HXt.out; have := HXl.out; omega)).mono ?_; rintro e w5 ⟨rfl, LB⟩; have B5 : Hid (Below W5.heap.size W5 w5) := B4.out.trans (LB.mono B4.out.size); clear LB) | (go_at_call 18; refine (len_yes 73 g 0 [] [] X _ (Hhs.out.below B5.out) rfl).mono ?_; rintro e w6 ⟨rfl, hw6⟩; subst hw6; rw [HXl.out]))
            have HF := hide (HH2.out.below B5.out)
            go_wp2
            refine ⟨?_, ?measure⟩
            (repeat apply Exists.intro)
            refine ⟨?rel, rfl⟩
            case rel => exact ⟨k + 1, ps2, vs2, xs2, by omega, by omega, by go_num, HF, HX2⟩
            case measure => simp [intOf]; omega
          · by_cases hk3 : kd = 3
            · subst hk3
              go_wp2_with fail
              refine (new_any _ (HT.out.below H1.out.bl (by have := HLt.out; omega))).mono ?_
              rintro e w2 ⟨rfl, hH2, LB⟩
              have hcp : w2.cell? ⟨w.heap.size, p, none⟩ = some (hp (ps.getD p 0)) := ((H1.out.below LB).cell p hp3).1
              have hfp : w2.frozen? ⟨w.heap.size, p, none⟩ = false := (H1.out.own.below LB).frozen p
              go_upto_region 27 with fail
              obtain ⟨W3, hW3⟩ : ∃ W3, w2.setCell ⟨w.heap.size, p, none⟩ (.pointer (some ⟨W1.heap.size, 0, none⟩)) = W3 := ⟨_, rfl⟩
              rw [hW3]
              have H3' : Hid (H3 w W3 (ps.set p W1.heap.size) vs (xs.set p []) xs) := by
                unfold Hid
                rw [← hW3]
                exact H1.out.hash LB p hp3 W1.heap.size (Nat.le_refl _) _ hH2
              clear hW3 hH2 LB hcp hfp
              have hcp := (H3'.out.cell p hp3).2.1
              have hfp := (H3'.out.cell p hp3).2.2.2
              have H5 := hide (H3'.out.text p hp3 none 0 0 [] (src_none _) (fun b o hb _ => by simp at hb))
              go_upto_region 28 with fail
              obtain ⟨W5, hW5⟩ : ∃ W5, W3.setCell ⟨w.heap.size + 1, p, none⟩ (.slice none 0 0) = W5 := ⟨_, rfl⟩
              rw [hW5]
              have HZ : Hid (∃ ps2 vs2 xs2, H3 w W5 ps2 vs2 xs2 xs2 ∧ ∀ j, j < 3 → (xs2.getD j []).length ≤ totA es (k + 1)) := by
                refine ⟨_, _, _, by rw [← hW5]; exact H5.out, fun j hj => ?_⟩
                have h3 := HTk.out
                by_cases e : p = j
                · subst e
                  rw [getD_set_self _ _ _ _ (by rw [HH.out.lx]; exact hp3)]
                  simp
                · have h1 := HX.out j hj
                  rw [getD_set_ne _ _ _ _ _ e]
                  omega
              clear H5 H3' hcp hfp hW5 x0 x3 HS HSL BX H1 BW1 HH HX
              obtain ⟨ps2, vs2, xs2, HH2', HX2'⟩ := HZ.out
              have pI : (p : Int) < 3 := by omega
              have p0 : (0 : Int) ≤ (p : Int) := by omega
              have HH2 := hide HH2'
              have HX2 := hide HX2'
              have HX2e : Hid (∀ j, j < 3 → (xs2.getD j []).length ≤ 1048576) := fun j hj => Nat.le_trans (HX2.out j hj) (HFb.out (k + 1))
              clear HZ HH2' HX2'
              obtain ⟨hc1, hc2, hf1, hf2⟩ := HH2.out.cell p hp3
              obtain ⟨a', m, c', hv, hsv, _⟩ := HH2.out.sv p hp3
              obtain ⟨g, hg⟩ : ∃ g, ps2.getD p 0 = g := ⟨_, rfl⟩
              rw [hv] at hc2
              rw [hg] at hc1
              unfold hp at hc1
              have HSv := hide hsv
              have Hhs := hide (HH2.out.hs p hp3)
              rw [hg] at Hhs
              have HXt := hide (HX2e.out p hp3)
              have HXl := hide hsv.hlen
              have HTr := hide (HT.out.below HH2.out.bl (by have := HLt.out; omega))
              have hq := neD_same (dig (xs2.getD p [])) (dig_len _)
              have HCC : Hid (∀ W, Below W5.heap.size W5 W → W.cell? ⟨w.heap.size, p, none⟩ = some (.pointer (some ⟨g, 0, none⟩)) ∧ W.cell? ⟨w.heap.size + 1, p, none⟩ = some (.slice a' m c')) := fun W hW => ⟨(hW.cell (p := ⟨w.heap.size, p, none⟩) HH2.out.own.lt).trans hc1, (hW.cell (p := ⟨w.heap.size + 1, p, none⟩) HH2.out.want.lt).trans hc2⟩
              generalize xs2.getD p [] = X at hsv HSv Hhs HXt HXl hq
              clear hsv
              go_wp2_with fail
              go_region_held3 (fun W => W.cell? ⟨w.heap.size, p, none⟩ = some (.pointer (some ⟨g, 0, none⟩)) ∧ W.cell? ⟨w.heap.size + 1, p, none⟩ = some (.slice a' m c')) (first | exact HCC.out _ B5.out | exact HCC.out _ B4.out | exact HCC.out _ (below_drewS (Below.refl _ _)) | exact HCC.out _ (Below.refl _ _)) (first | (go_at_call 17; refine (hsum_yes 73 g 0 [] [] X _ (Hhs.out.below (below_drewS (Below.refl _ _))) rfl (HTr.out.below (B := 2) (below_drewS (Below.refl _ _)) (Nat.le_refl _)) (by have := HXt.out; omega)).mono ?_; rintro e w4 ⟨rfl, LB⟩; have B4 : Hid (Below W5.heap.size W5 w4) := (below_drewS (Below.refl _ W5)).trans LB; clear LB) | (go_at_call 9; refine (refSum_any a' m c' X _ (HSv.out.below B4.out) (by have := HXt.out; have := HXl.out; omega)).mono ?_; rintro e w5 ⟨rfl, LB⟩; have B5 : Hid (Below W5.heap.size W5 w5) := B4.out.trans (LB.mono B4.out.size); clear LB) | (go_at_call 18; refine (len_yes 73 g 0 [] [] X _ (Hhs.out.below B5.out) rfl).mono ?_; rintro e w6 ⟨rfl, hw6⟩; subst hw6; rw [HXl.out]))
              have HF := hide (HH2.out.below B5.out)
              go_wp2
              refine ⟨?_, ?measure⟩
              (repeat apply Exists.intro)
              refine ⟨?rel, rfl⟩
              case rel => exact ⟨k + 1, ps2, vs2, xs2, by omega, by omega, by go_num, HF, HX2⟩
              case measure => simp [intOf]; omega
            · obtain ⟨hf, hhf⟩ : ∃ hf, m / 2 = hf := ⟨_, rfl⟩
              have hfm : hf ≤ m := by omega
              have hmB : Hid (m ≤ 1048576) := by have h1 := HSL.out; have h2 := HT1.out; have h3 := HFb.out (k + 1); unfold Hid; omega
              have hm := hmB.out
              have hdv : (m : Int).tdiv 2 = (hf : Int) := by rw [Int.tdiv_eq_ediv_of_nonneg (by omega)]; omega
              have hdw : IntKind.i64.wrap (hf : Int) = (hf : Int) := by rw [IntKind.wrap_i64]; omega
              have SB1 := hide ((HS.out.below HH.out.bl).below BW1.out)
              have hltb := BX.out.lt
              go_upto_region 15 with (at_builtin; refine appG 22 1 Tryd.underlying22 Tryd.infoB8 _ rfl (.tmp 51) (.tmp 53) rfl W1.heap.size (.slice (some ⟨W1.heap.size, 0, none⟩) 0 0) [] rfl (OwnG.lit _ [] _ 0 rfl rfl (Nat.le_refl _) (by decide)) a' m c' B rfl (SB1.out.alloc _) m (by simpa using HSL.out) (.inl (by simp)) (by omega) (by omega) (by simp) ?_; intro g1 c1 w2 ho1 hb1 hl1 hc1 hm1 hg1 hat1)
              have B2 : Hid (Below W1.heap.size W1 w2) := ((Below.refl _ W1).alloc (Nat.le_refl _) _).grown hg1 (by simp) (fun k hk => by simp [Value.ownBlock] at hk; omega)
              have O1 : Hid (OwnG .u8 5 w2 W1.heap.size (.slice (some ⟨g1, 0, none⟩) m c1) B) := by unfold Hid; simpa using ho1
              have S1 := hide (O1.out.toSrc (B := 256) HS.out.hdg)
              have H2 := hide (H1.out.below B2.out)
              have BX2 := hide (BX.out.below B2.out)
              have SB2 := hide (SB1.out.below B2.out)
              obtain ⟨gp, hgp⟩ : ∃ gp, ps.getD p 0 = gp := ⟨_, rfl⟩
              have HGp : Hid (w.heap.size + 1 < gp ∧ gp < wr.heap.size) := ⟨hgp ▸ HH.out.ge p hp3, hgp ▸ HH.out.lt p hp3⟩
              have Kp : Hid (Hs 73 w2 gp [] [] (xs.getD p [])) := by unfold Hid; rw [← hgp]; exact H2.out.hs p hp3
              have Hap : Hid (∀ b' o', a' = some ⟨b', o', none⟩ → B ≠ [] → b' ≠ gp) := fun b' o' hb' hx => by have := HS.out.blk b' o' hb' hx; have := HGp.out; omega
              have hg1p : g1 ≠ gp := by have := HGp.out; omega
              obtain ⟨St, hSt⟩ : ∃ St, strOfNums B = St := ⟨_, rfl⟩
              have HCC : Hid (∀ W, w2.grownBy W (some gp) → W.cell? ⟨w.heap.size, p, none⟩ = some (.pointer (some ⟨gp, 0, none⟩)) ∧ W.cell? ⟨wr.heap.size, 3, none⟩ = some (.slice a' m c') ∧ (convert 22 9 (.slice (some ⟨g1, 0, none⟩) m c1)).run Tryd.prog W = .ok (.string St) W ∧ (convert 22 9 (.slice a' m c')).run Tryd.prog W = .ok (.string St) W) := fun W hW => by
                have hgp2 := HGp.out
                refine ⟨?_, ?_, ?_, ?_⟩
                · have h := hW.cell (H2.out.cell p hp3).1 (some_ne (show w.heap.size ≠ gp by omega))
                  rw [hgp] at h
                  exact h
                · exact (BX2.out.kept hW (some_ne (by omega))).cell 3
                · rw [← hSt]
                  exact (S1.out.grown hW (fun b o hb _ => by
                    simp only [Option.some.injEq, Addr.mk.injEq, and_true] at hb
                    exact some_ne (by omega))).toS.text
                · rw [← hSt]
                  exact (SB2.out.grown hW (fun b o hb hx => some_ne (Hap.out b o hb hx))).toS.text
              have hsl1 : ∀ W : World, (Instr.slice 22 (.slice (some ⟨g1, 0, none⟩) m c1) none (some (.int .i64 (hf : Int))) none).run Tryd.prog W = .ok (.slice (some ⟨g1, 0, none⟩) hf c1) W := fun W => by have h := sliceB_hi W (some ⟨g1, 0, none⟩) m c1 _ hf rfl (by omega); rwa [cutG_zero] at h
              have hsl2 : ∀ W : World, (Instr.slice 22 (.slice (some ⟨g1, 0, none⟩) m c1) (some (.int .i64 (hf : Int))) none none).run Tryd.prog W = .ok (.slice (cutG (some ⟨g1, 0, none⟩) c1 hf) (m - hf) (c1 - hf)) W := fun W => sliceB_lo W _ m c1 _ hf rfl hfm
              obtain ⟨a3, ha3⟩ : ∃ a3, cutG (some ⟨g1, 0, none⟩) c1 hf = a3 := ⟨_, rfl⟩
              have Sa : Hid (SrcG .u8 256 w2 (some ⟨g1, 0, none⟩) hf c1 (B.take hf)) := by unfold Hid; have h := S1.out.cut 0 hf (Nat.zero_le _) hfm; simpa [cutG_zero] using h
              have Sb : Hid (SrcG .u8 256 w2 a3 (m - hf) (c1 - hf) (B.drop hf)) := by
                have h := S1.out.cut hf m hfm (Nat.le_refl _)
                rw [ha3, List.take_of_length_le (by rw [HSL.out]; exact Nat.le_refl _)] at h
                exact h
              have Hap3 : Hid (∀ b' o', a3 = some ⟨b', o', none⟩ → B.drop hf ≠ [] → b' ≠ gp) := fun b' o' hb' hx => by
                have hne : B ≠ [] := by intro h; rw [h] at hx; simp at hx
                exact cut_apart S1.out hne (fun b o hb _ => by
                  simp only [Option.some.injEq, Addr.mk.injEq, and_true] at hb
                  omega) b' o' (ha3.trans hb') hx
              rw [ha3] at hsl2
              clear ha3 ho1 hg1 hat1 hdv hdw x0 x3 BX
              have hKl := Kp.out.lt
              have KV := hide (Kp.out.below ((Below.refl w2.heap.size w2).alloc (Nat.le_refl _) (.cells #[.slice (some ⟨g1, 0, none⟩) hf c1, .slice a3 (m - hf) (c1 - hf)] 22)))
              have PV : Hid (Pcs (w2.alloc (.cells #[.slice (some ⟨g1, 0, none⟩) hf c1, .slice a3 (m - hf) (c1 - hf)] 22)) gp (some ⟨w2.heap.size, 0, none⟩) 2 [B.take hf, B.drop hf]) := Pcs.two ((Blk.new (T := 22) w2 [.slice (some ⟨g1, 0, none⟩) hf c1, .slice a3 (m - hf) (c1 - hf)] _ _ rfl rfl).cell 0) ((Blk.new (T := 22) w2 [.slice (some ⟨g1, 0, none⟩) hf c1, .slice a3 (m - hf) (c1 - hf)] _ _ rfl rfl).cell 1) (by omega) (Sa.out.alloc _) (Sb.out.alloc _) (fun b o hb _ => by
                simp only [Option.some.injEq, Addr.mk.injEq, and_true] at hb
                omega) Hap3.out
              have TV := hide (HT.out.below (B := w.heap.size) (H2.out.bl.alloc H2.out.bl.size (.cells #[.slice (some ⟨g1, 0, none⟩) hf c1, .slice a3 (m - hf) (c1 - hf)] 22)) (by have := HLt.out; omega))
              have h2G : Hid (2 ≤ gp) := by have := HLt.out; have := HGp.out; unfold Hid; omega
              have HBB : Hid ([B.take hf, B.drop hf].flatten = B) := by unfold Hid; simp
              have HXp : Hid ((xs.getD p []).length ≤ 1048576) := Nat.le_trans (HX.out p hp3) (HFb.out k)
              have HGA : Hid (w2.grownBy (w2.alloc (.cells #[.slice (some ⟨g1, 0, none⟩) hf c1, .slice a3 (m - hf) (c1 - hf)] 22)) (some gp)) := gOfBelow ((Below.refl _ _).alloc (Nat.le_refl _) _)
              have HG0 : Hid (w2.grownBy w2 (some gp)) := World.grownBy.refl _ _
              have pI : (p : Int) < 3 := by omega
              have p0 : (0 : Int) ≤ (p : Int) := by omega
              have f0 : (0 : Int) ≤ (hf : Int) := by omega
              have f1 : (hf : Int) ≤ (m : Int) := by omega
              go_region_held3 (fun W => W.cell? ⟨w.heap.size, p, none⟩ = some (.pointer (some ⟨gp, 0, none⟩)) ∧ W.cell? ⟨wr.heap.size, 3, none⟩ = some (.slice a' m c') ∧ (convert 22 9 (.slice (some ⟨g1, 0, none⟩) m c1)).run Tryd.prog W = .ok (.string St) W ∧ (convert 22 9 (.slice a' m c')).run Tryd.prog W = .ok (.string St) W) (first | exact HCC.out _ G3.out | exact HCC.out _ ⟨HGA.out.os, HGA.out.tape, HGA.out.output, HGA.out.size, HGA.out.block⟩ | exact HCC.out _ ⟨HG0.out.os, HG0.out.tape, HG0.out.output, HG0.out.size, HG0.out.block⟩) (first | (go_at_call 16; (refine (write_yes 73 gp 0 [] [] (xs.getD p []) (some ⟨w2.heap.size, 0, none⟩) 2 2 [B.take hf, B.drop hf] _ (KV.out.heap (by rfl)) rfl (PV.out.below (by exact ⟨rfl, rfl, rfl, Nat.le_refl _, fun _ _ => rfl⟩)) (TV.out.below (B := 2) (by exact ⟨rfl, rfl, rfl, Nat.le_refl _, fun _ _ => rfl⟩) (Nat.le_refl _)) h2G.out (by rw [HBB.out]; have h3 := HXp.out; have h4 := HSL.out; omega) (by omega)).mono ?_; rintro e w3 ⟨rfl, hK3, hG3⟩; rw [HBB.out] at hK3; have K3 := hide hK3; have G3 : Hid (w2.grownBy w3 (some gp)) := gTrans (show w2.grownBy (w2.alloc (.cells #[.slice (some ⟨g1, 0, none⟩) hf c1, .slice a3 (m - hf) (c1 - hf)] 22)).drew (some gp) from ⟨HGA.out.os, HGA.out.tape, HGA.out.output, HGA.out.size, HGA.out.block⟩) hG3; clear hK3 hG3)))
              have H4 : Hid (H3 w w3 ps vs (xs.set p (xs.getD p [] ++ B)) xs) := H2.out.wrote p hp3 (xs.getD p [] ++ B) (by rw [hgp]; exact G3.out) (by rw [hgp]; exact K3.out)
              have BX4 := hide (BX2.out.kept G3.out (some_ne (by have := HGp.out; omega)))
              have SB4 := hide (SB2.out.grown G3.out (fun b o hb hx => some_ne (Hap.out b o hb hx)))
              have O4 := hide (O1.out.kept G3.out (.inr (by simp [Value.ownBlock]; exact hg1p)))
              have hg1l : g1 < w3.heap.size := Nat.lt_of_lt_of_le hl1 G3.out.size
              clear Kp HCC hsl1 hsl2 Sa Sb Hap3 KV PV TV h2G HBB HGA HG0 K3 G3 S1 O1 H2 BX2 SB2
              obtain ⟨N, hN⟩ : ∃ N, (xs.getD p [] ++ B).length = N := ⟨_, rfl⟩
              have HN := hide hN
              have hNI : N ≤ 2097152 := by have h1 := HXp.out; have h2 := HSL.out; rw [← hN, List.length_append]; omega
              clear hN
              go_upto_region 17 with fail
              go_cut [11] (fun v wx => ∃ (g2 c2 : Nat), v = .slice (some ⟨g1, 0, none⟩) m c1 ∧ g1 < g2 ∧ Hid (H3 w wx ps (vs.set p (.slice (some ⟨g2, 0, none⟩) N c2)) (xs.set p (xs.getD p [] ++ B)) (xs.set p (xs.getD p [] ++ B))) ∧ Hid (OwnG .u8 5 wx W1.heap.size (.slice (some ⟨g1, 0, none⟩) m c1) B))
              case first =>
                obtain ⟨av, mv, cv, hv, hsv, _⟩ := H4.out.sv p hp3
                have hcv := (H4.out.cell p hp3).2.1
                have hfv := (H4.out.cell p hp3).2.2.2
                rw [hv] at hcv
                have y3 : w3.cell? ⟨wr.heap.size, 3, none⟩ = some (.slice a' m c') := BX4.out.cell 3
                have l1 := H4.out.want.lt
                have l2 := BX4.out.lt
                have HSv := hide hsv
                have HLv := hide hsv.hlen
                have mvI : mv ≤ 1048576 := by have h1 := HXp.out; have h2 := hsv.hlen; omega
                have HD : Hid (Dg 256 (xs.getD p [] ++ B)) := fun x hx => by
                  rcases List.mem_append.1 hx with h | h
                  · exact HSv.out.hdg x h
                  · exact HS.out.hdg x h
                clear hsv hv
                go_region_law (first | (refine step_appN _ rfl (.tmp 76) (.tmp 79) rfl w3.heap.size (.slice (some ⟨w3.heap.size, 0, none⟩) 0 0) [] ?_ ?_ av mv cv (xs.getD p []) ?_ ?_ mv ?_ ?_ ?_ ?_ ?_; exact rfl; exact OwnB.litAt (w := w3) w3.heap.size _ [] _ 0 rfl rfl rfl (Nat.le_refl _) (by decide); exact rfl; exact (HSv.out.toS.alloc _).heap rfl; (simpa using HLv.out); (exact .inl (by simp)); omega; (focus (simp; try omega)); intro g5 c5 w5 ho5 hb5 hl5 hc5 hm5 hg5; have B5 : Hid (Below w3.heap.size w3 w5) := (Below.grown (w := (w3.alloc (.cells #[] 5))) ((Below.refl _ w3).alloc (Nat.le_refl _) _) (show (w3.alloc (.cells #[] 5)).grownBy w5 (some w3.heap.size) from ⟨hg5.os, hg5.tape, hg5.output, hg5.size, hg5.block⟩) (by simp) (fun k hk => by simp at hk; omega)); have z3 : w5.cell? ⟨wr.heap.size, 3, none⟩ = some (.slice a' m c') := (B5.out.cell (p := ⟨wr.heap.size, 3, none⟩) l2).trans y3; have SB5 := hide (SB4.out.below B5.out)) | (refine step_appN _ rfl (.tmp 80) (.tmp 82) rfl w3.heap.size (.slice (some ⟨g5, 0, none⟩) mv c5) ([] ++ xs.getD p []) ?_ ?_ a' m c' B ?_ ?_ N ?_ ?_ ?_ ?_ ?_; exact rfl; exact ho5; exact rfl; exact SB5.out.toS; (simpa using HN.out); (exact .inl (by simp)); omega; exact B5.out.size; intro g2 c2 w6 ho6 hb6 hl6 hc6 hm6 hg6; have B6 : Hid (Below w3.heap.size w3 w6) := B5.out.grown hg6 B5.out.size (fun k hk => by simp [Value.ownBlock] at hk; omega); have hcw : w6.cell? ⟨w.heap.size + 1, p, none⟩ = some (.slice av mv cv) := (B6.out.cell (p := ⟨w.heap.size + 1, p, none⟩) l1).trans hcv; have hfw : w6.frozen? ⟨w.heap.size + 1, p, none⟩ = false := (H4.out.want.below B6.out).frozen p))
                all_goals
                  go_wp2_with fail
                  go_meet
                  case rel =>
                    refine ⟨g2, c2, rfl, by omega, ?_, ?_⟩
                    · have O6 : OwnG .u8 5 w6 w3.heap.size (.slice (some ⟨g2, 0, none⟩) N c2) (xs.getD p [] ++ B) := by have h := ho6; rw [List.nil_append] at h; exact h
                      exact (H4.out.below B6.out).text p hp3 (some ⟨g2, 0, none⟩) N c2 (xs.getD p [] ++ B) (O6.toSrc (B := 256) HD.out) (fun b o hb _ => by
                        simp only [Option.some.injEq, Addr.mk.injEq, and_true] at hb
                        obtain ⟨rfl, rfl⟩ := hb
                        exact ⟨by omega, fun i hi => by have := H4.out.lt i hi; omega⟩)
                    · exact (O4.out.belowA B6.out).setBelow (show w.heap.size + 1 < W1.heap.size from H1.out.want.lt) _
              case rest =>
                obtain ⟨g2, c2, rfl, hg12, H5, O5⟩ := hcut
                have HKp : Hid (∀ j, j < 3 → ps.getD j 0 ≠ g1) := fun j hj => by have := H1.out.lt j hj; omega
                have HKv : Hid (∀ j, j < 3 → ∀ b o n' c', (vs.set p (.slice (some ⟨g2, 0, none⟩) N c2)).getD j nilS = .slice (some ⟨b, o, none⟩) n' c' → (xs.set p (xs.getD p [] ++ B)).getD j [] ≠ [] → b ≠ g1) := fun j hj b o n' c' h1 h2 => by
                  by_cases e : p = j
                  · subst e
                    rw [getD_set_self _ _ _ _ (by rw [HH.out.lv]; exact hp3)] at h1
                    simp only [Value.slice.injEq, Option.some.injEq, Addr.mk.injEq, and_true] at h1
                    omega
                  · rw [getD_set_ne _ _ _ _ _ e] at h1 h2
                    obtain ⟨a9, n9, c9, k1, k2, _⟩ := H1.out.sv j hj
                    rw [h1] at k1
                    simp only [Value.slice.injEq] at k1
                    have := k2.blk b o k1.1.symm h2
                    omega
                have HZL : Hid (∀ j, j < 3 → ((xs.set p (xs.getD p [] ++ B)).getD j []).length ≤ totA es (k + 1)) := fun j hj => by
                  have h3 := HT1.out
                  by_cases e : p = j
                  · subst e
                    have h1 := HX.out p hp3
                    rw [getD_set_self _ _ _ _ (by rw [HH.out.lx]; exact hp3), List.length_append]
                    omega
                  · have h1 := HX.out j hj
                    rw [getD_set_ne _ _ _ _ _ e]
                    omega
                have HG1 : Hid (w.heap.size + 1 < g1) := by have := H1.out.want.lt; unfold Hid; omega
                have HBL := hide HSL.out
                have hmI : (m : Int) ≤ 1048576 := by omega
                clear H4 BX4 SB4 O4 HXp Hap HGp hgp HN H1 BW1 HX HH HS SB1 B2
                obtain ⟨VS, hVS⟩ : ∃ VS, vs.set p (.slice (some ⟨g2, 0, none⟩) N c2) = VS := ⟨_, rfl⟩
                obtain ⟨XS, hXS⟩ : ∃ XS, xs.set p (xs.getD p [] ++ B) = XS := ⟨_, rfl⟩
                rw [hVS, hXS] at H5 HKv
                rw [hXS] at HZL
                clear hVS hXS
                go_upto_region 19 with fail
                go_loopw [12] (fun i wy => ∃ (t : Nat) (zs : List Int), t ≤ m ∧ i = .int .i64 t ∧ Hid (OwnG .u8 5 wy W1.heap.size (.slice (some ⟨g1, 0, none⟩) m c1) zs) ∧ Hid (zs.length = m) ∧ Hid (wc.grownBy wy (some g1))) (fun i _ => m - (intOf i).toNat)
                case atStart => exact ⟨0, B, by omega, rfl, O5, HBL, World.grownBy.refl _ _⟩
                case round =>
                  obtain ⟨t, zs, ht, rfl, HOr, HLr, HGr⟩ := hrel
                  obtain ⟨W5, rfl⟩ : ∃ W5, W5 = wr := ⟨_, rfl⟩
                  by_cases hlt : t < m
                  · have hcell := HOr.out.cell t (by rw [HLr.out]; exact hlt)
                    have hfr := HOr.out.frozen t
                    have hltI : (t : Int) < (m : Int) := by omega
                    have HST := hide (fun u => HOr.out.stored t u)
                    generalize zs.getD t 0 = z at hcell
                    go_wp2
                    go_roundw
                    case rel => exact ⟨t + 1, _, by omega, by go_num, (HST.out _).1, by unfold Hid; rw [List.length_set]; exact HLr.out, gTrans HGr.out (HST.out _).2⟩
                    case measure => simp [intOf]; omega
                  · obtain rfl : t = m := by omega
                    have H6 := hide (H5.out.kept HGr.out HG1.out HKp.out HKv.out)
                    have HZ : Hid (∃ ps2 vs2 xs2, H3 w W5 ps2 vs2 xs2 xs2 ∧ ∀ j, j < 3 → (xs2.getD j []).length ≤ totA es (k + 1)) := ⟨_, _, _, H6.out, HZL.out⟩
                    clear HOr HLr HGr H6 H5 O5 HKp HKv HZL HG1 HBL HSL
                    go_upto_region 28 with fail
                    obtain ⟨ps2, vs2, xs2, HH2', HX2'⟩ := HZ.out
                    have pI : (p : Int) < 3 := by omega
                    have p0 : (0 : Int) ≤ (p : Int) := by omega
                    have HH2 := hide HH2'
                    have HX2 := hide HX2'
                    have HX2e : Hid (∀ j, j < 3 → (xs2.getD j []).length ≤ 1048576) := fun j hj => Nat.le_trans (HX2.out j hj) (HFb.out (k + 1))
                    clear HZ HH2' HX2'
                    obtain ⟨hc1, hc2, hf1, hf2⟩ := HH2.out.cell p hp3
                    obtain ⟨a', m, c', hv, hsv, _⟩ := HH2.out.sv p hp3
                    obtain ⟨g, hg⟩ : ∃ g, ps2.getD p 0 = g := ⟨_, rfl⟩
                    rw [hv] at hc2
                    rw [hg] at hc1
                    unfold hp at hc1
                    have HSv := hide hsv
                    have Hhs := hide (HH2.out.hs p hp3)
                    rw [hg] at Hhs
                    have HXt := hide (HX2e.out p hp3)
                    have HXl := hide hsv.hlen
                    have HTr := hide (HT.out.below HH2.out.bl (by have := HLt.out; omega))
                    have hq := neD_same (dig (xs2.getD p [])) (dig_len _)
                    have HCC : Hid (∀ W, Below W5.heap.size W5 W → W.cell? ⟨w.heap.size, p, none⟩ = some (.pointer (some ⟨g, 0, none⟩)) ∧ W.cell? ⟨w.heap.size + 1, p, none⟩ = some (.slice a' m c')) := fun W hW => ⟨(hW.cell (p := ⟨w.heap.size, p, none⟩) HH2.out.own.lt).trans hc1, (hW.cell (p := ⟨w.heap.size + 1, p, none⟩) HH2.out.want.lt).trans hc2⟩
                    generalize xs2.getD p [] = X at hsv HSv Hhs HXt HXl hq
                    clear hsv
                    go_wp2_with fail
                    go_region_held3 (fun W => W.cell? ⟨w.heap.size, p, none⟩ = some (.pointer (some ⟨g, 0, none⟩)) ∧ W.cell? ⟨w.heap.size + 1, p, none⟩ = some (.slice a' m c')) (first | exact HCC.out _ B5.out | exact HCC.out _ B4.out | exact HCC.out _ (below_drewS (Below.refl _ _)) | exact HCC.out _ (Below.refl _ _)) (first | (go_at_call 17; refine (hsum_yes 73 g 0 [] [] X _ (Hhs.out.below (below_drewS (Below.refl _ _))) rfl (HTr.out.below (B := 2) (below_drewS (Below.refl _ _)) (Nat.le_refl _)) (by have := HXt.out; omega)).mono ?_; rintro e w4 ⟨rfl, LB⟩; have B4 : Hid (Below W5.heap.size W5 w4) := (below_drewS (Below.refl _ W5)).trans LB; clear LB) | (go_at_call 9; refine (refSum_any a' m c' X _ (HSv.out.below B4.out) (by have := HXt.out; have := HXl.out; omega)).mono ?_; rintro e w5 ⟨rfl, LB⟩; have B5 : Hid (Below W5.heap.size W5 w5) := B4.out.trans (LB.mono B4.out.size); clear LB) | (go_at_call 18; refine (len_yes 73 g 0 [] [] X _ (Hhs.out.below B5.out) rfl).mono ?_; rintro e w6 ⟨rfl, hw6⟩; subst hw6; rw [HXl.out]))
                    have HF := hide (HH2.out.below B5.out)
                    go_wp2
                    refine ⟨?_, ?measure⟩
                    (repeat apply Exists.intro)
                    refine ⟨?rel, rfl⟩
                    case rel => exact ⟨k + 1, ps2, vs2, xs2, by omega, by omega, by go_num, HF, HX2⟩
                    case measure => simp [intOf]; omega
        · have HXe : Hid (∀ j, j < 3 → (xs.getD j []).length ≤ 1048576) := fun j hj => Nat.le_trans (HX.out j hj) (HFb.out k)
          have hcond : ¬ (k < n) ∨ (k < n ∧ k = 60) := by omega
          rcases hcond with hc | ⟨hc, rfl⟩
          · have hcI : ¬ (k : Int) < (n : Int) := by omega
            go_upto_region 31 with fail
            go_loopw [13] (fun i wr => ∃ (t : Nat), t ≤ 3 ∧ i = .int .i64 (t : Int) ∧ Hid (H3 w wr ps vs xs xs)) (fun i _ => 3 - (intOf i).toNat)
            case atStart => exact ⟨0, by omega, rfl, HH⟩
            case round =>
              clear HH
              obtain ⟨t, ht, rfl, HH⟩ := hrel
              by_cases hlt : t < 3
              · have tI : (t : Int) < 3 := by omega
                obtain ⟨hc1, hc2, hf1, hf2⟩ := HH.out.cell t hlt
                obtain ⟨a', m, c', hv, hsv, _⟩ := HH.out.sv t hlt
                obtain ⟨g, hg⟩ : ∃ g, ps.getD t 0 = g := ⟨_, rfl⟩
                rw [hv] at hc2
                rw [hg] at hc1
                unfold hp at hc1
                have HSv := hide hsv
                have Hhs := hide (HH.out.hs t hlt)
                rw [hg] at Hhs
                have HXt := hide (HXe.out t hlt)
                have HXl := hide hsv.hlen
                have HTr := hide (HT.out.below HH.out.bl (by have := HLt.out; omega))
                have hq := neD_same (dig (xs.getD t [])) (dig_len _)
                have HCC : Hid (∀ W, Below wr.heap.size wr W → W.cell? ⟨w.heap.size, t, none⟩ = some (.pointer (some ⟨g, 0, none⟩)) ∧ W.cell? ⟨w.heap.size + 1, t, none⟩ = some (.slice a' m c')) := fun W hW => ⟨(hW.cell (p := ⟨w.heap.size, t, none⟩) HH.out.own.lt).trans hc1, (hW.cell (p := ⟨w.heap.size + 1, t, none⟩) HH.out.want.lt).trans hc2⟩
                generalize xs.getD t [] = X at hsv HSv Hhs HXt HXl hq
                clear hsv
                go_wp2_with fail
                go_region_held3 (fun W => W.cell? ⟨w.heap.size, t, none⟩ = some (.pointer (some ⟨g, 0, none⟩)) ∧ W.cell? ⟨w.heap.size + 1, t, none⟩ = some (.slice a' m c')) (first | exact HCC.out _ B5.out | exact HCC.out _ B4.out | exact HCC.out _ (below_drewS (Below.refl _ _)) | exact HCC.out _ (Below.refl _ _)) (first | (go_at_call 17; refine (hsum_yes 73 g 0 [] [] X _ (Hhs.out.below (below_drewS (Below.refl _ _))) rfl (HTr.out.below (B := 2) (below_drewS (Below.refl _ _)) (Nat.le_refl _)) (by have := HXt.out; omega)).mono ?_; rintro e w4 ⟨rfl, LB⟩; have B4 : Hid (Below wr.heap.size wr w4) := (below_drewS (Below.refl _ wr)).trans LB; clear LB) | (go_at_call 9; refine (refSum_any a' m c' X _ (HSv.out.below B4.out) (by have := HXt.out; have := HXl.out; omega)).mono ?_; rintro e w5 ⟨rfl, LB⟩; have B5 : Hid (Below wr.heap.size wr w5) := B4.out.trans (LB.mono B4.out.size); clear LB))
                have HF := hide (HH.out.below B5.out)
                go_wp2
                go_roundw
                case rel => exact ⟨t + 1, by omega, by go_num, HF⟩
                case measure => simp [intOf]; omega
              · obtain rfl : t = 3 := by omega
                go_wp2
                go_ret
                exact ⟨rfl, HH.out.bl⟩
          · have hcI : ((60 : Nat) : Int) < (n : Int) := by omega
            go_upto_region 31 with fail
            go_loopw [13] (fun i wr => ∃ (t : Nat), t ≤ 3 ∧ i = .int .i64 (t : Int) ∧ Hid (H3 w wr ps vs xs xs)) (fun i _ => 3 - (intOf i).toNat)
            case atStart => exact ⟨0, by omega, rfl, HH⟩
            case round =>
              clear HH
              obtain ⟨t, ht, rfl, HH⟩ := hrel
              by_cases hlt : t < 3
              · have tI : (t : Int) < 3 := by omega
                obtain ⟨hc1, hc2, hf1, hf2⟩ := HH.out.cell t hlt
                obtain ⟨a', m, c', hv, hsv, _⟩ := HH.out.sv t hlt
                obtain ⟨g, hg⟩ : ∃ g, ps.getD t 0 = g := ⟨_, rfl⟩
                rw [hv] at hc2
                rw [hg] at hc1
                unfold hp at hc1
                have HSv := hide hsv
                have Hhs := hide (HH.out.hs t hlt)
                rw [hg] at Hhs
                have HXt := hide (HXe.out t hlt)
                have HXl := hide hsv.hlen
                have HTr := hide (HT.out.below HH.out.bl (by have := HLt.out; omega))
                have hq := neD_same (dig (xs.getD t [])) (dig_len _)
                have HCC : Hid (∀ W, Below wr.heap.size wr W → W.cell? ⟨w.heap.size, t, none⟩ = some (.pointer (some ⟨g, 0, none⟩)) ∧ W.cell? ⟨w.heap.size + 1, t, none⟩ = some (.slice a' m c')) := fun W hW => ⟨(hW.cell (p := ⟨w.heap.size, t, none⟩) HH.out.own.lt).trans hc1, (hW.cell (p := ⟨w.heap.size + 1, t, none⟩) HH.out.want.lt).trans hc2⟩
                generalize xs.getD t [] = X at hsv HSv Hhs HXt HXl hq
                clear hsv
                go_wp2_with fail
                go_region_held3 (fun W => W.cell? ⟨w.heap.size, t, none⟩ = some (.pointer (some ⟨g, 0, none⟩)) ∧ W.cell? ⟨w.heap.size + 1, t, none⟩ = some (.slice a' m c')) (first | exact HCC.out _ B5.out | exact HCC.out _ B4.out | exact HCC.out _ (below_drewS (Below.refl _ _)) | exact HCC.out _ (Below.refl _ _)) (first | (go_at_call 17; refine (hsum_yes 73 g 0 [] [] X _ (Hhs.out.below (below_drewS (Below.refl _ _))) rfl (HTr.out.below (B := 2) (below_drewS (Below.refl _ _)) (Nat.le_refl _)) (by have := HXt.out; omega)).mono ?_; rintro e w4 ⟨rfl, LB⟩; have B4 : Hid (Below wr.heap.size wr w4) := (below_drewS (Below.refl _ wr)).trans LB; clear LB) | (go_at_call 9; refine (refSum_any a' m c' X _ (HSv.out.below B4.out) (by have := HXt.out; have := HXl.out; omega)).mono ?_; rintro e w5 ⟨rfl, LB⟩; have B5 : Hid (Below wr.heap.size wr w5) := B4.out.trans (LB.mono B4.out.size); clear LB))
                have HF := hide (HH.out.below B5.out)
                go_wp2
                go_roundw
                case rel => exact ⟨t + 1, by omega, by go_num, HF⟩
                case measure => simp [intOf]; omega
              · obtain rfl : t = 3 := by omega
                go_wp2
                go_ret
                exact ⟨rfl, HH.out.bl⟩

end Go.Proofs.YtgajejomibnghaaDoor
