/-
  The document's block.
-/
import Derived.Test.YtgajejomibnghaaDoorSaStp
namespace Go.Proofs.YtgajejomibnghaaDoor
open Go.RowKit Go.IntWalk

theorem Tryd.infoW4 : (Tryd.prog.info? 65).map (fun i => (i.zero, i.size, i.bytes)) = some (some (.int .u32 0), 1, 4) := by kernel_rfl

set_option maxRecDepth 100000 in
set_option maxHeartbeats 16000000 in
theorem block_any (ah ab ak : Option Addr) (ch cb ck : Nat) (hs bs : List Int) (w : World) (hh : SrcG .u32 4294967296 w ah 8 ch hs) (hb : SrcG .u8 256 w ab 64 cb bs) (hk : SrcG .u32 4294967296 w ak 64 ck kL) :
    Calls Tryd.prog 32 #[.slice ah 8 ch, .slice ab 64 cb, .slice ak 64 ck] w fun e w' => ∃ g c', e = .returned (.slice (some ⟨g, 0, none⟩) 8 c') ∧ OwnG .u32 65 w' w.heap.size (.slice (some ⟨g, 0, none⟩) 8 c') (mix hs bs) ∧ w.heap.size ≤ g ∧ g < w'.heap.size ∧ Below w.heap.size w w' := by
  have HH := hide hh
  have HB := hide hb
  have HK := hide hk
  clear hh hb hk
  go_enter Tryd.func32, Tryd.ntmps32
  go_wp2
  go_loopw [7, 8] (fun v i wr => ∃ (t : Nat) (aw : Option Addr) (cw : Nat), t ≤ 16 ∧ v = .slice aw t cw ∧ i = .int .i64 t ∧ Hid (OwnG .u32 65 wr w.heap.size (.slice aw t cw) ((own16 bs).take t)) ∧ Below w.heap.size w wr) (fun _ i _ => 16 - (intOf i).toNat)
  case atStart => exact ⟨0, none, 0, by omega, rfl, rfl, OwnG.nil _ _, Below.refl _ _⟩
  case round =>
    obtain ⟨t, aw, cw, ht, rfl, rfl, HO, hW⟩ := hrel
    by_cases ht16 : t < 16
    · have hbw := HB.out.below hW
      obtain ⟨gb, ob, rfl, c0⟩ := hbw.at (4 * t) (by omega)
      obtain ⟨gb1, ob1, e1, c1⟩ := hbw.at (4 * t + 1) (by omega)
      obtain ⟨gb2, ob2, e2, c2⟩ := hbw.at (4 * t + 2) (by omega)
      obtain ⟨gb3, ob3, e3, c3⟩ := hbw.at (4 * t + 3) (by omega)
      cases e1
      cases e2
      cases e3
      have b0 := hbw.hdg.at (by decide) (4 * t)
      have b1 := hbw.hdg.at (by decide) (4 * t + 1)
      have b2 := hbw.hdg.at (by decide) (4 * t + 2)
      have b3 := hbw.hdg.at (by decide) (4 * t + 3)
      have HN : Hid ((own16 bs).take t ++ [w4 (bs.getD (4 * t) 0) (bs.getD (4 * t + 1) 0) (bs.getD (4 * t + 2) 0) (bs.getD (4 * t + 3) 0)] = (own16 bs).take (t + 1)) := (own_take bs t ht16).symm
      have HLn : Hid (((own16 bs).take t).length = t) := by unfold Hid; rw [List.length_take, own_len]; omega
      generalize bs.getD (4 * t) 0 = x0 at *
      generalize bs.getD (4 * t + 1) 0 = x1 at *
      generalize bs.getD (4 * t + 2) 0 = x2 at *
      generalize bs.getD (4 * t + 3) 0 = x3 at *
      have HWB := hide (w4_bd b0 b1 b2 b3)
      obtain ⟨q0, h0⟩ : ∃ q, 4 * t = q := ⟨_, rfl⟩
      obtain ⟨q1, h1⟩ : ∃ q, 4 * t + 1 = q := ⟨_, rfl⟩
      obtain ⟨q2, h2⟩ : ∃ q, 4 * t + 2 = q := ⟨_, rfl⟩
      obtain ⟨q3, h3⟩ : ∃ q, 4 * t + 3 = q := ⟨_, rfl⟩
      have e0 : IntKind.i64.wrap (4 * (t : Int)) = (q0 : Int) := by rw [i64_in _ (by omega)]; omega
      have e1 : IntKind.i64.wrap ((q0 : Int) + 1) = (q1 : Int) := by rw [i64_in _ (by omega)]; omega
      have e2 : IntKind.i64.wrap ((q0 : Int) + 2) = (q2 : Int) := by rw [i64_in _ (by omega)]; omega
      have e3 : IntKind.i64.wrap ((q0 : Int) + 3) = (q3 : Int) := by rw [i64_in _ (by omega)]; omega
      have p0 : (0 : Int) ≤ (q0 : Int) := by omega
      have p1 : (0 : Int) ≤ (q1 : Int) := by omega
      have p2 : (0 : Int) ≤ (q2 : Int) := by omega
      have p3 : (0 : Int) ≤ (q3 : Int) := by omega
      have l0 : (q0 : Int) < 64 := by omega
      have l1 : (q1 : Int) < 64 := by omega
      have l2 : (q2 : Int) < 64 := by omega
      have l3 : (q3 : Int) < 64 := by omega
      rw [h0] at c0
      rw [h1] at c1
      rw [h2] at c2
      rw [h3] at c3
      have hgb : gb < w.heap.size := HB.out.blk gb ob rfl (by intro h'; have := HB.out.hlen; rw [h'] at this; simp at this)
      have hgr : gb < wr.heap.size := Nat.lt_of_lt_of_le hgb hW.size
      have HGN := hide (HO.out.ne_row (.inl hgb))
      have HCK : Hid (∀ (W W1 : World) (o : Obj), W.heap = (wr.alloc o).heap → W.grownBy W1 (Value.slice aw t cw).ownBlock → W1.cell? ⟨gb, ob + q0, none⟩ = some (.int .u8 x0) ∧ W1.cell? ⟨gb, ob + q1, none⟩ = some (.int .u8 x1) ∧ W1.cell? ⟨gb, ob + q2, none⟩ = some (.int .u8 x2) ∧ W1.cell? ⟨gb, ob + q3, none⟩ = some (.int .u8 x3)) := by
        intro W W1 o hW hg
        have e : ∀ i, W.cell? ⟨gb, i, none⟩ = wr.cell? ⟨gb, i, none⟩ := fun i => (World.cell?_of_block (w := wr.alloc o) (by rw [hW])).trans (World.cell?_alloc_lt _ _ _ hgr)
        exact ⟨hg.cell ((e _).trans c0) HGN.out, hg.cell ((e _).trans c1) HGN.out, hg.cell ((e _).trans c2) HGN.out, hg.cell ((e _).trans c3) HGN.out⟩
      have HDW : Hid (Dg 4294967296 [w4 x0 x1 x2 x3]) := by intro x hx; rw [List.mem_singleton] at hx; subst hx; exact HWB.out
      have HLW : Hid (((own16 bs).take t ++ [w4 x0 x1 x2 x3]).length = t + 1) := by unfold Hid; rw [List.length_append, HLn.out]; rfl
      have hWs := hW.size
      have HWR : Hid (IntKind.u32.wrap (IntKind.u32.wrap (IntKind.u32.wrap (IntKind.u32.wrap (IntKind.u32.wrap x0 * 16777216) + IntKind.u32.wrap (IntKind.u32.wrap x1 * 65536)) + IntKind.u32.wrap (IntKind.u32.wrap x2 * 256)) + IntKind.u32.wrap x3) = w4 x0 x1 x2 x3) := by
        unfold Hid w4
        simp only [IntKind.wrap_u32]
        omega
      clear hbw h0 h1 h2 h3
      go_wp2_with fail
      go_region_held3 (fun W => W.cell? ⟨gb, ob + q0, none⟩ = some (.int .u8 x0) ∧ W.cell? ⟨gb, ob + q1, none⟩ = some (.int .u8 x1) ∧ W.cell? ⟨gb, ob + q2, none⟩ = some (.int .u8 x2) ∧ W.cell? ⟨gb, ob + q3, none⟩ = some (.int .u8 x3)) (first | exact ⟨by assumption, by assumption, by assumption, by assumption⟩ | go_keep) ((refine step_appG (B := 4294967296) 4 Tryd.underlying66 Tryd.infoW4 _ rfl (.tmp 23) (.tmp 57) rfl w.heap.size (.slice aw t cw) ((own16 bs).take t) ?_ ?_ ⟨wr.heap.size, 0, none⟩ 1 1 [w4 x0 x1 x2 x3] ?_ ?_ (t + 1) HLW.out (List.cons_ne_nil _ _) ?_ ?_ ?_ ?_; exact rfl; exact (HO.out.heap (w' := wr.drewN _) rfl).alloc _; exact rfl; refine SrcG.litAt (B := 4294967296) (w := wr.drewN _) [w4 x0 x1 x2 x3] _ 1 _ ?_ rfl HDW.out ?_ ?_; exact congrArg (fun z => #[Value.int .u32 z]) HWR.out; decide; exact rfl; omega; omega; (focus (simp; omega)); intro g1 c2 w1 ho1 hb1 hl1 hc1 hm1 hg1 _; obtain ⟨k0, k1, k2, k3⟩ := HCK.out _ _ _ (by rfl) hg1))
      have hW1 : Below w.heap.size w w1 := ((hW.alloc hW.size _).drew).grown hg1 (by have := hW.size; simp; omega) (by intro k hk; exact (HO.out.lt k hk).1)
      rw [HN.out] at ho1
      have HO1 := hide ho1
      clear ho1 hg1
      go_wp2
      go_roundw
      case rel => exact ⟨t + 1, _, _, by omega, rfl, by go_num, HO1, hW1⟩
      case measure => simp [intOf]; omega
    · obtain rfl : t = 16 := by omega
      rcases HO.out.split with ⟨_, hx⟩ | ⟨gw, cw', hv, hgw1, hgw2, hgw3, hgw4⟩
      · have := congrArg List.length hx
        rw [List.length_take, own_len] at this
        simp at this
      rw [List.take_of_length_le (by rw [own_len]; omega)] at hv HO
      simp [own_len] at hv
      obtain ⟨rfl, rfl⟩ := hv
      clear hgw3 hgw4 ht16
      have HDB := hide HB.out.hdg
      go_wp2
      go_loopw [7, 9] (fun v i wq => ∃ (t g cw : Nat), 16 ≤ t ∧ t ≤ 64 ∧ v = .slice (some ⟨g, 0, none⟩) t cw ∧ i = .int .i64 t ∧ Hid (OwnG .u32 65 wq w.heap.size (.slice (some ⟨g, 0, none⟩) t cw) (ext (own16 bs) (t - 16))) ∧ w.heap.size ≤ g ∧ g < wq.heap.size ∧ Below w.heap.size w wq) (fun _ i _ => 64 - (intOf i).toNat)
      case atStart => exact ⟨16, gw, cw, by omega, by omega, rfl, rfl, HO, hgw1, hgw2, hW⟩
      case round =>
        clear HO hW hgw1 hgw2
        obtain ⟨t, g, cw, ht1, ht2, rfl, rfl, HO, hg1, hg2, hW⟩ := hrel
        by_cases ht64 : t < 64
        · have HLn : Hid ((ext (own16 bs) (t - 16)).length = t) := by unfold Hid; rw [ext_len, own_len]; omega
          have HDg := hide (ext_dg (own_dg HDB.out) (t - 16))
          have hc : ∀ j, j < t → wr.cell? ⟨g, j, none⟩ = some (.int .u32 ((ext (own16 bs) (t - 16)).getD j 0)) := fun j hj => HO.out.cell j (by rw [HLn.out]; exact hj)
          have c15 := hc (t - 15) (by omega)
          have c2 := hc (t - 2) (by omega)
          have c16 := hc (t - 16) (by omega)
          have c7 := hc (t - 7) (by omega)
          have b15 := HDg.out.at (by decide) (t - 15)
          have b2 := HDg.out.at (by decide) (t - 2)
          have b16 := HDg.out.at (by decide) (t - 16)
          have b7 := HDg.out.at (by decide) (t - 7)
          have HE : Hid (((ext (own16 bs) (t - 16)).getD (t - 16) 0 + sg0 ((ext (own16 bs) (t - 16)).getD (t - 15) 0) + (ext (own16 bs) (t - 16)).getD (t - 7) 0 + sg1 ((ext (own16 bs) (t - 16)).getD (t - 2) 0)) % 4294967296 = nextW (ext (own16 bs) (t - 16))) := by
            unfold Hid nextW
            rw [HLn.out]
          clear hc
          obtain ⟨y16, hy16⟩ : ∃ y, (ext (own16 bs) (t - 16)).getD (t - 16) 0 = y := ⟨_, rfl⟩
          obtain ⟨y7, hy7⟩ : ∃ y, (ext (own16 bs) (t - 16)).getD (t - 7) 0 = y := ⟨_, rfl⟩
          have g16 : Hid (some (Value.int .u32 ((ext (own16 bs) (t - 16)).getD (t - 16) 0)) = some (Value.int .u32 y16)) := by unfold Hid; rw [hy16]
          have g7 : Hid (some (Value.int .u32 ((ext (own16 bs) (t - 16)).getD (t - 7) 0)) = some (Value.int .u32 y7)) := by unfold Hid; rw [hy7]
          rw [hy16] at c16 b16 HE
          rw [hy7] at c7 b7 HE
          clear hy16 hy7
          generalize (ext (own16 bs) (t - 16)).getD (t - 15) 0 = x15 at *
          generalize (ext (own16 bs) (t - 16)).getD (t - 2) 0 = x2 at *
          obtain ⟨a16, h16⟩ : ∃ a, t - 16 = a := ⟨_, rfl⟩
          obtain ⟨a7, h7⟩ : ∃ a, t - 7 = a := ⟨_, rfl⟩
          have e16 : IntKind.i64.wrap ((t : Int) - 16) = (a16 : Int) := by rw [i64_in _ (by omega)]; omega
          have e7 : IntKind.i64.wrap ((t : Int) - 7) = (a7 : Int) := by rw [i64_in _ (by omega)]; omega
          have p16 : (0 : Int) ≤ (a16 : Int) := by omega
          have p7 : (0 : Int) ≤ (a7 : Int) := by omega
          have q16 : (a16 : Int) < (t : Int) := by omega
          have q7 : (a7 : Int) < (t : Int) := by omega
          have qt : (t : Int) < 64 := by omega
          have pt : (16 : Int) ≤ (t : Int) := by omega
          have HEX : Hid (ext (own16 bs) (t - 16) ++ [nextW (ext (own16 bs) (t - 16))] = ext (own16 bs) (t + 1 - 16)) := by unfold Hid; rw [show t + 1 - 16 = (t - 16) + 1 by omega, ext]
          generalize hZ : ext (own16 bs) (t - 16) = Z at *
          have HZ := hide hZ
          generalize hNW : nextW Z = NW at *
          have HNB : Hid (0 ≤ NW ∧ NW < 4294967296) := by rw [← hNW]; exact nextW_bd _
          have HI16 : Hid (a16 < Z.length) := by unfold Hid; rw [HLn.out]; omega
          have HI7 : Hid (a7 < Z.length) := by unfold Hid; rw [HLn.out]; omega
          have HC16 : Hid (some (Value.int .u32 (Z.getD a16 0)) = some (.int .u32 y16)) := by rw [← h16]; exact g16.out
          have HC7 : Hid (some (Value.int .u32 (Z.getD a7 0)) = some (.int .u32 y7)) := by rw [← h7]; exact g7.out
          rw [h16] at c16
          rw [h7] at c7
          have HT16 := hide h16
          have HT7 := hide h7
          clear h16 h7 hZ hNW
          go_wp2_with ((go_at_call 46; (first | refine (turned_any _ _ 7 (by rfl) (by decide) (by decide) _).mono ?_ | refine (turned_any _ _ 18 (by rfl) (by decide) (by decide) _).mono ?_ | refine (turned_any _ _ 17 (by rfl) (by decide) (by decide) _).mono ?_ | refine (turned_any _ _ 19 (by rfl) (by decide) (by decide) _).mono ?_); rintro e w2 ⟨rfl, hw⟩; have hw2 := hw.symm; subst hw2))
          have HWR : Hid (IntKind.u32.wrap (IntKind.u32.wrap (IntKind.u32.wrap (y16 + bits .xor .u32 (bits .xor .u32 (ror x15 7) (ror x15 18)) (x15 / 8)) + y7) + bits .xor .u32 (bits .xor .u32 (ror x2 17) (ror x2 19)) (x2 / 1024)) = NW) := by
            unfold Hid
            rw [← HE.out]
            unfold sg0 sg1
            simp only [IntKind.wrap_u32]
            omega
          have HDW : Hid (Dg 4294967296 [NW]) := by intro x hx; rw [List.mem_singleton] at hx; subst hx; exact HNB.out
          have HLW : Hid ((Z ++ [NW]).length = t + 1) := by unfold Hid; rw [List.length_append, HLn.out]; rfl
          have hWs := hW.size
          go_region_held3 (fun W => W.cell? ⟨g, a16, none⟩ = some (.int .u32 y16) ∧ W.cell? ⟨g, a7, none⟩ = some (.int .u32 y7)) (first | exact ⟨by assumption, by assumption⟩ | go_keep) ((refine step_appG (B := 4294967296) 4 Tryd.underlying66 Tryd.infoW4 _ rfl (.tmp 89) (.tmp 105) rfl w.heap.size (.slice (some ⟨g, 0, none⟩) t cw) Z ?_ ?_ ⟨wr.heap.size, 0, none⟩ 1 1 [NW] ?_ ?_ (t + 1) HLW.out (List.cons_ne_nil _ _) ?_ ?_ ?_ ?_; exact rfl; exact (HO.out.heap (w' := wr.drewN _) rfl).alloc _; exact rfl; refine SrcG.litAt (B := 4294967296) (w := wr.drewN _) [NW] _ 1 _ ?_ rfl HDW.out ?_ ?_; exact congrArg (fun z => #[Value.int .u32 z]) HWR.out; decide; exact rfl; omega; omega; (focus (simp; omega)); intro g1 c2 w1 ho1 hb1 hl1 hc1 hm1 hgr1 hold1; have k0 := (hold1 _ _ _ rfl a16 HI16.out).trans HC16.out; have k1 := (hold1 _ _ _ rfl a7 HI7.out).trans HC7.out; clear hold1))
          have hW1 : Below w.heap.size w w1 := ((hW.alloc hW.size _).drew).grown hgr1 (by have := hW.size; simp; omega) (by intro k hk; cases hk; exact hg1)
          rw [HEX.out] at ho1
          have HO1 := hide ho1
          clear ho1 hgr1
          go_wp2
          refine ⟨?_, ?measure⟩
          (repeat apply Exists.intro)
          refine ⟨?rel, rfl⟩
          case rel => exact ⟨t + 1, _, _, by omega, by omega, rfl, by go_num, HO1, hb1, hl1, hW1⟩
          case measure => simp [intOf]; omega
        · obtain rfl : t = 64 := by omega
          have HSC : Hid (OwnG .u32 65 wr w.heap.size (.slice (some ⟨g, 0, none⟩) 64 cw) (sched bs)) := HO
          clear HO ht1 ht2 ht64
          have HHL := hide HH.out.hlen
          have HHD := hide HH.out.hdg
          obtain ⟨W2, hW2⟩ : ∃ W, W = wr := ⟨_, rfl⟩
          subst hW2
          go_wp2_with (first | (at_builtin; refine appG 66 4 Tryd.underlying66 Tryd.infoW4 _ rfl (.tmp 107) (.tmp 108) rfl W2.heap.size (.slice (some ⟨W2.heap.size, 0, none⟩) 0 0) [] rfl (OwnG.lit _ [] _ 0 rfl rfl (Nat.le_refl _) (by decide)) ah 8 ch hs rfl ((HH.out.below hW).alloc _) 8 (by simpa using HHL.out) (.inl (by simp)) (by omega) (by omega) (by simp) ?_; intro gv cv w1 ho1 hb1 hl1 hc1 hm1 hgr1 hat1) | fail)
          have hB1 : Below W2.heap.size W2 w1 := ((Below.refl _ _).alloc (Nat.le_refl _) _).grown hgr1 (by simp) (by intro k hk; cases hk; exact Nat.le_refl _)
          rw [List.nil_append] at ho1
          obtain ⟨h0, h1, h2, h3, h4, h5, h6, h7, rfl⟩ := list8 hs HHL.out
          have HO1 := hide ho1
          have HS8 := hide (s8_ok HHD.out)
          clear ho1 hgr1 hat1 hc1 hm1
          go_loopw [14] (fun i wq => ∃ (t : Nat) (A B C D E F G H : Int), t ≤ 64 ∧ i = .int .i64 t ∧ Hid (rnds kL (sched bs) (s8 [h0, h1, h2, h3, h4, h5, h6, h7]) t = ⟨A, B, C, D, E, F, G, H⟩) ∧ Hid (OwnG .u32 65 wq W2.heap.size (.slice (some ⟨gv, 0, none⟩) 8 cv) [A, B, C, D, E, F, G, H]) ∧ Hid (Below W2.heap.size W2 wq)) (fun i _ => 64 - (intOf i).toNat)
          case atStart => exact ⟨0, h0, h1, h2, h3, h4, h5, h6, h7, by omega, rfl, rfl, HO1, hB1⟩
          case round =>
            clear HO1 hB1 hl1
            obtain ⟨t, A, B, C, D, E, F, G, H, ht, rfl, HR, HV, hB⟩ := hrel
            have HW := hide (hW.trans (hB.out.mono hW.size))
            by_cases ht64 : t < 64
            · obtain ⟨gk, ok, rfl, ck0⟩ := (HK.out.below HW.out).at t ht64
              have cw0 := (HSC.out.below hB.out (fun k hk => by cases hk; exact hg2)).cell t (by rw [sched_len]; exact ht64)
              have HN : Hid (rnds kL (sched bs) (s8 [h0, h1, h2, h3, h4, h5, h6, h7]) (t + 1) = rnd (kL.getD t 0) ((sched bs).getD t 0) ⟨A, B, C, D, E, F, G, H⟩) := by unfold Hid; rw [rnds, HR.out]
              have HOk : Hid (S8.Ok ⟨A, B, C, D, E, F, G, H⟩) := by rw [← HR.out]; exact rnds_ok HS8.out _ _ _
              have bk := kL_bd t
              have bx := (sched_dg HDB.out).at (by decide : (0 : Int) < 4294967296) t
              generalize kL.getD t 0 = k at *
              generalize (sched bs).getD t 0 = x at *
              have bA := HOk.out.a
              have bB := HOk.out.b
              have bC := HOk.out.c
              have bD := HOk.out.d
              have bE := HOk.out.e
              have bF := HOk.out.f
              have bG := HOk.out.g
              have bH := HOk.out.h
              simp only [] at bA bB bC bD bE bF bG bH
              have v0 := HV.out.cell 0 (by simp)
              have v1 := HV.out.cell 1 (by simp)
              have v2 := HV.out.cell 2 (by simp)
              have v3 := HV.out.cell 3 (by simp)
              have v4 := HV.out.cell 4 (by simp)
              have v5 := HV.out.cell 5 (by simp)
              have v6 := HV.out.cell 6 (by simp)
              have v7 := HV.out.cell 7 (by simp)
              simp only [List.getD_cons_zero, List.getD_cons_succ] at v0 v1 v2 v3 v4 v5 v6 v7
              have f0 := HV.out.frozen 0
              have f1 := HV.out.frozen 1
              have f2 := HV.out.frozen 2
              have f3 := HV.out.frozen 3
              have f4 := HV.out.frozen 4
              have f5 := HV.out.frozen 5
              have f6 := HV.out.frozen 6
              have f7 := HV.out.frozen 7
              have tI : (t : Int) < 64 := by omega
              go_wp2
              go_quiet ((go_at_call 46; (first | exact Calls.quiet_of_same (turned_any _ _ 6 (by rfl) (by decide) (by decide) _) | exact Calls.quiet_of_same (turned_any _ _ 11 (by rfl) (by decide) (by decide) _) | exact Calls.quiet_of_same (turned_any _ _ 25 (by rfl) (by decide) (by decide) _))))
              go_wp2
              go_quiet ((go_at_call 46; (first | refine (turned_any _ _ 2 (by rfl) (by decide) (by decide) _).mono ?_ | refine (turned_any _ _ 13 (by rfl) (by decide) (by decide) _).mono ?_ | refine (turned_any _ _ 22 (by rfl) (by decide) (by decide) _).mono ?_); rintro e w2 ⟨rfl, rfl⟩; exact ⟨rfl, _, rfl⟩))
              clear ck0 cw0
              go_wp2
              go_roundw
              case rel =>
                have e := HN.out
                refine ⟨t + 1, _, _, _, _, _, _, _, _, by omega, by go_num, ?_, (((((((((HV.out.heap (w' := wr.drewN _) rfl).stored 7 _).1.stored 6 _).1.stored 5 _).1.stored 4 _).1.stored 3 _).1.stored 2 _).1.stored 1 _).1.stored 0 _).1, ?_⟩
                · unfold Hid
                  rw [e]
                  unfold rnd pOf qOf
                  simp only [show IntKind.u32.max = (4294967295 : Int) from rfl]
                  congr 1 <;> omega
                · exact (((((((((((Drew.refl wr).more _).below hB.out).setCell hb1 _).setCell hb1 _).setCell hb1 _).setCell hb1 _).setCell hb1 _).setCell hb1 _).setCell hb1 _).setCell hb1 _)
              case measure => simp [intOf]; omega
            · obtain rfl : t = 64 := by omega
              have HOk : Hid (S8.Ok ⟨A, B, C, D, E, F, G, H⟩) := by rw [← HR.out]; exact rnds_ok HS8.out _ _ _
              have HM : Hid (mix [h0, h1, h2, h3, h4, h5, h6, h7] bs = [(h0 + A) % 4294967296, (h1 + B) % 4294967296, (h2 + C) % 4294967296, (h3 + D) % 4294967296, (h4 + E) % 4294967296, (h5 + F) % 4294967296, (h6 + G) % 4294967296, (h7 + H) % 4294967296]) := by unfold Hid mix; rw [HR.out]; rfl
              have HMT : Hid (∀ j, j < 8 → (mix [h0, h1, h2, h3, h4, h5, h6, h7] bs).take j ++ [([h0, h1, h2, h3, h4, h5, h6, h7].getD j 0 + [A, B, C, D, E, F, G, H].getD j 0) % 4294967296] = (mix [h0, h1, h2, h3, h4, h5, h6, h7] bs).take (j + 1)) := by
                intro j hj
                rw [HM.out]
                rcases (show j = 0 ∨ j = 1 ∨ j = 2 ∨ j = 3 ∨ j = 4 ∨ j = 5 ∨ j = 6 ∨ j = 7 by omega) with rfl | rfl | rfl | rfl | rfl | rfl | rfl | rfl <;> rfl
              have HVD : Hid (Dg 4294967296 [A, B, C, D, E, F, G, H]) := by
                have o := HOk.out
                intro x hx
                simp only [List.mem_cons, List.not_mem_nil, or_false] at hx
                rcases hx with rfl | rfl | rfl | rfl | rfl | rfl | rfl | rfl
                · exact o.a
                · exact o.b
                · exact o.c
                · exact o.d
                · exact o.e
                · exact o.f
                · exact o.g
                · exact o.h
              have HML := hide (mix_len [h0, h1, h2, h3, h4, h5, h6, h7] bs)
              clear HR ht ht64
              obtain ⟨W3, hW3⟩ : ∃ W, W = wr := ⟨_, rfl⟩
              subst hW3
              have hgv3 : gv < W3.heap.size := (HV.out.lt gv rfl).2
              obtain ⟨M, hM⟩ : ∃ M, mix [h0, h1, h2, h3, h4, h5, h6, h7] bs = M := ⟨_, rfl⟩
              rw [hM] at HM HMT HML
              have HMM := hide hM
              clear hM
              go_wp2
              go_loopw [17, 18] (fun v i wq => ∃ (j : Nat) (ao : Option Addr) (co : Nat), j ≤ 8 ∧ v = .slice ao j co ∧ i = .int .i64 j ∧ Hid (OwnG .u32 65 wq W3.heap.size (.slice ao j co) (M.take j)) ∧ Below W3.heap.size W3 wq) (fun _ i _ => 8 - (intOf i).toNat)
              case atStart => exact ⟨0, none, 0, by omega, rfl, rfl, OwnG.nil _ _, Below.refl _ _⟩
              case round =>
                obtain ⟨j, ao, co, hj, rfl, rfl, HO, hB3⟩ := hrel
                have HWW := hide (HW.out.trans (hB3.mono HW.out.size))
                by_cases hj8 : j < 8
                · obtain ⟨gh, oh, rfl, ch0⟩ := (HH.out.below HWW.out).at j hj8
                  have cv0 := (HV.out.below hB3 (fun k hk => by cases hk; exact hgv3)).cell j (by simpa using hj8)
                  have bh := HHD.out.at (by decide : (0 : Int) < 4294967296) j
                  have bv := HVD.out.at (by decide : (0 : Int) < 4294967296) j
                  have HNX := hide (HMT.out j hj8)
                  have hgh : gh < w.heap.size := HH.out.blk gh oh rfl (by simp)
                  have hgh3 : gh < W3.heap.size := Nat.lt_of_lt_of_le hgh HW.out.size
                  generalize [h0, h1, h2, h3, h4, h5, h6, h7].getD j 0 = y at *
                  generalize [A, B, C, D, E, F, G, H].getD j 0 = z at *
                  have HWR : Hid (IntKind.u32.wrap (y + z) = (y + z) % 4294967296) := by unfold Hid; rw [IntKind.wrap_u32]
                  have HLn : Hid ((M.take j).length = j) := by unfold Hid; rw [List.length_take, HML.out]; omega
                  have HDW : Hid (Dg 4294967296 [(y + z) % 4294967296]) := by intro x hx; rw [List.mem_singleton] at hx; subst hx; omega
                  have HLW : Hid ((M.take j ++ [(y + z) % 4294967296]).length = j + 1) := by unfold Hid; rw [List.length_append, HLn.out]; rfl
                  have HG1 := hide (HO.out.ne_row (.inl hgh3))
                  have HG2 := hide (HO.out.ne_row (.inl hgv3))
                  have hBs := hB3.size
                  have HCK : Hid (∀ (W W1 : World) (o : Obj), W.heap = (wr.alloc o).heap → W.grownBy W1 (Value.slice ao j co).ownBlock → W1.cell? ⟨gh, oh + j, none⟩ = some (.int .u32 y) ∧ W1.cell? ⟨gv, j, none⟩ = some (.int .u32 z)) := by
                    intro W W1 o hW hg
                    have e : ∀ b i, b < wr.heap.size → W.cell? ⟨b, i, none⟩ = wr.cell? ⟨b, i, none⟩ := fun b i hb => (World.cell?_of_block (w := wr.alloc o) (by rw [hW])).trans (World.cell?_alloc_lt _ _ _ hb)
                    exact ⟨hg.cell ((e _ _ (by omega)).trans ch0) HG1.out, hg.cell ((e _ _ (by omega)).trans cv0) HG2.out⟩
                  have jI : (j : Int) < 8 := by omega
                  have jP : (0 : Int) ≤ (j : Int) := by omega
                  go_wp2_with fail
                  go_region_held3 (fun W => W.cell? ⟨gh, oh + j, none⟩ = some (.int .u32 y) ∧ W.cell? ⟨gv, j, none⟩ = some (.int .u32 z)) (first | exact ⟨by assumption, by assumption⟩ | go_keep) ((refine step_appG (B := 4294967296) 4 Tryd.underlying66 Tryd.infoW4 _ rfl (.tmp 243) (.tmp 253) rfl W3.heap.size (.slice ao j co) (M.take j) ?_ ?_ ⟨wr.heap.size, 0, none⟩ 1 1 [(y + z) % 4294967296] ?_ ?_ (j + 1) HLW.out (List.cons_ne_nil _ _) ?_ ?_ ?_ ?_; exact rfl; exact (HO.out.heap (w' := wr.drewN _) rfl).alloc _; exact rfl; refine SrcG.litAt (B := 4294967296) (w := wr.drewN _) [(y + z) % 4294967296] _ 1 _ ?_ rfl HDW.out ?_ ?_; exact congrArg (fun z => #[Value.int .u32 z]) HWR.out; decide; exact rfl; omega; omega; (focus (simp; omega)); intro g1 c2 w1 ho1 hb1 hl1 hc1 hm1 hg1 _; obtain ⟨k0, k1⟩ := HCK.out _ _ _ (by rfl) hg1))
                  have hB4 : Below W3.heap.size W3 w1 := ((hB3.alloc hB3.size _).drew).grown hg1 (by have := hB3.size; simp; omega) (by intro k hk; exact (HO.out.lt k hk).1)
                  rw [HNX.out] at ho1
                  have HO1 := hide ho1
                  clear ho1 hg1
                  go_wp2
                  refine ⟨?_, ?measure⟩
                  (repeat apply Exists.intro)
                  refine ⟨?rel, rfl⟩
                  case rel => exact ⟨j + 1, _, _, by omega, rfl, by go_num, HO1, hB4⟩
                  case measure => simp [intOf]; omega
                · obtain rfl : j = 8 := by omega
                  rcases HO.out.split with ⟨_, hx⟩ | ⟨go, cc, hv, ho1, ho2, ho3, ho4⟩
                  · have := congrArg List.length hx
                    rw [List.length_take, HML.out] at this
                    simp at this
                  rw [List.take_of_length_le (by rw [HML.out]; omega)] at hv HO
                  rw [HML.out] at hv
                  cases hv
                  go_wp2
                  go_ret
                  exact ⟨_, _, rfl, by rw [HMM.out]; exact HO.out.rebase HW.out.size, Nat.le_trans HW.out.size ho1, ho2, HWW.out⟩

end Go.Proofs.YtgajejomibnghaaDoor
