/-
  The document's host: Match.
-/
import Derived.Test.YtfoacocnkdkdeaaGreatDoorHoSm
import Derived.Test.YtfoacocnkdkdeaaGreatDoorHoMt
namespace Go.Proofs.YtfoacocnkdkdeaaGreatDoor
open Go.RowKit Go.IntWalk

theorem eq_toList (a b : List UInt8) : ((tx a).toList == (tx b).toList) = decide (a = b) := by
  rw [Lib.toList_data, Lib.toList_data, tx_list, tx_list]
  rw [Bool.eq_iff_iff]
  simp

set_option maxRecDepth 100000 in
set_option maxHeartbeats 4000000 in
theorem refMatch_any (p s : List UInt8) (hp : p.length ≤ 1048576) (hs : s.length ≤ 1048576) (w : World) :
    Calls Tryz.prog 72 #[.string (tx p), .string (tx s)] w fun e w' => e = .returned (.bool (matchL p s)) ∧ Below w.heap.size w w' := by
  have hM : Hid (matchL p s = (dnsL s && (if dnsL p = true then Lib.equalFold p s else wildL p && Lib.equalFold (behL p) (behL s)))) := rfl
  have d1 := hide (fun W => refDNS_any (tx s) (by rw [tx_size]; exact hs) W)
  have d2 := hide (fun W => refDNS_any (tx p) (by rw [tx_size]; exact hp) W)
  have d3 := hide (fun W => refWild_any p hp W)
  have d4 := hide (fun W => refSmall_any (tx p) (by rw [tx_size]; exact hp) W)
  have d5 := hide (fun W => refSmall_any (tx s) (by rw [tx_size]; exact hs) W)
  have l4 := hide (fun W => refLabels_any (tx (smallL p)) (by rw [tx_size, small_len]; exact hp) W)
  have l5 := hide (fun W => refLabels_any (tx (smallL s)) (by rw [tx_size, small_len]; exact hs) W)
  have hln : Hid ((labs (smallL p)).length ≤ 1048577) := by unfold Hid; have := labsG_len (smallL p) []; rw [small_len] at this; unfold labs; omega
  have hft := hide (fun h : wildL p = true => fold_tail (s := s) h)
  rw [tx_list] at d1 d2 d4 d5 l4 l5
  rw [fold_small p s] at hM
  have hpe := hide (eq_toList (smallL p) (smallL s))
  have htx := hide (fun a b => eq_toList a b)
  generalize dnsL s = b1 at *
  generalize dnsL p = b2 at *
  generalize wildL p = b3 at *
  cases b1 with
  | false =>
    have hR : Hid (matchL p s = false) := hM.out
    go_enter Tryz.func72, Tryz.ntmps72
    go_wp2_with (go_at_call 28; refine (d1.out _).mono ?_; rintro e w1 ⟨rfl, B1⟩)
    go_ret
    exact ⟨by rw [hR.out]; rfl, B1⟩
  | true =>
    cases b2 with
    | true =>
      have hR : Hid (matchL p s = decide (smallL p = smallL s)) := hM.out
      have hq := hpe.out
      generalize smallL p = sp at *
      generalize smallL s = ss at *
      generalize decide (sp = ss) = q at hq hR
      go_enter Tryz.func72, Tryz.ntmps72
      go_wp2_with (first | (go_at_call 28; refine (d2.out w1).mono ?_; rintro e w2 ⟨rfl, B2⟩) | (go_at_call 28; refine (d1.out _).mono ?_; rintro e w1 ⟨rfl, B1⟩) | (go_at_call 30; refine (d5.out w3).mono ?_; rintro e w4 ⟨rfl, B4⟩) | (go_at_call 30; refine (d4.out w2).mono ?_; rintro e w3 ⟨rfl, B3⟩))
      go_ret
      exact ⟨by rw [hR.out]; rfl, ((B1.trans (B2.mono B1.size)).trans (B3.mono (Nat.le_trans B1.size B2.size))).trans (B4.mono (Nat.le_trans (Nat.le_trans B1.size B2.size) B3.size))⟩
    | false =>
      cases b3 with
      | false =>
        have hR : Hid (matchL p s = false) := hM.out
        go_enter Tryz.func72, Tryz.ntmps72
        go_wp2_with (first | (go_at_call 28; refine (d2.out w1).mono ?_; rintro e w2 ⟨rfl, B2⟩) | (go_at_call 28; refine (d1.out _).mono ?_; rintro e w1 ⟨rfl, B1⟩) | (go_at_call 38; refine (d3.out _).mono ?_; rintro e w3 ⟨rfl, B3⟩))
        go_ret
        exact ⟨by rw [hR.out]; rfl, (B1.trans (B2.mono B1.size)).trans (B3.mono (Nat.le_trans B1.size B2.size))⟩
      | true =>
        have hR : Hid (matchL p s = decide ((labs (smallL p)).length = (labs (smallL s)).length ∧ (labs (smallL p)).drop 1 = (labs (smallL s)).drop 1)) := by unfold Hid; rw [hM.out, ← hft.out rfl]; rfl
        have hpos : Hid (0 < (labs (smallL p)).length) := List.length_pos_iff.2 (labsG_ne _ _)
        generalize labs (smallL p) = LA at *
        generalize labs (smallL s) = LB at *
        generalize smallL p = sp at *
        generalize smallL s = ss at *
        clear hft hpe
        by_cases hle : LA.length = LB.length
        · have hleI : ((LA.length : Int) != (LB.length : Int)) = false := by simp; omega
          have hR2 : Hid (matchL p s = decide (LA.drop 1 = LB.drop 1)) := by unfold Hid; rw [hR.out]; exact decide_eq_decide.2 ⟨fun h => h.2, fun h => ⟨hle, h⟩⟩
          go_enter Tryz.func72, Tryz.ntmps72
          go_wp2_with (first | (go_at_call 28; refine (d2.out w1).mono ?_; rintro e w2 ⟨rfl, B2⟩) | (go_at_call 28; refine (d1.out _).mono ?_; rintro e w1 ⟨rfl, B1⟩) | (go_at_call 38; refine (d3.out _).mono ?_; rintro e w3 ⟨rfl, B3⟩) | (go_at_call 30; refine (d5.out w5).mono ?_; rintro e w6 ⟨rfl, B6⟩) | (go_at_call 30; refine (d4.out w3).mono ?_; rintro e w4 ⟨rfl, B4⟩) | (go_at_call 29; refine (l5.out w6).mono ?_; rintro e w7 ⟨aB, cB, rfl, oB, B7⟩) | (go_at_call 29; refine (l4.out w4).mono ?_; rintro e w5 ⟨aA, cA, rfl, oA, B5⟩))
          have BB : Below w.heap.size w w7 := by
            have s1 := B1.size
            have s2 := B2.size
            have s3 := B3.size
            have s4 := B4.size
            have s5 := B5.size
            have s6 := B6.size
            exact (((((B1.trans (B2.mono s1)).trans (B3.mono (by omega))).trans (B4.mono (by omega))).trans (B5.mono (by omega))).trans (B6.mono (by omega))).trans (B7.mono (by omega))
          have oA7 := (oA.belowA B6).belowA B7
          obtain ⟨ga, rfl⟩ : ∃ g, aA = some ⟨g, 0, none⟩ := by
            rcases oA7.split with ⟨_, h⟩ | ⟨g, cap, h, _⟩
            · have h2 : (txs LA).length = 0 := by rw [h]; rfl
              rw [txs_len] at h2; have := hpos.out; omega
            · exact ⟨g, (Value.slice.inj h).1⟩
          obtain ⟨gb, rfl⟩ : ∃ g, aB = some ⟨g, 0, none⟩ := by
            rcases oB.split with ⟨_, h⟩ | ⟨g, cap, h, _⟩
            · have h2 : (txs LB).length = 0 := by rw [h]; rfl
              rw [txs_len] at h2; have := hpos.out; omega
            · exact ⟨g, (Value.slice.inj h).1⟩
          have ca : Hid (∀ (k : Nat) (hk : k < LA.length), w7.cell? ⟨ga, k, none⟩ = some (.string (tx (LA[k]'hk)))) := fun k hk => by
            have h := oA7.cells k _ (txs_get LA k hk)
            rwa [Nat.zero_add] at h
          have cb : Hid (∀ (k : Nat) (hk : k < LB.length), w7.cell? ⟨gb, k, none⟩ = some (.string (tx (LB[k]'hk)))) := fun k hk => by
            have h := oB.cells k _ (txs_get LB k hk)
            rwa [Nat.zero_add] at h
          replace BB := hide BB
          have HL := hide hle
          clear oA oA7 oB B1 B2 B3 B4 B5 B6 B7 hleI hle
          go_loopw [7] (fun i wr => ∃ k : Nat, i = .int .i64 k ∧ k ≤ LA.length ∧ Hid (LA.drop 1 = LB.drop 1 ↔ LA.drop k = LB.drop k) ∧ Hid (Drawn w7 wr)) (fun i _ => LA.length - (intOf i).toNat)
          case atStart => exact ⟨1, rfl, hpos.out, Iff.rfl, Drawn.refl _⟩
          case round =>
            obtain ⟨k, rfl, hk, hE, HD⟩ := hrel
            by_cases hlt : k < LA.length
            · have hltB : k < LB.length := by have := HL.out; omega
              have hkB : k ≤ 1048577 := by have := hln.out; omega
              have hltBI : (k : Int) < (LB.length : Int) := by omega
              have c1 := (HD.out.cell ⟨ga, k, none⟩).trans (ca.out k hlt)
              have c2 := (HD.out.cell ⟨gb, k, none⟩).trans (cb.out k hltB)
              have dA : LA.drop k = LA[k]'hlt :: LA.drop (k + 1) := List.drop_eq_getElem_cons hlt
              have dB : LB.drop k = LB[k]'hltB :: LB.drop (k + 1) := List.drop_eq_getElem_cons hltB
              have hq := htx.out (LA[k]'hlt) (LB[k]'hltB)
              have hE2 := hE.out
              rw [dA, dB, List.cons.injEq] at hE2
              generalize LA[k]'hlt = u at *
              generalize LB[k]'hltB = v at *
              clear dA dB hE
              by_cases huv : u = v
              · have hF : Hid (LA.drop 1 = LB.drop 1 ↔ LA.drop (k + 1) = LB.drop (k + 1)) := ⟨fun h => (hE2.1 h).2, fun h => hE2.2 ⟨huv, h⟩⟩
                rw [decide_eq_true huv] at hq
                clear hE2 huv
                go_wp2
                go_region
                go_wp2
                go_roundw
                case rel => exact ⟨k + 1, by simp, by omega, hF, HD.out.more 1⟩
                case measure => simp [intOf]; omega
              · have hF : Hid (matchL p s = false) := by unfold Hid; rw [hR2.out]; exact decide_eq_false (fun h => huv (hE2.1 h).1)
                rw [decide_eq_false huv] at hq
                clear hE2 huv
                go_wp2
                go_region
                go_wp2
                go_ret
                exact ⟨by rw [hF.out]; rfl, (HD.out.more 1).below BB.out⟩
            · have hltI : ¬ (k : Int) < (LB.length : Int) := by have := HL.out; omega
              have hF : Hid (matchL p s = true) := by
                unfold Hid
                rw [hR2.out]
                refine decide_eq_true (hE.out.2 ?_)
                rw [List.drop_eq_nil_of_le (by omega), List.drop_eq_nil_of_le (by have := HL.out; omega)]
              go_wp2
              go_ret
              exact ⟨by rw [hF.out]; rfl, HD.out.below BB.out⟩
        · have hleI : ((LA.length : Int) != (LB.length : Int)) = true := by simp; omega
          have hR2 : Hid (matchL p s = false) := by unfold Hid; rw [hR.out]; exact decide_eq_false (fun h => hle h.1)
          go_enter Tryz.func72, Tryz.ntmps72
          go_wp2_with (first | (go_at_call 28; refine (d2.out w1).mono ?_; rintro e w2 ⟨rfl, B2⟩) | (go_at_call 28; refine (d1.out _).mono ?_; rintro e w1 ⟨rfl, B1⟩) | (go_at_call 38; refine (d3.out _).mono ?_; rintro e w3 ⟨rfl, B3⟩) | (go_at_call 30; refine (d5.out w5).mono ?_; rintro e w6 ⟨rfl, B6⟩) | (go_at_call 30; refine (d4.out w3).mono ?_; rintro e w4 ⟨rfl, B4⟩) | (go_at_call 29; refine (l5.out w6).mono ?_; rintro e w7 ⟨aB, cB, rfl, oB, B7⟩) | (go_at_call 29; refine (l4.out w4).mono ?_; rintro e w5 ⟨aA, cA, rfl, oA, B5⟩))
          go_ret
          have s1 := B1.size
          have s2 := B2.size
          have s3 := B3.size
          have s4 := B4.size
          have s5 := B5.size
          have s6 := B6.size
          exact ⟨by rw [hR2.out]; rfl, (((((B1.trans (B2.mono s1)).trans (B3.mono (by omega))).trans (B4.mono (by omega))).trans (B5.mono (by omega))).trans (B6.mono (by omega))).trans (B7.mono (by omega))⟩

end Go.Proofs.YtfoacocnkdkdeaaGreatDoor
