/-
  The document's host: a text with small letters.
  The document's host: Match.
  The document's host: mail addresses.
-/
import Derived.Test.YtcbcdfdicefkoaaGreatDoorYNmRDcToHoR3
import Derived.Test.YtcbcdfdicefkoaaGreatDoorYNmEncNToWiM
import Derived.Test.YtcbcdfdicefkoaaGreatDoorYTxW1ToTxF1
import Derived.Test.YtcbcdfdicefkoaaGreatDoorYOneToRTake
import Derived.Test.YtcbcdfdicefkoaaGreatDoorYHoMtToWiRule
namespace Go.Proofs.YtcbcdfdicefkoaaGreatDoor
open Go.RowKit Go.IntWalk

def appOfH (ats : Array TypeId) (ty : TypeId) (args : Array Value) : Sem Value := Builtin.append_ ats ty args
theorem appOfH_of (ats : Array TypeId) (ty : TypeId) (args : Array Value) : Builtin.append_ ats ty args = appOfH ats ty args := rfl
attribute [local go_sem ↓] appOfH_of

theorem app_byteH {W : World} {base : Nat} {v : Value} {acc : List UInt8} (h : OwnB W base v (nums acc)) (N : UInt8) (hl : acc.length + 1 ≤ 140737488355328) (hbase : base ≤ W.heap.size) :
    ∃ g c w2, (appOfH #[60, 60] 60 #[v, .slice (some ⟨W.heap.size, 0, none⟩) 1 1]).run Tryz.prog (W.alloc (.cells #[.int .u8 N.toNat] 5)) = .ok (.slice (some ⟨g, 0, none⟩) (acc.length + 1) c) w2 ∧
      OwnB w2 base (.slice (some ⟨g, 0, none⟩) (acc.length + 1) c) (nums (acc ++ [N])) ∧ (W.alloc (.cells #[.int .u8 N.toNat] 5)).grownBy w2 v.ownBlock := by
  have hN := N.toNat_lt
  have hs : Src (W.alloc (.cells #[.int .u8 N.toNat] 5)) (some ⟨W.heap.size, 0, none⟩) 1 1 [(N.toNat : Int)] := Src.litAt [(N.toNat : Int)] _ 1 _ rfl rfl (by intro x hx; simp at hx; subst hx; omega) (by decide) rfl
  obtain ⟨g, c', w', h1, h2, _, _, _, _, h3⟩ := run_appN (W.alloc (.cells #[.int .u8 N.toNat] 5)) 60 base v (nums acc) (h.alloc _) _ 1 1 [(N.toNat : Int)] hs (acc.length + 1) (by simp [nums]) (.inr (by simp)) hl (by simp; omega)
  exact ⟨g, c', w', h1, by rw [nums_append]; exact h2, h3⟩





set_option maxRecDepth 100000 in
set_option maxHeartbeats 4000000 in
theorem refSmall_any (s : ByteArray) (hs : s.size ≤ 1048576) (w : World) :
    Calls Tryz.prog 30 #[.string s] w fun e w' => e = .returned (.string (tx (smallL s.data.toList))) ∧ Below w.heap.size w w' := by
  have hSL := sizeH_len s
  go_enter Tryz.func30, Tryz.ntmps30
  go_wp2
  go_loopw [3, 4] (fun b i wr => ∃ (aP : Option Addr) (cP k n : Nat), b = .slice aP n cP ∧ i = .int .i64 k ∧ k ≤ s.size ∧ n = k ∧ Hid (OwnB wr w.heap.size (.slice aP k cP) (nums (smallL (s.data.toList.take k))) ∧ Below w.heap.size w wr)) (fun _ i _ => s.size - (intOf i).toNat)
  case atStart => exact ⟨none, 0, 0, 0, rfl, rfl, Nat.zero_le _, rfl, OwnB.nil _ _, Below.refl _ _⟩
  case round =>
    obtain ⟨aP, cP, k, n, rfl, rfl, hk, hn, HO⟩ := hrel
    subst hn
    have hlen : (smallL (s.data.toList.take n)).length = n := by unfold smallL; rw [List.length_map, List.length_take, hSL]; omega
    by_cases hlt : n < s.size
    · have ltI : (n : Int) < (s.size : Int) := by omega
      have hl : n < s.data.toList.length := by rw [hSL]; exact hlt
      have hsm := small_num (s.data.toList[n]'hl)
      have ho : OwnB wr w.heap.size (.slice aP n cP) (nums (smallL (s.data.toList.take n))) := HO.out.1
      obtain ⟨g4, c4, w4, hrun, ho4, hg4⟩ := app_byteH ho (smallB (s.data.toList[n]'hl)) (by rw [hlen]; omega) HO.out.2.size
      rw [hlen] at hrun ho4
      have e1 : smallL (s.data.toList.take n) ++ [smallB (s.data.toList[n]'hl)] = smallL (s.data.toList.take (n + 1)) := by
        unfold smallL
        rw [List.take_succ_eq_append_getElem hl, List.map_append]
        rfl
      rw [e1] at ho4
      have H4 : Hid (OwnB w4 w.heap.size (.slice (some ⟨g4, 0, none⟩) (n + 1) c4) (nums (smallL (s.data.toList.take (n + 1)))) ∧ Below w.heap.size w w4) :=
        ⟨ho4, (HO.out.2.alloc HO.out.2.size _).grown hg4 (by have := HO.out.2.size; simp; omega) (fun j hj => (HO.out.1.lt j hj).1)⟩
      rw [hsm, getH_list s n hlt] at hrun
      have hX := (s[n]'hlt).toNat_lt
      clear hsm ho ho4 e1 hlen hg4
      by_cases hgr : (65 : Int) ≤ ((s[n]'hlt).toNat : Int) ∧ ((s[n]'hlt).toNat : Int) ≤ 90
      · rw [if_pos hgr] at hrun
        have q1 := hgr.1
        have q2 := hgr.2
        clear hgr
        go_wp2
        go_roundw
        case rel => exact ⟨_, _, n + 1, n + 1, by simp, by simp, by omega, rfl, H4⟩
        case measure => simp [intOf]; omega
      · rw [if_neg hgr] at hrun
        by_cases q1 : (65 : Int) ≤ ((s[n]'hlt).toNat : Int)
        · have q2 : ¬ ((s[n]'hlt).toNat : Int) ≤ 90 := fun h => hgr ⟨q1, h⟩
          clear hgr
          go_wp2
          go_roundw
          case rel => exact ⟨_, _, n + 1, n + 1, by simp, by simp, by omega, rfl, H4⟩
          case measure => simp [intOf]; omega
        · clear hgr
          go_wp2
          go_roundw
          case rel => exact ⟨_, _, n + 1, n + 1, by simp, by simp, by omega, rfl, H4⟩
          case measure => simp [intOf]; omega
    · obtain rfl : n = s.size := by omega
      have ltI : ¬ (s.size : Int) < (s.size : Int) := by omega
      have hall : s.data.toList.take s.size = s.data.toList := List.take_of_length_le (by omega)
      have ho := HO.out.1
      rw [hall] at ho
      have ht := (ho.toSrc (nums_bytes _)).text
      rw [nums_text] at ht
      clear ho
      go_wp2
      go_ret
      exact ⟨rfl, HO.out.2⟩

end Go.Proofs.YtcbcdfdicefkoaaGreatDoor

namespace Go.Proofs.YtcbcdfdicefkoaaGreatDoor
open Go.RowKit Go.IntWalk

theorem eq_toList (a b : List UInt8) : ((tx a).toList == (tx b).toList) = decide (a = b) := by
  rw [Lib.toList_data, Lib.toList_data, tx_list, tx_list]
  rw [Bool.eq_iff_iff]
  simp

set_option maxRecDepth 100000 in
set_option maxHeartbeats 4000000 in
theorem refMatch_any (p s : List UInt8) (hp : p.length ≤ 1048576) (hs : s.length ≤ 1048576) (w : World) :
    Calls Tryz.prog 72 #[.string (tx p), .string (tx s)] w fun e w' => e = .returned (.bool (matchL p s)) ∧ Below w.heap.size w w' := by
  have hM : Hid (matchL p s = (dnsL s && (if dnsL p = true then Lib.equalFold p s else wildL p && Lib.equalFold (behL p) (behL s)))) := rfl
  have d1 := hide (fun W => refDNS_any (tx s) (by rw [tx_size]; exact hs) W)
  have d2 := hide (fun W => refDNS_any (tx p) (by rw [tx_size]; exact hp) W)
  have d3 := hide (fun W => refWild_any p hp W)
  have d4 := hide (fun W => refSmall_any (tx p) (by rw [tx_size]; exact hp) W)
  have d5 := hide (fun W => refSmall_any (tx s) (by rw [tx_size]; exact hs) W)
  have l4 := hide (fun W => refLabels_any (tx (smallL p)) (by rw [tx_size, smallH_len]; exact hp) W)
  have l5 := hide (fun W => refLabels_any (tx (smallL s)) (by rw [tx_size, smallH_len]; exact hs) W)
  have hln : Hid ((labs (smallL p)).length ≤ 1048577) := by unfold Hid; have := labsG_len (smallL p) []; rw [smallH_len] at this; unfold labs; omega
  have hft := hide (fun h : wildL p = true => fold_tail (s := s) h)
  rw [tx_list] at d1 d2 d4 d5 l4 l5
  rw [fold_small p s] at hM
  have hpe := hide (eq_toList (smallL p) (smallL s))
  have htx := hide (fun a b => eq_toList a b)
  generalize dnsL s = b1 at *
  generalize dnsL p = b2 at *
  generalize wildL p = b3 at *
  cases b1 with
  | false =>
    have hR : Hid (matchL p s = false) := hM.out
    go_enter Tryz.func72, Tryz.ntmps72
    go_wp2_with (go_at_call 28; refine (d1.out _).mono ?_; rintro e w1 ⟨rfl, B1⟩)
    go_ret
    exact ⟨by rw [hR.out]; rfl, B1⟩
  | true =>
    cases b2 with
    | true =>
      have hR : Hid (matchL p s = decide (smallL p = smallL s)) := hM.out
      have hq := hpe.out
      generalize smallL p = sp at *
      generalize smallL s = ss at *
      generalize decide (sp = ss) = q at hq hR
      go_enter Tryz.func72, Tryz.ntmps72
      go_wp2_with (first | (go_at_call 28; refine (d2.out w1).mono ?_; rintro e w2 ⟨rfl, B2⟩) | (go_at_call 28; refine (d1.out _).mono ?_; rintro e w1 ⟨rfl, B1⟩) | (go_at_call 30; refine (d5.out w3).mono ?_; rintro e w4 ⟨rfl, B4⟩) | (go_at_call 30; refine (d4.out w2).mono ?_; rintro e w3 ⟨rfl, B3⟩))
      go_ret
      exact ⟨by rw [hR.out]; rfl, ((B1.trans (B2.mono B1.size)).trans (B3.mono (Nat.le_trans B1.size B2.size))).trans (B4.mono (Nat.le_trans (Nat.le_trans B1.size B2.size) B3.size))⟩
    | false =>
      cases b3 with
      | false =>
        have hR : Hid (matchL p s = false) := hM.out
        go_enter Tryz.func72, Tryz.ntmps72
        go_wp2_with (first | (go_at_call 28; refine (d2.out w1).mono ?_; rintro e w2 ⟨rfl, B2⟩) | (go_at_call 28; refine (d1.out _).mono ?_; rintro e w1 ⟨rfl, B1⟩) | (go_at_call 38; refine (d3.out _).mono ?_; rintro e w3 ⟨rfl, B3⟩))
        go_ret
        exact ⟨by rw [hR.out]; rfl, (B1.trans (B2.mono B1.size)).trans (B3.mono (Nat.le_trans B1.size B2.size))⟩
      | true =>
        have hR : Hid (matchL p s = decide ((labs (smallL p)).length = (labs (smallL s)).length ∧ (labs (smallL p)).drop 1 = (labs (smallL s)).drop 1)) := by unfold Hid; rw [hM.out, ← hft.out rfl]; rfl
        have hpos : Hid (0 < (labs (smallL p)).length) := List.length_pos_iff.2 (labsG_ne _ _)
        generalize labs (smallL p) = LA at *
        generalize labs (smallL s) = LB at *
        generalize smallL p = sp at *
        generalize smallL s = ss at *
        clear hft hpe
        by_cases hle : LA.length = LB.length
        · have hleI : ((LA.length : Int) != (LB.length : Int)) = false := by simp; omega
          have hR2 : Hid (matchL p s = decide (LA.drop 1 = LB.drop 1)) := by unfold Hid; rw [hR.out]; exact decide_eq_decide.2 ⟨fun h => h.2, fun h => ⟨hle, h⟩⟩
          go_enter Tryz.func72, Tryz.ntmps72
          go_wp2_with (first | (go_at_call 28; refine (d2.out w1).mono ?_; rintro e w2 ⟨rfl, B2⟩) | (go_at_call 28; refine (d1.out _).mono ?_; rintro e w1 ⟨rfl, B1⟩) | (go_at_call 38; refine (d3.out _).mono ?_; rintro e w3 ⟨rfl, B3⟩) | (go_at_call 30; refine (d5.out w5).mono ?_; rintro e w6 ⟨rfl, B6⟩) | (go_at_call 30; refine (d4.out w3).mono ?_; rintro e w4 ⟨rfl, B4⟩) | (go_at_call 29; refine (l5.out w6).mono ?_; rintro e w7 ⟨aB, cB, rfl, oB, B7⟩) | (go_at_call 29; refine (l4.out w4).mono ?_; rintro e w5 ⟨aA, cA, rfl, oA, B5⟩))
          have BB : Below w.heap.size w w7 := by
            have s1 := B1.size
            have s2 := B2.size
            have s3 := B3.size
            have s4 := B4.size
            have s5 := B5.size
            have s6 := B6.size
            exact (((((B1.trans (B2.mono s1)).trans (B3.mono (by omega))).trans (B4.mono (by omega))).trans (B5.mono (by omega))).trans (B6.mono (by omega))).trans (B7.mono (by omega))
          have oA7 := (oA.belowA B6).belowA B7
          obtain ⟨ga, rfl⟩ : ∃ g, aA = some ⟨g, 0, none⟩ := by
            rcases oA7.split with ⟨_, h⟩ | ⟨g, cap, h, _⟩
            · have h2 : (txs LA).length = 0 := by rw [h]; rfl
              rw [txs_len] at h2; have := hpos.out; omega
            · exact ⟨g, (Value.slice.inj h).1⟩
          obtain ⟨gb, rfl⟩ : ∃ g, aB = some ⟨g, 0, none⟩ := by
            rcases oB.split with ⟨_, h⟩ | ⟨g, cap, h, _⟩
            · have h2 : (txs LB).length = 0 := by rw [h]; rfl
              rw [txs_len] at h2; have := hpos.out; omega
            · exact ⟨g, (Value.slice.inj h).1⟩
          have ca : Hid (∀ (k : Nat) (hk : k < LA.length), w7.cell? ⟨ga, k, none⟩ = some (.string (tx (LA[k]'hk)))) := fun k hk => by
            have h := oA7.cells k _ (txs_get LA k hk)
            rwa [Nat.zero_add] at h
          have cb : Hid (∀ (k : Nat) (hk : k < LB.length), w7.cell? ⟨gb, k, none⟩ = some (.string (tx (LB[k]'hk)))) := fun k hk => by
            have h := oB.cells k _ (txs_get LB k hk)
            rwa [Nat.zero_add] at h
          replace BB := hide BB
          have HL := hide hle
          clear oA oA7 oB B1 B2 B3 B4 B5 B6 B7 hleI hle
          go_loopw [7] (fun i wr => ∃ k : Nat, i = .int .i64 k ∧ k ≤ LA.length ∧ Hid (LA.drop 1 = LB.drop 1 ↔ LA.drop k = LB.drop k) ∧ Hid (Drawn w7 wr)) (fun i _ => LA.length - (intOf i).toNat)
          case atStart => exact ⟨1, rfl, hpos.out, Iff.rfl, Drawn.refl _⟩
          case round =>
            obtain ⟨k, rfl, hk, hE, HD⟩ := hrel
            by_cases hlt : k < LA.length
            · have hltB : k < LB.length := by have := HL.out; omega
              have hkB : k ≤ 1048577 := by have := hln.out; omega
              have hltBI : (k : Int) < (LB.length : Int) := by omega
              have c1 := (HD.out.cell ⟨ga, k, none⟩).trans (ca.out k hlt)
              have c2 := (HD.out.cell ⟨gb, k, none⟩).trans (cb.out k hltB)
              have dA : LA.drop k = LA[k]'hlt :: LA.drop (k + 1) := List.drop_eq_getElem_cons hlt
              have dB : LB.drop k = LB[k]'hltB :: LB.drop (k + 1) := List.drop_eq_getElem_cons hltB
              have hq := htx.out (LA[k]'hlt) (LB[k]'hltB)
              have hE2 := hE.out
              rw [dA, dB, List.cons.injEq] at hE2
              generalize LA[k]'hlt = u at *
              generalize LB[k]'hltB = v at *
              clear dA dB hE
              by_cases huv : u = v
              · have hF : Hid (LA.drop 1 = LB.drop 1 ↔ LA.drop (k + 1) = LB.drop (k + 1)) := ⟨fun h => (hE2.1 h).2, fun h => hE2.2 ⟨huv, h⟩⟩
                rw [decide_eq_true huv] at hq
                clear hE2 huv
                go_wp2
                go_region
                go_wp2
                go_roundw
                case rel => exact ⟨k + 1, by simp, by omega, hF, HD.out.more 1⟩
                case measure => simp [intOf]; omega
              · have hF : Hid (matchL p s = false) := by unfold Hid; rw [hR2.out]; exact decide_eq_false (fun h => huv (hE2.1 h).1)
                rw [decide_eq_false huv] at hq
                clear hE2 huv
                go_wp2
                go_region
                go_wp2
                go_ret
                exact ⟨by rw [hF.out]; rfl, (HD.out.more 1).below BB.out⟩
            · have hltI : ¬ (k : Int) < (LB.length : Int) := by have := HL.out; omega
              have hF : Hid (matchL p s = true) := by
                unfold Hid
                rw [hR2.out]
                refine decide_eq_true (hE.out.2 ?_)
                rw [List.drop_eq_nil_of_le (by omega), List.drop_eq_nil_of_le (by have := HL.out; omega)]
              go_wp2
              go_ret
              exact ⟨by rw [hF.out]; rfl, HD.out.below BB.out⟩
        · have hleI : ((LA.length : Int) != (LB.length : Int)) = true := by simp; omega
          have hR2 : Hid (matchL p s = false) := by unfold Hid; rw [hR.out]; exact decide_eq_false (fun h => hle h.1)
          go_enter Tryz.func72, Tryz.ntmps72
          go_wp2_with (first | (go_at_call 28; refine (d2.out w1).mono ?_; rintro e w2 ⟨rfl, B2⟩) | (go_at_call 28; refine (d1.out _).mono ?_; rintro e w1 ⟨rfl, B1⟩) | (go_at_call 38; refine (d3.out _).mono ?_; rintro e w3 ⟨rfl, B3⟩) | (go_at_call 30; refine (d5.out w5).mono ?_; rintro e w6 ⟨rfl, B6⟩) | (go_at_call 30; refine (d4.out w3).mono ?_; rintro e w4 ⟨rfl, B4⟩) | (go_at_call 29; refine (l5.out w6).mono ?_; rintro e w7 ⟨aB, cB, rfl, oB, B7⟩) | (go_at_call 29; refine (l4.out w4).mono ?_; rintro e w5 ⟨aA, cA, rfl, oA, B5⟩))
          go_ret
          have s1 := B1.size
          have s2 := B2.size
          have s3 := B3.size
          have s4 := B4.size
          have s5 := B5.size
          have s6 := B6.size
          exact ⟨by rw [hR2.out]; rfl, (((((B1.trans (B2.mono s1)).trans (B3.mono (by omega))).trans (B4.mono (by omega))).trans (B5.mono (by omega))).trans (B6.mono (by omega))).trans (B7.mono (by omega))⟩

end Go.Proofs.YtcbcdfdicefkoaaGreatDoor

namespace Go.Proofs.YtcbcdfdicefkoaaGreatDoor
open Go.RowKit Go.IntWalk

theorem cutD_at (d : UInt8) : ∀ (l : List UInt8) (k : Nat), (∀ (i : Nat) (h : i < l.length), i < k → l[i]'h ≠ d) → (h : k < l.length) → l[k]'h = d → (cutD d l).1 = l.take k ∧ (cutD d l).2.1 = l.drop (k + 1)
  | c :: r, 0, _, h, e => by
    have e2 : c = d := e
    rw [cutD, if_pos e2]
    simp
  | c :: r, k + 1, hn, h, e => by
    have hc : c ≠ d := hn 0 (by simp) (by omega)
    have ih := cutD_at d r k (fun i hi hik => hn (i + 1) (by simp; omega) (by omega)) (by simpa using h) (by simpa using e)
    rw [cutD, if_neg hc]
    simp [ih.1, ih.2]
theorem cutD_none (d : UInt8) : ∀ (l : List UInt8), (∀ (i : Nat) (h : i < l.length), l[i]'h ≠ d) → (cutD d l).2.1 = []
  | [], _ => rfl
  | c :: r, hn => by
    have hc : c ≠ d := hn 0 (by simp)
    rw [cutD, if_neg hc]
    exact cutD_none d r (fun i hi => hn (i + 1) (by simp; omega))

theorem locS_at (p : Bool) (l : List UInt8) (k : Nat) (h : k < l.length) : locS p (l.drop k) = if l[k]'h = 46 then (!p && locS true (l.drop (k + 1))) else (locN (l[k]'h).toNat && locS false (l.drop (k + 1))) := by
  rw [List.drop_eq_getElem_cons h, locS]

theorem locN_split (n : Nat) : locN n = ((ltN n || digN n) || (decide (n = 95) || (decide (n = 43) || decide (n = 45)))) := by unfold locN; rw [plN_split]
/-- Is a local part right: no dot ahead, none behind, no two in a row. -/
theorem locS_last : ∀ (l : List UInt8) (p : Bool), locS p l = true → (h : 0 < l.length) → l[l.length - 1]'(by omega) ≠ 46
  | [c], p, hl, _ => by
    intro e
    have e2 : c = 46 := e
    rw [locS, if_pos e2] at hl
    simp [locS] at hl
  | c :: d :: r, p, hl, _ => by
    have h2 : ∃ q, locS q (d :: r) = true := by
      rw [locS] at hl
      split at hl
      · exact ⟨_, (Bool.and_eq_true _ _ ▸ hl).2⟩
      · exact ⟨_, (Bool.and_eq_true _ _ ▸ hl).2⟩
    obtain ⟨q, hq⟩ := h2
    have ih := locS_last (d :: r) q hq (by simp)
    simpa using ih

end Go.Proofs.YtcbcdfdicefkoaaGreatDoor
