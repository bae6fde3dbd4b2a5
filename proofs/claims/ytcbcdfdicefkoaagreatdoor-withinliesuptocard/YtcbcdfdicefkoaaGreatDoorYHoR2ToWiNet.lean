/-
  The document's host: Labels as a row of texts.
  within's halves: a network's address and its mask.
  within's questions of networks: isNet.
-/
import Derived.Test.YtcbcdfdicefkoaaGreatDoorYWiMailToHoR
import Derived.RegionTactic
namespace Go.Proofs.YtcbcdfdicefkoaaGreatDoor
open Go.RowKit Go.IntWalk

/-- Rows of bytes as texts. -/
def txs (ws : List (List UInt8)) : List ByteArray := ws.map tx
theorem txs_more (ws : List (List UInt8)) (u : List UInt8) : txs (ws ++ [u]) = txs ws ++ [tx u] := by simp [txs]
theorem txs_len (ws : List (List UInt8)) : (txs ws).length = ws.length := by simp [txs]

def cutH (l : List UInt8) (a b : Nat) : List UInt8 := (l.take b).drop a
theorem cutH_more (l : List UInt8) (a k : Nat) (h : a ≤ k) (hk : k < l.length) : cutH l a (k + 1) = cutH l a k ++ [l[k]'hk] := by
  unfold cutH
  rw [List.take_succ_eq_append_getElem hk, List.drop_append_of_le_length (by rw [List.length_take]; omega)]
theorem cut_textH (s : ByteArray) (a b : Nat) : s.extract a b = tx (cutH s.data.toList a b) := by
  apply ByteArray.ext
  rw [ByteArray.data_extract]
  apply Array.ext'
  rw [Array.toList_extract]
  unfold cutH tx
  rw [List.drop_take]

/-- What has been told of the labels, and what is left. -/
def LRel (l : List UInt8) (ws : List (List UInt8)) (a k : Nat) : Prop := labs l = ws ++ labsG (cutH l a k) (l.drop k)
theorem lrel_start (l : List UInt8) : LRel l [] 0 0 := by unfold LRel labs cutH; simp
theorem lrel_dot (l : List UInt8) (ws : List (List UInt8)) (a k : Nat) (h : LRel l ws a k) (hk : k < l.length) (hd : l[k]'hk = 46) : LRel l (ws ++ [cutH l a k]) (k + 1) (k + 1) := by
  unfold LRel at h ⊢
  rw [h, List.drop_eq_getElem_cons hk, labsG, if_pos hd]
  have e : cutH l (k + 1) (k + 1) = [] := by unfold cutH; simp
  rw [e]
  simp
theorem lrel_byte (l : List UInt8) (ws : List (List UInt8)) (a k : Nat) (h : LRel l ws a k) (hak : a ≤ k) (hk : k < l.length) (hd : l[k]'hk ≠ 46) : LRel l ws a (k + 1) := by
  unfold LRel at h ⊢
  rw [h, List.drop_eq_getElem_cons hk, labsG, if_neg hd, cutH_more l a k hak hk]
theorem lrel_end (l : List UInt8) (ws : List (List UInt8)) (a : Nat) (h : LRel l ws a l.length) : labs l = ws ++ [cutH l a l.length] := by
  unfold LRel at h
  rw [h, List.drop_length, labsG]

set_option maxRecDepth 100000 in
set_option maxHeartbeats 2000000 in
theorem refLabels_any (s : ByteArray) (hs : s.size ≤ 1048576) (w : World) :
    Calls Tryz.prog 29 #[.string s] w fun e w' => ∃ ao c, e = .returned (.slice ao (labs s.data.toList).length c) ∧ OwnS w' w.heap.size (.slice ao (labs s.data.toList).length c) (txs (labs s.data.toList)) ∧ Below w.heap.size w w' := by
  have hSL := sizeH_len s
  go_enter Tryz.func29, Tryz.ntmps29
  go_wp2
  go_loopw [3, 4, 5] (fun l f i wr => ∃ (ws : List (List UInt8)) (ao : Option Addr) (c a k : Nat), l = .slice ao ws.length c ∧ f = .int .i64 a ∧ i = .int .i64 k ∧ a ≤ k ∧ k ≤ s.size ∧ ws.length ≤ k ∧ Hid (OwnS wr w.heap.size (.slice ao ws.length c) (txs ws) ∧ Below w.heap.size w wr) ∧ Hid (LRel s.data.toList ws a k)) (fun _ _ i _ => s.size - (intOf i).toNat)
  case atStart => exact ⟨[], none, 0, 0, 0, rfl, rfl, rfl, Nat.le_refl _, Nat.zero_le _, Nat.le_refl _, ⟨OwnS.nil _ _, Below.refl _ _⟩, lrel_start _⟩
  case round =>
    obtain ⟨ws, ao, c, a, k, rfl, rfl, rfl, hak, hk, hwk, HO, HW⟩ := hrel
    have htl := hide (txs_len ws)
    by_cases hlt : k < s.size
    · have ltI : (k : Int) < (s.size : Int) := by omega
      have hl : k < s.data.toList.length := by rw [sizeH_len]; exact hlt
      by_cases hd : (s[k]'hlt) = 46
      · have hd' : ((s[k]'hlt).toNat : Int) = 46 := by rw [hd]; rfl
        have hn := hide (lrel_dot s.data.toList ws a k HW.out hl (by rw [getH_list s k hlt]; exact hd))
        have sl : ∀ X, (Instr.slice 9 (.string s) (some (.int .i64 (a : Int))) (some (.int .i64 (k : Int))) none).run Tryz.prog X = .ok (.string (tx (cutH s.data.toList a k))) X := fun X => by
          have h := run_slice_string (P := Tryz.prog) (w := X) 9 s .i64 .i64 (a : Int) (k : Int) Tryz.underlying9 (by omega) (by omega) (by omega)
          rw [h, ← cut_textH]; simp
        generalize cutH s.data.toList a k = u at hn sl
        clear hd hl HW
        go_wp2_with (at_builtin; refine wpList_appS _ rfl (.tmp 16) (.tmp 21) rfl w.heap.size _ (txs ws) rfl (HO.out.1.alloc _) wr.heap.size (tx u) rfl (by simp) (ws.length + 1) (by rw [htl.out]) (by omega) (by have := HO.out.2.size; simp; omega) ?_; intro g c' w1 o1 bg lg hc1 hm1 gr1)
        have HO1 : Hid (OwnS w1 w.heap.size (.slice (some ⟨g, 0, none⟩) (ws ++ [u]).length c') (txs (ws ++ [u])) ∧ Below w.heap.size w w1) := by
          unfold Hid
          rw [txs_more]
          have e : (ws ++ [u]).length = ws.length + 1 := by simp
          rw [e]
          exact ⟨o1, (HO.out.2.alloc HO.out.2.size _).grown gr1 (by have := HO.out.2.size; simp; omega) (fun j hj => (HO.out.1.lt j hj).1)⟩
        go_roundw
        case rel => exact ⟨ws ++ [u], some ⟨g, 0, none⟩, c', k + 1, k + 1, by simp, by simp, by simp, Nat.le_refl _, by omega, by simp; omega, HO1, hn⟩
        case measure => simp [intOf] <;> omega
      · have hd' : (((s[k]'hlt).toNat : Int) == 46) = false := by
          rw [beq_eq_false_iff_ne]
          intro e
          apply hd
          apply UInt8.toNat_inj.1
          show (s[k]'hlt).toNat = 46
          omega
        have hn := hide (lrel_byte s.data.toList ws a k HW.out hak hl (by rw [getH_list s k hlt]; exact hd))
        clear hd hl HW
        go_wp2
        go_roundw
        case rel => exact ⟨ws, ao, c, a, k + 1, rfl, rfl, by simp, by omega, by omega, by omega, HO, hn⟩
        case measure => simp [intOf] <;> omega
    · obtain rfl : k = s.size := by omega
      have ltI : ¬ (s.size : Int) < (s.size : Int) := by omega
      have hr := HW.out
      rw [← hSL] at hr
      have he := hide (lrel_end s.data.toList ws a hr)
      clear hr
      have sl : ∀ X, (Instr.slice 9 (.string s) (some (.int .i64 (a : Int))) none none).run Tryz.prog X = .ok (.string (tx (cutH s.data.toList a s.data.toList.length))) X := fun X => by
        have h := run_slice_string_from_if (P := Tryz.prog) (w := X) 9 s .i64 (a : Int) Tryz.underlying9
        rw [h, if_pos (by omega), ← cut_textH, hSL]; simp
      generalize cutH s.data.toList a s.data.toList.length = u at he sl
      go_wp2_with (at_builtin; refine wpList_appS _ rfl (.tmp 25) (.tmp 29) rfl w.heap.size _ (txs ws) rfl (HO.out.1.alloc _) wr.heap.size (tx u) rfl (by simp) (ws.length + 1) (by rw [htl.out]) (by omega) (by have := HO.out.2.size; simp; omega) ?_; intro g c' w1 o1 bg lg hc1 hm1 gr1)
      go_ret
      have e : (labs s.data.toList).length = ws.length + 1 := by rw [he.out]; simp
      refine ⟨some ⟨g, 0, none⟩, c', by rw [e]; rfl, ?_, (HO.out.2.alloc HO.out.2.size _).grown gr1 (by have := HO.out.2.size; simp; omega) (fun j hj => (HO.out.1.lt j hj).1)⟩
      rw [e, he.out, txs_more]
      exact o1

end Go.Proofs.YtcbcdfdicefkoaaGreatDoor

namespace Go.Proofs.YtcbcdfdicefkoaaGreatDoor
open Go.RowKit Go.Shelf Go.IntWalk

theorem extract_lo (l : List UInt8) (h : Nat) : (tx l).extract 0 h = tx (l.take h) := by
  rw [cut_textH]
  unfold cutH
  simp [tx]
theorem extract_hi (l : List UInt8) (h : Nat) : (tx l).extract h l.length = tx (l.drop h) := by
  rw [cut_textH]
  unfold cutH
  simp [tx]
set_option maxRecDepth 100000 in
set_option maxHeartbeats 1000000 in
theorem halves_any (l : List UInt8) (hl : l.length ≤ 1048576) (w : World) :
    Calls Tryz.prog 127 #[.string (tx l)] w fun e w' => e = .returned (.tuple #[.string (tx (l.take (l.length / 2))), .string (tx (l.drop (l.length / 2)))]) ∧ Below w.heap.size w w' := by
  have hz := tx_size l
  have h2 : l.length / 2 ≤ (tx l).size := by rw [hz]; omega
  have h2I : ((l.length / 2 : Nat) : Int) ≤ ((tx l).size : Int) := by omega
  have h3 : ((tx l).size : Int) = (l.length : Int) := by rw [hz]
  go_enter Tryz.func127, Tryz.ntmps127
  go_wp2_with fail
  go_region
  all_goals
    go_wp2
    rw [extract_lo, extract_hi]
    refine bodyPost_ret (v := .tuple #[.string (tx (l.take (l.length / 2))), .string (tx (l.drop (l.length / 2)))]) (by simp [results, Tryz.results127, go_sem]) rfl ⟨rfl, (Below.refl _ w).drew⟩

end Go.Proofs.YtcbcdfdicefkoaaGreatDoor

namespace Go.Proofs.YtcbcdfdicefkoaaGreatDoor
open Go.RowKit Go.Shelf Go.IntWalk

/-- Did the mask's 1 bits end ahead of i? -/
def endB (mask : List UInt8) (i : Nat) : Bool := decide (0 < i) && !bitB mask (i - 1)
/-- May the bits at i stand so? -/
def okB (addr mask : List UInt8) (i : Nat) : Bool := !(bitB mask i && endB mask i) && !(!bitB mask i && bitB addr i)
/-- Is it right from i on, n bits more? -/
def netG (addr mask : List UInt8) : Nat → Nat → Bool
  | _, 0 => true
  | i, n + 1 => okB addr mask i && netG addr mask (i + 1) n
/-- May a subtree of network addresses have this Base? -/
def isNetL (b : List UInt8) : Bool := ipL (b.take (b.length / 2)) && (decide ((b.drop (b.length / 2)).length = (b.take (b.length / 2)).length) && netG (b.take (b.length / 2)) (b.drop (b.length / 2)) 0 (8 * (b.drop (b.length / 2)).length))

set_option maxRecDepth 100000 in
set_option maxHeartbeats 4000000 in
theorem isNet_any (b : List UInt8) (hb : b.length ≤ 1048576) (w : World) :
    Calls Tryz.prog 103 #[.string (tx b)] w fun e w' => e = .returned (.bool (isNetL b)) ∧ Below w.heap.size w w' := by
  have hH := hide (fun W => halves_any b hb W)
  have hR : Hid (isNetL b = (ipL (b.take (b.length / 2)) && (decide ((b.drop (b.length / 2)).length = (b.take (b.length / 2)).length) && netG (b.take (b.length / 2)) (b.drop (b.length / 2)) 0 (8 * (b.drop (b.length / 2)).length)))) := rfl
  have hla : (b.take (b.length / 2)).length ≤ 1048576 := by rw [List.length_take]; omega
  have hlm : (b.drop (b.length / 2)).length ≤ 1048576 := by rw [List.length_drop]; omega
  generalize isNetL b = R at hR ⊢
  generalize b.take (b.length / 2) = A at *
  generalize b.drop (b.length / 2) = M at *
  have hi := hide (fun W => ip_any A W)
  have zA := tx_size A
  have zM := tx_size M
  cases hq : ipL A with
  | false =>
    have hF : Hid (R = false) := by unfold Hid; rw [hR.out, hq]; rfl
    rw [hq] at hi
    go_enter Tryz.func103, Tryz.ntmps103
    go_wp2_with fail
    refine (hH.out _).mono ?_
    rintro e w1 ⟨rfl, B1⟩
    go_wp2_with fail
    refine (hi.out _).mono ?_
    rintro e w2 ⟨rfl, rfl⟩
    go_wp2
    go_ret
    exact ⟨by rw [hF.out]; rfl, B1⟩
  | true =>
    rw [hq] at hi
    by_cases hl : M.length = A.length
    · have hR2 : Hid (R = netG A M 0 (8 * M.length)) := by unfold Hid; rw [hR.out, hq, decide_eq_true hl]; rfl
      have hlI : ((tx M).size : Int) = ((tx A).size : Int) := by omega
      clear hR
      go_enter Tryz.func103, Tryz.ntmps103
      go_wp2_with fail
      refine (hH.out _).mono ?_
      rintro e w1 ⟨rfl, B1⟩
      go_wp2_with fail
      refine (hi.out _).mono ?_
      rintro e w2 ⟨rfl, hw⟩
      have hw2 := hw.symm
      subst hw2
      have HB := hide B1
      clear hw B1 hi hH hlI
      go_wp2
      go_loopw [5, 25] (fun ev v wr => ∃ (k : Nat) (ef : Bool), ev = .bool ef ∧ v = .int .i64 k ∧ k ≤ 8 * M.length ∧ Hid (R = netG A M k (8 * M.length - k)) ∧ Hid (ef = endB M k) ∧ Hid (Below w.heap.size w wr)) (fun _ v _ => 8 * M.length - (intOf v).toNat)
      case atStart => exact ⟨0, false, rfl, rfl, Nat.zero_le _, hR2.out, rfl, HB.out⟩
      case round =>
        obtain ⟨k, ef, rfl, rfl, hk, hE, hEF, hQ⟩ := hrel
        by_cases hlt : k < 8 * M.length
        · have ltI : (k : Int) < 8 * (M.length : Int) := by omega
          have hst : netG A M k (8 * M.length - k) = (okB A M k && netG A M (k + 1) (8 * M.length - (k + 1))) := by
            rw [show 8 * M.length - k = (8 * M.length - (k + 1)) + 1 by omega, netG]
          have d1 := hide (fun W => bit_any M k hlt hlm W)
          have d2 := hide (fun W => bit_any A k (by omega) hla W)
          have hN : endB M (k + 1) = !bitB M k := by unfold endB; simp
          have hOk : okB A M k = (!(bitB M k && ef) && !(!bitB M k && bitB A k)) := by unfold okB; rw [← hEF.out]
          generalize bitB M k = mk at d1 hN hOk
          generalize bitB A k = ak at d2 hOk
          rw [hst, hOk] at hE
          have HE := hide hE.out
          have HN := hide hN
          clear hst hOk hE hN hEF
          cases mk with
          | true =>
            cases ef with
            | true =>
              have hF : Hid (R = false) := by unfold Hid; rw [HE.out]; rfl
              go_wp2_with fail
              refine (d1.out _).mono ?_
              rintro e w1 ⟨rfl, hw1⟩
              have hw2 := hw1.symm
              subst hw2
              clear hw1
              go_wp2
              go_ret
              exact ⟨by rw [hF.out]; rfl, hQ.out⟩
            | false =>
              have hE2 : Hid (R = netG A M (k + 1) (8 * M.length - (k + 1))) := by unfold Hid; rw [HE.out]; simp
              have hN2 : Hid (false = endB M (k + 1)) := by unfold Hid; rw [HN.out]; rfl
              go_wp2_with fail
              refine (d1.out _).mono ?_
              rintro e w1 ⟨rfl, hw1⟩
              have hw2 := hw1.symm
              subst hw2
              clear hw1
              go_wp2_with fail
              refine (d1.out _).mono ?_
              rintro e w1 ⟨rfl, hw1⟩
              have hw2 := hw1.symm
              subst hw2
              clear hw1
              go_wp2_with fail
              refine (d1.out _).mono ?_
              rintro e w1 ⟨rfl, hw1⟩
              have hw2 := hw1.symm
              subst hw2
              clear hw1
              go_wp2
              go_roundw
              case rel => exact ⟨k + 1, false, rfl, by simp, by omega, hE2, hN2, hQ⟩
              case measure => simp [intOf]; omega
          | false =>
            cases ak with
            | true =>
              have hF : Hid (R = false) := by unfold Hid; rw [HE.out]; simp
              go_wp2_with fail
              refine (d1.out _).mono ?_
              rintro e w1 ⟨rfl, hw1⟩
              have hw2 := hw1.symm
              subst hw2
              clear hw1
              go_wp2_with fail
              refine (d1.out _).mono ?_
              rintro e w1 ⟨rfl, hw1⟩
              have hw2 := hw1.symm
              subst hw2
              clear hw1
              go_wp2_with fail
              refine (d2.out _).mono ?_
              rintro e w1 ⟨rfl, hw1⟩
              have hw2 := hw1.symm
              subst hw2
              clear hw1
              go_wp2
              go_ret
              exact ⟨by rw [hF.out]; rfl, hQ.out⟩
            | false =>
              have hE2 : Hid (R = netG A M (k + 1) (8 * M.length - (k + 1))) := by unfold Hid; rw [HE.out]; simp
              have hN2 : Hid (true = endB M (k + 1)) := by unfold Hid; rw [HN.out]; rfl
              go_wp2_with fail
              refine (d1.out _).mono ?_
              rintro e w1 ⟨rfl, hw1⟩
              have hw2 := hw1.symm
              subst hw2
              clear hw1
              go_wp2_with fail
              refine (d1.out _).mono ?_
              rintro e w1 ⟨rfl, hw1⟩
              have hw2 := hw1.symm
              subst hw2
              clear hw1
              go_wp2_with fail
              refine (d2.out _).mono ?_
              rintro e w1 ⟨rfl, hw1⟩
              have hw2 := hw1.symm
              subst hw2
              clear hw1
              go_wp2_with fail
              refine (d1.out _).mono ?_
              rintro e w1 ⟨rfl, hw1⟩
              have hw2 := hw1.symm
              subst hw2
              clear hw1
              go_wp2
              go_roundw
              case rel => exact ⟨k + 1, true, rfl, by simp, by omega, hE2, hN2, hQ⟩
              case measure => simp [intOf]; omega
        · have ltI : ¬ (k : Int) < 8 * (M.length : Int) := by omega
          have hF : Hid (R = true) := by unfold Hid; rw [hE.out, show 8 * M.length - k = 0 by omega, netG]
          go_wp2
          go_ret
          exact ⟨by rw [hF.out]; rfl, hQ.out⟩
    · have hF : Hid (R = false) := by unfold Hid; rw [hR.out, hq, decide_eq_false hl]; rfl
      have hlI : ¬ ((tx M).size : Int) = ((tx A).size : Int) := by omega
      go_enter Tryz.func103, Tryz.ntmps103
      go_wp2_with fail
      refine (hH.out _).mono ?_
      rintro e w1 ⟨rfl, B1⟩
      go_wp2_with fail
      refine (hi.out _).mono ?_
      rintro e w2 ⟨rfl, rfl⟩
      go_wp2
      go_ret
      exact ⟨by rw [hF.out]; rfl, B1⟩

end Go.Proofs.YtcbcdfdicefkoaaGreatDoor
