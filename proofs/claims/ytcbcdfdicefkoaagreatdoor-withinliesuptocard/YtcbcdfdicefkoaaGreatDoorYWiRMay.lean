/-
  The document's May of a subtree, as a call.
-/
import Derived.Test.YtcbcdfdicefkoaaGreatDoorYWiAddrToWiRLieM
import Derived.Test.YtcbcdfdicefkoaaGreatDoorYNmRDcToHoR3
import Derived.Test.YtcbcdfdicefkoaaGreatDoorYHoSmToHoR4
import Derived.Test.YtcbcdfdicefkoaaGreatDoorYHoR5ToNmDec
import Derived.Test.YtcbcdfdicefkoaaGreatDoorYWiNmToWiBo
namespace Go.Proofs.YtcbcdfdicefkoaaGreatDoor
open Go.RowKit Go.Shelf Go.IntWalk

theorem mayW_seven (b : List UInt8) : mayW 7 b = isNetL b := rfl
theorem mayW_else {k : Int} (h1 : k ≠ 1) (h2 : k ≠ 2) (h3 : k ≠ 4) (h4 : k ≠ 7) (b : List UInt8) : mayW k b = false := by
  have h : ¬ rAt k < 4 := by unfold rAt; rw [if_neg h1, if_neg h2, if_neg h3, if_neg h4]; decide
  unfold mayW
  rw [decide_eq_false h]; rfl
theorem sl_tx (b : List UInt8) (h : Nat) (hh : h ≤ b.length) (X : World) : (Instr.slice 9 (.string (tx b)) (some (.int .i64 (h : Int))) none none).run Tryz.prog X = .ok (.string (tx (b.drop h))) X := by
  have h1 := run_slice_string_l (P := Tryz.prog) X 9 (tx b) Tryz.underlying9 .i64 (h : Int) (by omega) (by rw [tx_size]; omega)
  have e : cutH (tx b).data.toList h (tx b).size = b.drop h := by unfold cutH; rw [tx_list, tx_size, List.take_of_length_le (Nat.le_refl _)]
  rw [h1, ← e, ← cut_textH]; simp

def mayP (k : Int) (b : List UInt8) (w : World) : Prop := Calls Tryz.prog 12 #[.agg #[.int .i64 k, .string (tx b)]] w fun e w' => e = .returned (.bool (mayW k b)) ∧ Below w.heap.size w w'
set_option maxRecDepth 100000 in
theorem rmay_dot (b r : List UInt8) (hbr : b = 46 :: r) (hb : b.length ≤ 1048576) (w : World) : mayP 1 b w := by
  have hl : b.length = r.length + 1 := by rw [hbr]; rfl
  have d1 := hide (fun W => refDNS_any (tx r) (by rw [tx_size]; omega) W)
  rw [tx_list] at d1
  have s1 : ∀ X, (Instr.slice 9 (.string (tx b)) (some (.int .i64 1)) none none).run Tryz.prog X = .ok (.string (tx r)) X := fun X => by
    have h := sl_tx b 1 (by omega) X
    rw [show b.drop 1 = r by rw [hbr]; rfl] at h
    exact h
  have hF : Hid (mayW 1 b = dnsL r) := by rw [hbr]; exact isMail_dot r
  have hx0 : 0 < (tx b).size := by rw [tx_size]; omega
  have hxe : ((((tx b)[0]'hx0).toNat : Int) == 46) = true := by
    have e : ((tx b)[0]'hx0) = b.getD 0 0 := get_tx b 0 hx0
    rw [e, hbr]
    rfl
  have hxI : (0 : Int) < ((tx b).size : Int) := by omega
  generalize dnsL r = D at *
  clear hbr hl
  unfold mayP
  have BX := nbelowW w (.cells #[.int .i64 1, .string (tx b)] 25)
  have c1 : (w.alloc (.cells #[.int .i64 1, .string (tx b)] 25)).cell? ⟨w.heap.size, 1, none⟩ = some (.string (tx b)) := by simp
  go_enter Tryz.func12, Tryz.ntmps12
  go_wp2_with fail
  refine (d1.out _).mono ?_
  rintro e w1 ⟨rfl, B1⟩
  go_wp2
  go_ret
  exact ⟨by rw [hF.out]; rfl, BX.trans (B1.mono BX.size)⟩
set_option maxRecDepth 100000 in
theorem rmay_mail (b : List UInt8) (hb : b.length ≤ 1048576) (h46 : ∀ r, b ≠ 46 :: r) (w : World) : mayP 1 b w := by
  have d1 := hide (fun W => refEmail_any (tx b) (by rw [tx_size]; exact hb) W)
  have d2 := hide (fun W => refDNS_any (tx b) (by rw [tx_size]; exact hb) W)
  rw [tx_list] at d1 d2
  have hF : mayW 1 b = (mailL b || dnsL b) := isMail_not h46
  by_cases h0 : b.length = 0
  · have hxI : ¬ (0 : Int) < ((tx b).size : Int) := by rw [tx_size]; omega
    clear h46 h0
    cases hm : mailL b with
    | true =>
      rw [hm] at d1 hF
      have HF := hide hF
      clear hF hm
      unfold mayP
      have BX := nbelowW w (.cells #[.int .i64 1, .string (tx b)] 25)
      have c1 : (w.alloc (.cells #[.int .i64 1, .string (tx b)] 25)).cell? ⟨w.heap.size, 1, none⟩ = some (.string (tx b)) := by simp
      go_enter Tryz.func12, Tryz.ntmps12
      go_wp2_with fail
      refine (d1.out _).mono ?_
      rintro e w1 ⟨rfl, B1⟩
      go_wp2
      go_ret
      exact ⟨by rw [HF.out]; rfl, BX.trans (B1.mono BX.size)⟩
    | false =>
      rw [hm] at d1 hF
      have HF := hide hF
      clear hF hm
      generalize dnsL b = D at *
      unfold mayP
      have BX := nbelowW w (.cells #[.int .i64 1, .string (tx b)] 25)
      have c1 : (w.alloc (.cells #[.int .i64 1, .string (tx b)] 25)).cell? ⟨w.heap.size, 1, none⟩ = some (.string (tx b)) := by simp
      go_enter Tryz.func12, Tryz.ntmps12
      go_wp2_with fail
      refine (d1.out _).mono ?_
      rintro e w1 ⟨rfl, B1⟩
      have k1 := (B1.cell (p := ⟨w.heap.size, 1, none⟩) (lt_of_cell c1)).trans c1
      go_wp2_with fail
      refine (d2.out _).mono ?_
      rintro e w2 ⟨rfl, B2⟩
      go_wp2
      go_ret
      exact ⟨by rw [HF.out]; rfl, (BX.trans (B1.mono BX.size)).trans (B2.mono (BX.trans (B1.mono BX.size)).size)⟩
  · have hx0 : 0 < (tx b).size := by rw [tx_size]; omega
    have hxI : (0 : Int) < ((tx b).size : Int) := by omega
    have hxe : ((((tx b)[0]'hx0).toNat : Int) == 46) = false := by
      cases b with
      | nil => exact absurd rfl h0
      | cons x r =>
        refine beq_eq_false_iff_ne.2 (fun e => h46 r ?_)
        have e2 : x.toNat = 46 := by
          have e4 : ((tx (x :: r))[0]'hx0) = (x :: r).getD 0 0 := get_tx (x :: r) 0 hx0
          have e3 : ((tx (x :: r))[0]'hx0).toNat = x.toNat := by rw [e4]; rfl
          omega
        rw [show x = 46 from UInt8.toNat_inj.1 e2]
    clear h46 h0
    cases hm : mailL b with
    | true =>
      rw [hm] at d1 hF
      have HF := hide hF
      clear hF hm
      unfold mayP
      have BX := nbelowW w (.cells #[.int .i64 1, .string (tx b)] 25)
      have c1 : (w.alloc (.cells #[.int .i64 1, .string (tx b)] 25)).cell? ⟨w.heap.size, 1, none⟩ = some (.string (tx b)) := by simp
      go_enter Tryz.func12, Tryz.ntmps12
      go_wp2_with fail
      refine (d1.out _).mono ?_
      rintro e w1 ⟨rfl, B1⟩
      go_wp2
      go_ret
      exact ⟨by rw [HF.out]; rfl, BX.trans (B1.mono BX.size)⟩
    | false =>
      rw [hm] at d1 hF
      have HF := hide hF
      clear hF hm
      generalize dnsL b = D at *
      unfold mayP
      have BX := nbelowW w (.cells #[.int .i64 1, .string (tx b)] 25)
      have c1 : (w.alloc (.cells #[.int .i64 1, .string (tx b)] 25)).cell? ⟨w.heap.size, 1, none⟩ = some (.string (tx b)) := by simp
      go_enter Tryz.func12, Tryz.ntmps12
      go_wp2_with fail
      refine (d1.out _).mono ?_
      rintro e w1 ⟨rfl, B1⟩
      have k1 := (B1.cell (p := ⟨w.heap.size, 1, none⟩) (lt_of_cell c1)).trans c1
      go_wp2_with fail
      refine (d2.out _).mono ?_
      rintro e w2 ⟨rfl, B2⟩
      go_wp2
      go_ret
      exact ⟨by rw [HF.out]; rfl, (BX.trans (B1.mono BX.size)).trans (B2.mono (BX.trans (B1.mono BX.size)).size)⟩
set_option maxRecDepth 100000 in
theorem rmay_dns (b : List UInt8) (hb : b.length ≤ 1048576) (w : World) : mayP 2 b w := by
  have d2 := hide (fun W => refDNS_any (tx b) (by rw [tx_size]; exact hb) W)
  rw [tx_list] at d2
  have hF : Hid (mayW 2 b = dnsL b) := rfl
  generalize dnsL b = D at *
  unfold mayP
  have BX := nbelowW w (.cells #[.int .i64 2, .string (tx b)] 25)
  have c1 : (w.alloc (.cells #[.int .i64 2, .string (tx b)] 25)).cell? ⟨w.heap.size, 1, none⟩ = some (.string (tx b)) := by simp
  go_enter Tryz.func12, Tryz.ntmps12
  go_wp2_with fail
  refine (d2.out _).mono ?_
  rintro e w2 ⟨rfl, B2⟩
  go_wp2
  go_ret
  exact ⟨by rw [hF.out]; rfl, BX.trans (B2.mono BX.size)⟩
set_option maxRecDepth 100000 in
theorem rmay_name (b : List UInt8) (hb : b.length ≤ 1048576) (w : World) : mayP 4 b w := by
  obtain ⟨cap, w1, hcv, s1, B1⟩ := conv_any (tx b) (by rw [tx_size]; exact hb) (w.alloc (.cells #[.int .i64 4, .string (tx b)] 25))
  have hz : (w.alloc (.cells #[.int .i64 4, .string (tx b)] 25)).heap.size = w.heap.size + 1 := by simp
  rw [hz] at hcv s1
  have d1 := hide (rdecode_any _ _ _ _ w1 s1 (by rw [tx_size]; exact hb))
  rw [tx_list] at d1
  have HW : Hid (mayW 4 b = decide (ansE (nums b) = 0)) := rfl
  have HB := hide ((nbelowW w (.cells #[.int .i64 4, .string (tx b)] 25)).trans (B1.mono (nbelowW w (.cells #[.int .i64 4, .string (tx b)] 25)).size))
  clear B1 s1
  generalize ansE (nums b) = E at *
  generalize ansN (nums b) = A at *
  unfold mayP
  have BX := nbelowW w (.cells #[.int .i64 4, .string (tx b)] 25)
  have c1 : (w.alloc (.cells #[.int .i64 4, .string (tx b)] 25)).cell? ⟨w.heap.size, 1, none⟩ = some (.string (tx b)) := by simp
  go_enter Tryz.func12, Tryz.ntmps12
  go_wp2_with fail
  refine d1.out.mono ?_
  rintro e w2 ⟨a2, m2, c2, rfl, _, B2⟩
  have hq : (E == 0) = decide (E = 0) := by by_cases h : E = 0 <;> simp [h]
  have HB2 := hide (HB.out.trans (B2.mono HB.out.size))
  clear d1 B2 HB
  go_wp2
  go_ret
  exact ⟨by rw [HW.out, ← hq]; rfl, HB2.out⟩
theorem net_len {b : List UInt8} (h : isNetL b = true) : b.length = 8 ∨ b.length = 32 := by
  unfold isNetL at h
  rw [Bool.and_eq_true, Bool.and_eq_true, decide_eq_true_eq] at h
  obtain ⟨h1, h2, _⟩ := h
  rw [List.length_drop, List.length_take] at h2
  unfold ipL at h1
  rw [Bool.or_eq_true, decide_eq_true_eq, decide_eq_true_eq, List.length_take] at h1
  omega
theorem net_loop {b : List UInt8} {h : Nat} (hl : b.length = 2 * h) (h4 : h = 4 ∨ h = 16) : isNetL b = netG (b.take h) (b.drop h) 0 (8 * h) := by
  have e : b.length / 2 = h := by omega
  unfold isNetL ipL
  rw [e, List.length_drop, List.length_take, show min h b.length = h by omega, show b.length - h = h by omega]
  rcases h4 with rfl | rfl <;> simp
theorem bitN_on {l : List UInt8} {i : Nat} (h : bitB l i = true) : bitN l i = 1 := by unfold bitN; rw [if_pos h]
theorem bitN_off {l : List UInt8} {i : Nat} (h : bitB l i = false) : bitN l i = 0 := by unfold bitN; rw [if_neg (by rw [h]; decide)]
set_option maxRecDepth 100000 in
set_option maxHeartbeats 1000000 in
theorem rmay_net (b : List UInt8) (hb : b.length ≤ 1048576) (w : World) : mayP 7 b w := by
  by_cases h8 : b.length = 8
  · have hRn : Hid (isNetL b = netG (b.take 4) (b.drop 4) 0 (8 * 4)) := net_loop (by omega) (by decide)
    have hMl : (b.drop 4).length = 4 := by rw [List.length_drop]; omega
    have hF : Hid (mayW 7 b = isNetL b) := rfl
    have s1 : ∀ X, (Instr.slice 9 (.string (tx b)) (some (.int .i64 4)) none none).run Tryz.prog X = .ok (.string (tx (b.drop 4))) X := fun X => sl_tx b 4 (by omega) X
    have zi : ((tx b).size : Int) = 8 := by rw [tx_size]; omega
    have hbt : Hid (∀ i, i < 8 * 4 → bitB (b.take 4) i = bitB b i) := fun i hi => bit_take b 4 i hi
    generalize isNetL b = R at *
    generalize hM : b.drop 4 = M at *
    generalize hA : b.take 4 = A at *
    clear hM hA
    unfold mayP
    have BX := nbelowW w (.cells #[.int .i64 7, .string (tx b)] 25)
    have c1 : (w.alloc (.cells #[.int .i64 7, .string (tx b)] 25)).cell? ⟨w.heap.size, 1, none⟩ = some (.string (tx b)) := by simp
    go_enter Tryz.func12, Tryz.ntmps12
    go_wp2
    go_loop [6] (fun i => ∃ k : Nat, i = .int .i64 k ∧ k ≤ 8 * 4 ∧ Hid (R = netG A M k (8 * 4 - k))) (fun i => 8 * 4 - (intOf i).toNat)
    case atStart => exact ⟨0, rfl, Nat.zero_le _, hRn⟩
    case round =>
      obtain ⟨k, rfl, hk, hE⟩ := hrel
      by_cases hlt : k < 8 * 4
      · have ltI : (k : Int) < 8 * 4 := by omega
        have hst : netG A M k (8 * 4 - k) = (okB A M k && netG A M (k + 1) (8 * 4 - (k + 1))) := by
          rw [show 8 * 4 - k = (8 * 4 - (k + 1)) + 1 by omega, netG]
        have hEk := hE.out
        rw [hst, bad_ok, badB, hbt.out k hlt] at hEk
        have d1 := hide (fun W => rbit_any M k (by rw [hMl]; exact hlt) (by omega) W)
        have d3 := hide (fun W => rbit_any b k (by omega) hb W)
        clear hst hE
        cases hmk : bitB M k with
        | true =>
          rw [bitN_on hmk] at d1
          rw [hmk] at hEk
          by_cases hk0 : 0 < k
          · have k0I : (0 : Int) < (k : Int) := by omega
            have hkc : ((k - 1 : Nat) : Int) = (k : Int) - 1 := by omega
            have d2 := hide (fun W => rbit_any M (k - 1) (by rw [hMl]; omega) (by omega) W)
            unfold Hid at d2
            rw [hkc] at d2
            rw [decide_eq_true hk0] at hEk
            cases hmp : bitB M (k - 1) with
            | true =>
              rw [hmp] at hEk
              simp only [bitN_on hmp] at d2
              have D2 := hide d2
              have hE2 : Hid (R = netG A M (k + 1) (8 * 4 - (k + 1))) := by unfold Hid; rw [hEk]; rfl
              clear d2 hEk hmk hmp hkc
              go_wp2_with fail
              refine (d1.out _).mono ?_
              rintro e w2 ⟨rfl, rfl⟩
              go_wp2_with fail
              refine (D2.out _).mono ?_
              rintro e w2 ⟨rfl, rfl⟩
              go_wp2
              go_round
              case rel => exact ⟨k + 1, by go_num, by omega, hE2⟩
              case measure => simp [intOf]; omega
            | false =>
              rw [hmp] at hEk
              simp only [bitN_off hmp] at d2
              have D2 := hide d2
              have hE2 : Hid (R = false) := by unfold Hid; rw [hEk]; rfl
              clear d2 hEk hmk hmp hkc
              go_wp2_with fail
              refine (d1.out _).mono ?_
              rintro e w2 ⟨rfl, rfl⟩
              go_wp2_with fail
              refine (D2.out _).mono ?_
              rintro e w2 ⟨rfl, rfl⟩
              go_wp2
              go_ret
              exact ⟨by rw [hF.out, hE2.out]; rfl, BX⟩
          · have k0I : ¬ (0 : Int) < (k : Int) := by omega
            rw [decide_eq_false hk0] at hEk
            have hE2 : Hid (R = netG A M (k + 1) (8 * 4 - (k + 1))) := by unfold Hid; rw [hEk]; rfl
            clear hEk hmk
            go_wp2_with fail
            refine (d1.out _).mono ?_
            rintro e w2 ⟨rfl, rfl⟩
            go_wp2
            go_round
            case rel => exact ⟨k + 1, by go_num, by omega, hE2⟩
            case measure => simp [intOf]; omega
        | false =>
          rw [bitN_off hmk] at d1
          rw [hmk] at hEk
          cases hbk : bitB b k with
          | true =>
            rw [hbk] at hEk
            rw [bitN_on hbk] at d3
            have hE2 : Hid (R = false) := by unfold Hid; rw [hEk]; rfl
            clear hEk hmk hbk
            go_wp2_with fail
            refine (d1.out _).mono ?_
            rintro e w2 ⟨rfl, rfl⟩
            go_wp2_with fail
            refine (d3.out _).mono ?_
            rintro e w2 ⟨rfl, rfl⟩
            go_wp2
            go_ret
            exact ⟨by rw [hF.out, hE2.out]; rfl, BX⟩
          | false =>
            rw [hbk] at hEk
            rw [bitN_off hbk] at d3
            have hE2 : Hid (R = netG A M (k + 1) (8 * 4 - (k + 1))) := by unfold Hid; rw [hEk]; rfl
            clear hEk hmk hbk
            go_wp2_with fail
            refine (d1.out _).mono ?_
            rintro e w2 ⟨rfl, rfl⟩
            go_wp2_with fail
            refine (d3.out _).mono ?_
            rintro e w2 ⟨rfl, rfl⟩
            go_wp2
            go_round
            case rel => exact ⟨k + 1, by go_num, by omega, hE2⟩
            case measure => simp [intOf]; omega
      · have ltI : ¬ (k : Int) < 8 * 4 := by omega
        have hE2 : Hid (R = true) := by unfold Hid; rw [hE.out, show 8 * 4 - k = 0 by omega, netG]
        clear hE
        go_wp2
        go_ret
        exact ⟨by rw [hF.out, hE2.out]; rfl, BX⟩
  by_cases h32 : b.length = 32
  · have hRn : Hid (isNetL b = netG (b.take 16) (b.drop 16) 0 (8 * 16)) := net_loop (by omega) (by decide)
    have hMl : (b.drop 16).length = 16 := by rw [List.length_drop]; omega
    have hF : Hid (mayW 7 b = isNetL b) := rfl
    have s1 : ∀ X, (Instr.slice 9 (.string (tx b)) (some (.int .i64 16)) none none).run Tryz.prog X = .ok (.string (tx (b.drop 16))) X := fun X => sl_tx b 16 (by omega) X
    have zi : ((tx b).size : Int) = 32 := by rw [tx_size]; omega
    have hbt : Hid (∀ i, i < 8 * 16 → bitB (b.take 16) i = bitB b i) := fun i hi => bit_take b 16 i hi
    generalize isNetL b = R at *
    generalize hM : b.drop 16 = M at *
    generalize hA : b.take 16 = A at *
    clear hM hA
    unfold mayP
    have BX := nbelowW w (.cells #[.int .i64 7, .string (tx b)] 25)
    have c1 : (w.alloc (.cells #[.int .i64 7, .string (tx b)] 25)).cell? ⟨w.heap.size, 1, none⟩ = some (.string (tx b)) := by simp
    go_enter Tryz.func12, Tryz.ntmps12
    go_wp2
    go_loop [6] (fun i => ∃ k : Nat, i = .int .i64 k ∧ k ≤ 8 * 16 ∧ Hid (R = netG A M k (8 * 16 - k))) (fun i => 8 * 16 - (intOf i).toNat)
    case atStart => exact ⟨0, rfl, Nat.zero_le _, hRn⟩
    case round =>
      obtain ⟨k, rfl, hk, hE⟩ := hrel
      by_cases hlt : k < 8 * 16
      · have ltI : (k : Int) < 8 * 16 := by omega
        have hst : netG A M k (8 * 16 - k) = (okB A M k && netG A M (k + 1) (8 * 16 - (k + 1))) := by
          rw [show 8 * 16 - k = (8 * 16 - (k + 1)) + 1 by omega, netG]
        have hEk := hE.out
        rw [hst, bad_ok, badB, hbt.out k hlt] at hEk
        have d1 := hide (fun W => rbit_any M k (by rw [hMl]; exact hlt) (by omega) W)
        have d3 := hide (fun W => rbit_any b k (by omega) hb W)
        clear hst hE
        cases hmk : bitB M k with
        | true =>
          rw [bitN_on hmk] at d1
          rw [hmk] at hEk
          by_cases hk0 : 0 < k
          · have k0I : (0 : Int) < (k : Int) := by omega
            have hkc : ((k - 1 : Nat) : Int) = (k : Int) - 1 := by omega
            have d2 := hide (fun W => rbit_any M (k - 1) (by rw [hMl]; omega) (by omega) W)
            unfold Hid at d2
            rw [hkc] at d2
            rw [decide_eq_true hk0] at hEk
            cases hmp : bitB M (k - 1) with
            | true =>
              rw [hmp] at hEk
              simp only [bitN_on hmp] at d2
              have D2 := hide d2
              have hE2 : Hid (R = netG A M (k + 1) (8 * 16 - (k + 1))) := by unfold Hid; rw [hEk]; rfl
              clear d2 hEk hmk hmp hkc
              go_wp2_with fail
              refine (d1.out _).mono ?_
              rintro e w2 ⟨rfl, rfl⟩
              go_wp2_with fail
              refine (D2.out _).mono ?_
              rintro e w2 ⟨rfl, rfl⟩
              go_wp2
              go_round
              case rel => exact ⟨k + 1, by go_num, by omega, hE2⟩
              case measure => simp [intOf]; omega
            | false =>
              rw [hmp] at hEk
              simp only [bitN_off hmp] at d2
              have D2 := hide d2
              have hE2 : Hid (R = false) := by unfold Hid; rw [hEk]; rfl
              clear d2 hEk hmk hmp hkc
              go_wp2_with fail
              refine (d1.out _).mono ?_
              rintro e w2 ⟨rfl, rfl⟩
              go_wp2_with fail
              refine (D2.out _).mono ?_
              rintro e w2 ⟨rfl, rfl⟩
              go_wp2
              go_ret
              exact ⟨by rw [hF.out, hE2.out]; rfl, BX⟩
          · have k0I : ¬ (0 : Int) < (k : Int) := by omega
            rw [decide_eq_false hk0] at hEk
            have hE2 : Hid (R = netG A M (k + 1) (8 * 16 - (k + 1))) := by unfold Hid; rw [hEk]; rfl
            clear hEk hmk
            go_wp2_with fail
            refine (d1.out _).mono ?_
            rintro e w2 ⟨rfl, rfl⟩
            go_wp2
            go_round
            case rel => exact ⟨k + 1, by go_num, by omega, hE2⟩
            case measure => simp [intOf]; omega
        | false =>
          rw [bitN_off hmk] at d1
          rw [hmk] at hEk
          cases hbk : bitB b k with
          | true =>
            rw [hbk] at hEk
            rw [bitN_on hbk] at d3
            have hE2 : Hid (R = false) := by unfold Hid; rw [hEk]; rfl
            clear hEk hmk hbk
            go_wp2_with fail
            refine (d1.out _).mono ?_
            rintro e w2 ⟨rfl, rfl⟩
            go_wp2_with fail
            refine (d3.out _).mono ?_
            rintro e w2 ⟨rfl, rfl⟩
            go_wp2
            go_ret
            exact ⟨by rw [hF.out, hE2.out]; rfl, BX⟩
          | false =>
            rw [hbk] at hEk
            rw [bitN_off hbk] at d3
            have hE2 : Hid (R = netG A M (k + 1) (8 * 16 - (k + 1))) := by unfold Hid; rw [hEk]; rfl
            clear hEk hmk hbk
            go_wp2_with fail
            refine (d1.out _).mono ?_
            rintro e w2 ⟨rfl, rfl⟩
            go_wp2_with fail
            refine (d3.out _).mono ?_
            rintro e w2 ⟨rfl, rfl⟩
            go_wp2
            go_round
            case rel => exact ⟨k + 1, by go_num, by omega, hE2⟩
            case measure => simp [intOf]; omega
      · have ltI : ¬ (k : Int) < 8 * 16 := by omega
        have hE2 : Hid (R = true) := by unfold Hid; rw [hE.out, show 8 * 16 - k = 0 by omega, netG]
        clear hE
        go_wp2
        go_ret
        exact ⟨by rw [hF.out, hE2.out]; rfl, BX⟩
  have hF : Hid (mayW 7 b = false) := by
    unfold Hid
    rw [mayW_seven]
    cases h : isNetL b with
    | false => rfl
    | true => rcases net_len h with h | h <;> omega
  have y8 : ¬ ((tx b).size : Int) = 8 := by rw [tx_size]; omega
  have y32 : ¬ ((tx b).size : Int) = 32 := by rw [tx_size]; omega
  have z8 : (((tx b).size : Int) != 8) = true := by simpa using y8
  have z32 : (((tx b).size : Int) != 32) = true := by simpa using y32
  unfold mayP
  have BX := nbelowW w (.cells #[.int .i64 7, .string (tx b)] 25)
  have c1 : (w.alloc (.cells #[.int .i64 7, .string (tx b)] 25)).cell? ⟨w.heap.size, 1, none⟩ = some (.string (tx b)) := by simp
  go_enter Tryz.func12, Tryz.ntmps12
  go_wp2
  go_ret
  exact ⟨by rw [hF.out]; rfl, BX⟩
set_option maxRecDepth 100000 in
theorem rmay_else {k : Int} (h1 : k ≠ 1) (h2 : k ≠ 2) (h3 : k ≠ 4) (h4 : k ≠ 7) (b : List UInt8) (w : World) : mayP k b w := by
  have hF := hide (mayW_else h1 h2 h3 h4 b)
  have e1 : (k == 1) = false := by simpa using h1
  have e2 : (k == 2) = false := by simpa using h2
  have e3 : (k == 4) = false := by simpa using h3
  have e4 : (k == 7) = false := by simpa using h4
  unfold mayP
  have BX := nbelowW w (.cells #[.int .i64 k, .string (tx b)] 25)
  have c1 : (w.alloc (.cells #[.int .i64 k, .string (tx b)] 25)).cell? ⟨w.heap.size, 1, none⟩ = some (.string (tx b)) := by simp
  go_enter Tryz.func12, Tryz.ntmps12
  go_wp2
  go_ret
  exact ⟨by rw [hF.out]; rfl, BX⟩

/-- The document's May of a subtree. -/
theorem rmayT_any (k : Int) (b : List UInt8) (hb : b.length ≤ 1048576) (w : World) : mayP k b w := by
  by_cases h1 : k = 1
  · subst h1
    by_cases h : ∃ r, b = 46 :: r
    · obtain ⟨r, hr⟩ := h
      exact rmay_dot b r hr hb w
    · exact rmay_mail b hb (fun r hr => h ⟨r, hr⟩) w
  by_cases h2 : k = 2
  · subst h2; exact rmay_dns b hb w
  by_cases h3 : k = 4
  · subst h3; exact rmay_name b hb w
  by_cases h4 : k = 7
  · subst h4; exact rmay_net b hb w
  exact rmay_else h1 h2 h3 h4 b w

end Go.Proofs.YtcbcdfdicefkoaaGreatDoor
