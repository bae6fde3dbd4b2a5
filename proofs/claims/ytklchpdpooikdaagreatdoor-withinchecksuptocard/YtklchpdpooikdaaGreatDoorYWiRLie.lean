/-
  The document's lies, as a call.
-/
import Derived.Deep.RegionHeld3
import Derived.Test.YtklchpdpooikdaaGreatDoorYWiRBitToHoR4
import Derived.Test.YtklchpdpooikdaaGreatDoorYHoR5ToWiRMay
import Derived.Test.YtklchpdpooikdaaGreatDoorYWiRBel
import Derived.Test.YtklchpdpooikdaaGreatDoorYNmRefB
namespace Go.Proofs.YtklchpdpooikdaaGreatDoor
open Go.RowKit Go.Shelf Go.IntWalk

def lieP (k : Int) (b s : List UInt8) (R : Bool) (w : World) : Prop := Calls Tryz.prog 40 #[.agg #[.int .i64 k, .string (tx b)], .string (tx s)] w fun e w' => e = .returned (.bool R) ∧ Below w.heap.size w w'
set_option maxRecDepth 100000 in
theorem rlie_dns (b s : List UInt8) (hb : b.length ≤ 1048576) (hs : s.length ≤ 1048576) (w : World) : lieP 2 b s (belB s b) w := by
  have d1 := hide (fun W => refBelow_any s b hs hb W)
  generalize belB s b = D at *
  unfold lieP
  have BX := nbelowW w (.cells #[.int .i64 2, .string (tx b)] 36)
  have c1 : (w.alloc (.cells #[.int .i64 2, .string (tx b)] 36)).cell? ⟨w.heap.size, 1, none⟩ = some (.string (tx b)) := by simp
  go_enter Tryz.func40, Tryz.ntmps40
  go_wp2_with fail
  refine (d1.out _).mono ?_
  rintro e w1 ⟨rfl, B1⟩
  go_wp2
  go_ret
  exact ⟨rfl, BX.trans (B1.mono BX.size)⟩
set_option maxRecDepth 100000 in
theorem rlie_mail (b s : List UInt8) (hb : b.length ≤ 1048576) (hs : s.length ≤ 1048576) (hm : isMailL b = true) (hc : (cutD 64 s).2.2 = true) (w : World) : lieP 1 b s (hasMailL b s) w := by
  have e1 := hide (fun W => rcut_any s hs W)
  have e2 := hide (fun W => rcut_any b hb W)
  rw [cutR_yes hc] at e1
  have cs := (cutD_rest 64 s).1
  have cb := (cutD_rest 64 b).1
  have hR : Hid (hasMailL b s = if (cutD 64 b).2.2 = true then ((tx (cutD 64 s).1).toList == (tx (cutD 64 b).1).toList) && matchL (cutD 64 b).2.1 (cutD 64 s).2.1 else if Lib.hasPrefix b [46] = true then belB (cutD 64 s).2.1 (trimD b) && !matchL (trimD b) (cutD 64 s).2.1 else matchL b (cutD 64 s).2.1) := rfl
  generalize hasMailL b s = R at *
  cases hf : (cutD 64 b).2.2 with
  | true =>
    rw [cutR_yes hf] at e2
    rw [hf] at e2
    rw [hc] at e1
    have hR2 := hR.out
    rw [if_pos hf] at hR2
    have d1 := hide (fun W => refMatch_any (cutD 64 b).2.1 (cutD 64 s).2.1 (by omega) (by omega) W)
    have hq : ((tx (cutD 64 b).1).toList == (tx (cutD 64 s).1).toList) = ((tx (cutD 64 s).1).toList == (tx (cutD 64 b).1).toList) := BEq.comm
    clear hR hf hc hm cs cb
    generalize matchL (cutD 64 b).2.1 (cutD 64 s).2.1 = D at *
    generalize (cutD 64 b).1 = b1 at *
    generalize (cutD 64 b).2.1 = b2 at *
    generalize (cutD 64 s).1 = s1 at *
    generalize (cutD 64 s).2.1 = s2 at *
    cases hcc : ((tx s1).toList == (tx b1).toList) with
    | true =>
      rw [hcc] at hq hR2
      have HR := hide hR2
      clear hR2 hcc
      unfold lieP
      have BX := nbelowW w (.cells #[.int .i64 1, .string (tx b)] 36)
      have c1 : (w.alloc (.cells #[.int .i64 1, .string (tx b)] 36)).cell? ⟨w.heap.size, 1, none⟩ = some (.string (tx b)) := by simp
      go_enter Tryz.func40, Tryz.ntmps40
      go_wp2_with fail
      refine (e1.out _).mono ?_
      rintro e w1 ⟨rfl, B1⟩
      have k1 := (B1.cell (p := ⟨w.heap.size, 1, none⟩) (lt_of_cell c1)).trans c1
      have HB1 := hide (BX.trans (B1.mono BX.size))
      clear B1 BX c1
      go_wp2_with fail
      refine (e2.out _).mono ?_
      rintro e w2 ⟨rfl, B2⟩
      have HB2 := hide (HB1.out.trans (B2.mono HB1.out.size))
      clear B2 HB1 k1
      go_wp2_with fail
      refine (d1.out _).mono ?_
      rintro e w3 ⟨rfl, B3⟩
      have HB3 := hide (HB2.out.trans (B3.mono HB2.out.size))
      clear B3 HB2
      go_wp2
      go_ret
      exact ⟨by rw [HR.out]; rfl, HB3.out⟩
    | false =>
      rw [hcc] at hq hR2
      have HR := hide hR2
      clear hR2 hcc d1
      unfold lieP
      have BX := nbelowW w (.cells #[.int .i64 1, .string (tx b)] 36)
      have c1 : (w.alloc (.cells #[.int .i64 1, .string (tx b)] 36)).cell? ⟨w.heap.size, 1, none⟩ = some (.string (tx b)) := by simp
      go_enter Tryz.func40, Tryz.ntmps40
      go_wp2_with fail
      refine (e1.out _).mono ?_
      rintro e w1 ⟨rfl, B1⟩
      have k1 := (B1.cell (p := ⟨w.heap.size, 1, none⟩) (lt_of_cell c1)).trans c1
      have HB1 := hide (BX.trans (B1.mono BX.size))
      clear B1 BX c1
      go_wp2_with fail
      refine (e2.out _).mono ?_
      rintro e w2 ⟨rfl, B2⟩
      have HB2 := hide (HB1.out.trans (B2.mono HB1.out.size))
      clear B2 HB1 k1
      go_wp2
      go_ret
      exact ⟨by rw [HR.out]; rfl, HB2.out⟩
  | false =>
    rw [cutR_no hf] at e2
    rw [hc] at e1
    have hR2 := hR.out
    rw [if_neg (by rw [hf]; decide)] at hR2
    have hne : b ≠ [] := fun e => by subst e; exact absurd hm (by decide)
    have hl0 : 0 < b.length := List.length_pos_iff.2 hne
    have hx0 : 0 < (tx b).size := by rw [tx_size]; exact hl0
    have hxI : (0 : Int) < ((tx b).size : Int) := by omega
    by_cases h46 : ∃ r, b = 46 :: r
    · obtain ⟨r, hbr⟩ := h46
      have htr : trimD b = r := by rw [hbr, trimD_dot]
      have hpre : Lib.hasPrefix b [46] = true := by rw [hbr]; unfold Lib.hasPrefix; simp [List.isPrefixOf]
      have hrl : b.length = r.length + 1 := by rw [hbr]; rfl
      rw [if_pos hpre, htr] at hR2
      have hxe : ((((tx b)[0]'hx0).toNat : Int) == 46) = true := by
        have e : ((tx b)[0]'hx0) = b.getD 0 0 := get_tx b 0 hx0
        rw [e, hbr]
        rfl
      have s1 : ∀ X, (Instr.slice 9 (.string (tx b)) (some (.int .i64 1)) none none).run Tryz.prog X = .ok (.string (tx r)) X := fun X => by
        have h := sl_tx b 1 (by omega) X
        rw [show b.drop 1 = r by rw [hbr]; rfl] at h
        exact h
      have hst := bel_strict (a := (cutD 64 s).2.1) (d := r)
      have d1 := hide (fun W => refBelow_any (cutD 64 s).2.1 r (by omega) (by omega) W)
      have d2 := hide (fun W => refBelow_any r (cutD 64 s).2.1 (by omega) (by omega) W)
      clear hR hf hc hm cs cb hne htr hpre hrl hbr
      generalize belB (cutD 64 s).2.1 r = D at *
      generalize belB r (cutD 64 s).2.1 = E at *
      generalize matchL r (cutD 64 s).2.1 = F at *
      generalize (cutD 64 s).1 = s1 at *
      generalize (cutD 64 s).2.1 = s2 at *
      cases D with
      | true =>
        have hEF := hst rfl
        subst hEF
        have HR := hide hR2
        clear hR2 hst
        unfold lieP
        have BX := nbelowW w (.cells #[.int .i64 1, .string (tx b)] 36)
        have c1 : (w.alloc (.cells #[.int .i64 1, .string (tx b)] 36)).cell? ⟨w.heap.size, 1, none⟩ = some (.string (tx b)) := by simp
        go_enter Tryz.func40, Tryz.ntmps40
        go_wp2_with fail
        refine (e1.out _).mono ?_
        rintro e w1 ⟨rfl, B1⟩
        have k1 := (B1.cell (p := ⟨w.heap.size, 1, none⟩) (lt_of_cell c1)).trans c1
        have HB1 := hide (BX.trans (B1.mono BX.size))
        clear B1 BX c1
        go_wp2_with fail
        refine (e2.out _).mono ?_
        rintro e w2 ⟨rfl, B2⟩
        have HB2 := hide (HB1.out.trans (B2.mono HB1.out.size))
        clear B2 HB1 k1
        go_wp2_with fail
        refine (d1.out _).mono ?_
        rintro e w3 ⟨rfl, B3⟩
        have HB3 := hide (HB2.out.trans (B3.mono HB2.out.size))
        clear B3 HB2
        have HB2 := hide HB3.out
        clear HB3
        go_wp2_with fail
        refine (d2.out _).mono ?_
        rintro e w3 ⟨rfl, B3⟩
        have HB3 := hide (HB2.out.trans (B3.mono HB2.out.size))
        clear B3 HB2
        go_wp2
        go_ret
        exact ⟨by rw [HR.out]; rfl, HB3.out⟩
      | false =>
        have HR := hide hR2
        clear hR2 hst d2
        unfold lieP
        have BX := nbelowW w (.cells #[.int .i64 1, .string (tx b)] 36)
        have c1 : (w.alloc (.cells #[.int .i64 1, .string (tx b)] 36)).cell? ⟨w.heap.size, 1, none⟩ = some (.string (tx b)) := by simp
        go_enter Tryz.func40, Tryz.ntmps40
        go_wp2_with fail
        refine (e1.out _).mono ?_
        rintro e w1 ⟨rfl, B1⟩
        have k1 := (B1.cell (p := ⟨w.heap.size, 1, none⟩) (lt_of_cell c1)).trans c1
        have HB1 := hide (BX.trans (B1.mono BX.size))
        clear B1 BX c1
        go_wp2_with fail
        refine (e2.out _).mono ?_
        rintro e w2 ⟨rfl, B2⟩
        have HB2 := hide (HB1.out.trans (B2.mono HB1.out.size))
        clear B2 HB1 k1
        go_wp2_with fail
        refine (d1.out _).mono ?_
        rintro e w3 ⟨rfl, B3⟩
        have HB3 := hide (HB2.out.trans (B3.mono HB2.out.size))
        clear B3 HB2
        go_wp2
        go_ret
        exact ⟨by rw [HR.out]; rfl, HB3.out⟩
    · have hpre : Lib.hasPrefix b [46] = false := by
        cases hp : Lib.hasPrefix b [46] with
        | false => rfl
        | true =>
          obtain ⟨t, ht⟩ := List.isPrefixOf_iff_prefix.1 hp
          exact absurd ⟨t, ht.symm⟩ h46
      rw [if_neg (by rw [hpre]; decide)] at hR2
      have hxe : ((((tx b)[0]'hx0).toNat : Int) == 46) = false := by
        refine beq_eq_false_iff_ne.2 (fun e => h46 ?_)
        have e4 : ((tx b)[0]'hx0) = b.getD 0 0 := get_tx b 0 hx0
        cases b with
        | nil => exact absurd rfl hne
        | cons x r =>
          have e5 : (x :: r).getD 0 0 = x := rfl
          rw [e4, e5] at e
          exact ⟨r, by rw [show x = 46 from UInt8.toNat_inj.1 (by show x.toNat = 46; omega)]⟩
      have d1 := hide (fun W => refMatch_any b (cutD 64 s).2.1 hb (by omega) W)
      have HR := hide hR2
      clear hR hf hc hm cs cb hne hpre h46 hR2
      generalize matchL b (cutD 64 s).2.1 = D at *
      generalize (cutD 64 s).1 = s1 at *
      generalize (cutD 64 s).2.1 = s2 at *
      unfold lieP
      have BX := nbelowW w (.cells #[.int .i64 1, .string (tx b)] 36)
      have c1 : (w.alloc (.cells #[.int .i64 1, .string (tx b)] 36)).cell? ⟨w.heap.size, 1, none⟩ = some (.string (tx b)) := by simp
      go_enter Tryz.func40, Tryz.ntmps40
      go_wp2_with fail
      refine (e1.out _).mono ?_
      rintro e w1 ⟨rfl, B1⟩
      have k1 := (B1.cell (p := ⟨w.heap.size, 1, none⟩) (lt_of_cell c1)).trans c1
      have HB1 := hide (BX.trans (B1.mono BX.size))
      clear B1 BX c1
      go_wp2_with fail
      refine (e2.out _).mono ?_
      rintro e w2 ⟨rfl, B2⟩
      have HB2 := hide (HB1.out.trans (B2.mono HB1.out.size))
      clear B2 HB1 k1
      go_wp2_with fail
      refine (d1.out _).mono ?_
      rintro e w3 ⟨rfl, B3⟩
      have HB3 := hide (HB2.out.trans (B3.mono HB2.out.size))
      clear B3 HB2
      go_wp2
      go_ret
      exact ⟨by rw [HR.out]; rfl, HB3.out⟩

set_option maxRecDepth 100000 in
theorem rlie_name (b s : List UInt8) (hb : b.length ≤ 1048576) (hs : s.length ≤ 1048576) (w : World) : lieP 4 b s (hNM b s) w := by
  obtain ⟨cap, v1, hcv, s1, B1⟩ := conv_any (tx s) (by rw [tx_size]; exact hs) (w.alloc (.cells #[.int .i64 4, .string (tx b)] 36))
  have hz : (w.alloc (.cells #[.int .i64 4, .string (tx b)] 36)).heap.size = w.heap.size + 1 := by simp
  have c1 : (w.alloc (.cells #[.int .i64 4, .string (tx b)] 36)).cell? ⟨w.heap.size, 1, none⟩ = some (.string (tx b)) := by simp
  have k1 := (B1.cell (p := ⟨w.heap.size, 1, none⟩) (lt_of_cell c1)).trans c1
  have HB := hide ((nbelowW w (.cells #[.int .i64 4, .string (tx b)] 36)).trans (B1.mono (nbelowW w (.cells #[.int .i64 4, .string (tx b)] 36)).size))
  rw [hz] at hcv s1
  have d1 := hide (rdecode_any _ _ _ _ v1 s1 (by rw [tx_size]; exact hs))
  rw [tx_list] at d1
  have HC := hide (fun W => conv_any (tx b) (by rw [tx_size]; exact hb) W)
  have HR : Hid (hNM b s = bg ((ansN (nums s)).map key) ((ansN (nums b)).map key)) := rfl
  have HS1 : Hid (∀ x ∈ ansN (nums s), x.2.size ≤ 1048576) := ansN_small
  have HS2 : Hid (∀ x ∈ ansN (nums b), x.2.size ≤ 1048576) := ansN_small
  have HD := hide (fun W ao cap (h : Src W ao (tx b).size cap (nums b)) => rdecode_any ao (tx b).size cap (nums b) W h (by rw [tx_size]; exact hb))
  clear B1 s1 c1 hz
  generalize hNM b s = R at *
  generalize ansE (nums s) = E1 at *
  generalize ansN (nums s) = A1 at *
  generalize ansE (nums b) = E2 at *
  generalize ansN (nums b) = A2 at *
  unfold lieP
  go_enter Tryz.func40, Tryz.ntmps40
  go_wp2_with fail
  refine d1.out.mono ?_
  rintro e v2 ⟨a2, m2, c2, rfl, o2, B2⟩
  have k2 := (B2.cell (p := ⟨w.heap.size, 1, none⟩) (lt_of_cell k1)).trans k1
  have HB2 := hide (HB.out.trans (B2.mono HB.out.size))
  have HO2 := hide o2
  obtain ⟨cap3, v3, hcv3, s3, B3⟩ := HC.out v2
  rw [tx_list] at s3
  have d3 := hide (HD.out v3 _ _ s3)
  have HB3 := hide (HB2.out.trans (B3.mono HB2.out.size))
  have HO3 := hide (HO2.out.below B3)
  clear d1 HB B2 o2 k1 HC HD HO2 HB2 B3 s3 hcv
  go_wp2_with fail
  refine d3.out.mono ?_
  rintro e v4 ⟨a4, m4, c4, rfl, o4, B4⟩
  have d5 := hide (rbegins_any a2 m2 c2 A1 a4 m4 c4 A2 v4 ((HO3.out.below B4).ats HS1.out) (o4.ats HS2.out) HS1.out HS2.out)
  have HB4 := hide (HB3.out.trans (B4.mono HB3.out.size))
  rw [← HR.out] at d5
  clear d3 B4 o4 HO3 HB3 k2 hcv3
  go_wp2_with fail
  refine d5.out.mono ?_
  rintro e v5 ⟨rfl, B5⟩
  go_wp2
  go_ret
  exact ⟨rfl, HB4.out.trans (B5.mono HB4.out.size)⟩
def BAt (B : Nat) (t : ByteArray) (W : World) : Prop := W.cell? ⟨B, 1, none⟩ = some (.string t)
theorem BAt.below {B : Nat} {t : ByteArray} {A C : World} (h : BAt B t A) (hb : Below A.heap.size A C) : BAt B t C := (hb.cell (lt_of_cell h)).trans h
set_option maxRecDepth 100000 in
set_option maxHeartbeats 4000000 in
theorem rlie_net8 (b s : List UInt8) (hb : b.length ≤ 1048576) (hs : s.length ≤ 1048576) (hn : isNetL b = true) (h8 : b.length = 8) (w : World) : lieP 7 b s (hasAddrL b s) w := by
  have hnl : netG (b.take 4) (b.drop 4) 0 (8 * 4) = true := by rw [← net_loop (by omega) (by decide)]; exact hn
  have hMl : (b.drop 4).length = 4 := by rw [List.length_drop]; omega
  have hAl : (b.take 4).length = 4 := by rw [List.length_take]; omega
  have hRn : hasAddrL b s = (decide (s.length = 4) && adG (b.take 4) (b.drop 4) s 0 4) := by
    unfold hasAddrL
    rw [show b.length / 2 = 4 by omega, hMl, hAl]
  rw [← lie_ad hnl] at hRn
  have s1 : ∀ X, (Instr.slice 9 (.string (tx b)) (some (.int .i64 4)) none none).run Tryz.prog X = .ok (.string (tx (b.drop 4))) X := fun X => sl_tx b 4 (by omega) X
  have zi : ((tx b).size : Int) = 8 := by rw [tx_size]; omega
  have hbt : Hid (∀ i, i < 8 * 4 → bitB (b.take 4) i = bitB b i) := fun i hi => bit_take b 4 i hi
  generalize hasAddrL b s = R at *
  generalize hM : b.drop 4 = M at *
  generalize hA : b.take 4 = A at *
  clear hM hA hnl hAl hn
  by_cases hsl : s.length = 4
  · rw [decide_eq_true hsl, Bool.true_and] at hRn
    have HRn := hide hRn
    have zs : ((tx s).size : Int) = 4 := by rw [tx_size]; omega
    clear hRn
    unfold lieP
    have BX := nbelowW w (.cells #[.int .i64 7, .string (tx b)] 36)
    have c1 : (w.alloc (.cells #[.int .i64 7, .string (tx b)] 36)).cell? ⟨w.heap.size, 1, none⟩ = some (.string (tx b)) := by simp
    go_enter Tryz.func40, Tryz.ntmps40
    go_wp2
    go_loopw [16] (fun i wr => ∃ k : Nat, i = .int .i64 k ∧ k ≤ 8 * 4 ∧ Hid (R = lieG A M s k (8 * 4 - k)) ∧ Hid (Below w.heap.size w wr ∧ BAt w.heap.size (tx b) wr)) (fun i _ => 8 * 4 - (intOf i).toNat)
    case atStart => exact ⟨0, rfl, Nat.zero_le _, HRn, BX, c1⟩
    case round =>
      obtain ⟨k, rfl, hk, hE, hQ⟩ := hrel
      by_cases hlt : k < 8 * 4
      · have ltI : (k : Int) < 8 * 4 := by omega
        have hst : lieG A M s k (8 * 4 - k) = (lieB A M s k && lieG A M s (k + 1) (8 * 4 - (k + 1))) := by
          rw [show 8 * 4 - k = (8 * 4 - (k + 1)) + 1 by omega, lieG]
        have hEk := hE.out
        rw [hst, lieB, hbt.out k hlt] at hEk
        have d1 := hide (fun W => rbit_any M k (by rw [hMl]; exact hlt) (by omega) W)
        have d2 := hide (fun W => rbit_any s k (by omega) hs W)
        have d3 := hide (fun W => rbit_any b k (by omega) hb W)
        clear hst hE
        have hpq : (bitN s k != bitN b k) = (bitB s k != bitB b k) := by unfold bitN; cases bitB s k <;> cases bitB b k <;> rfl
        generalize bitN s k = p at *
        generalize bitN b k = q at *
        generalize (bitB s k != bitB b k) = x at *
        cases hmk : bitB M k with
        | false =>
          rw [bitN_off hmk] at d1
          rw [hmk] at hEk
          have hE2 : Hid (R = lieG A M s (k + 1) (8 * 4 - (k + 1))) := by unfold Hid; rw [hEk]; rfl
          clear hEk hmk d2 d3
          go_wp2_with fail
          refine wp_region_held_drew (S := BAt w.heap.size (tx b)) (by kernel_rfl) (hQ.out.2.below (Below.refl _ _).drew) (fun hS => ?_)
          have HX := hide (hQ.out.1.drew)
          clear hQ
          generalize wr.drew = X0 at *
          refine wpAnyH_take (i := 0) (v := ?_) rfl (by kernel_rfl) (by kernel_rfl) (by kernel_rfl) (fun _ _ _ h => h) (Or.inl ⟨by rfl, ?_⟩) (by assumption) ?_
          rotate_left
          · intro wq hSq
            go_simp
            try with_reducible rfl
          simp only [List.getElem_toArray, List.getElem_cons_zero, Act.put, List.setIfInBounds_toArray, List.set_cons_zero, List.set_cons_succ]
          refine wpAnyH_take (i := 1) (v := ?_) rfl (by kernel_rfl) (by kernel_rfl) (by kernel_rfl) (fun _ _ _ h => h) (Or.inl ⟨by rfl, ?_⟩) (by assumption) ?_
          rotate_left
          · intro wq hSq
            have r0 : wq.cell? ⟨w.heap.size, 1, none⟩ = some (.string (tx b)) := hSq
            go_simp
            try with_reducible rfl
          simp only [List.getElem_toArray, List.getElem_cons_succ, List.getElem_cons_zero, Act.put, List.setIfInBounds_toArray, List.set_cons_zero, List.set_cons_succ]
          refine wpAnyH_take (i := 2) (v := ?_) rfl (by kernel_rfl) (by kernel_rfl) (by kernel_rfl) (fun _ _ _ h => h) (Or.inl ⟨by rfl, ?_⟩) (by assumption) ?_
          rotate_left
          · intro wq hSq
            have r0 : wq.cell? ⟨w.heap.size, 1, none⟩ = some (.string (tx b)) := hSq
            go_simp
            try with_reducible rfl
          simp only [List.getElem_toArray, List.getElem_cons_succ, List.getElem_cons_zero, Act.put, List.setIfInBounds_toArray, List.set_cons_zero, List.set_cons_succ]
          refine wpAnyH_take (i := 3) (v := ?_) rfl (by kernel_rfl) (by kernel_rfl) (by kernel_rfl) (fun _ _ _ h => h) (Or.inl ⟨by rfl, ?_⟩) (by assumption) ?_
          rotate_left
          · intro wq hSq
            have r0 : wq.cell? ⟨w.heap.size, 1, none⟩ = some (.string (tx b)) := hSq
            go_simp
            try with_reducible rfl
          simp only [List.getElem_toArray, List.getElem_cons_succ, List.getElem_cons_zero, Act.put, List.setIfInBounds_toArray, List.set_cons_zero, List.set_cons_succ]
          refine wpAnyH_take (i := 4) (v := ?_) rfl (by kernel_rfl) (by kernel_rfl) (by kernel_rfl) (fun _ _ _ h => h) (Or.inl ⟨by rfl, ?_⟩) (by assumption) ?_
          rotate_left
          · intro wq hSq
            have r0 : wq.cell? ⟨w.heap.size, 1, none⟩ = some (.string (tx b)) := hSq
            go_simp
            try with_reducible rfl
          simp only [List.getElem_toArray, List.getElem_cons_succ, List.getElem_cons_zero, Act.put, List.setIfInBounds_toArray, List.set_cons_zero, List.set_cons_succ]
          refine wpAnyH_ready (rs := [5]) (by kernel_rfl) (by simp) ?_
          refine AllReadyH.cons rfl (fun Kq hKq => ?_) AllReadyH.nil
          go_simp
          refine (d1.out _).mono ?_
          rintro e wv ⟨rfl, hwv⟩
          subst hwv
          refine hKq.out _ _ hS (fun _ => ?_)
          clear hKq Kq
          refine wpAnyH_take (i := 6) (v := ?_) rfl (by kernel_rfl) (by kernel_rfl) (by kernel_rfl) (fun _ _ _ h => h) (Or.inl ⟨by rfl, ?_⟩) (by assumption) ?_
          rotate_left
          · intro wq hSq
            have r0 : wq.cell? ⟨w.heap.size, 1, none⟩ = some (.string (tx b)) := hSq
            go_simp
            try with_reducible rfl
          simp only [List.getElem_toArray, List.getElem_cons_succ, List.getElem_cons_zero, Act.put, List.setIfInBounds_toArray, List.set_cons_zero, List.set_cons_succ]
          refine wpAnyH_take (i := 7) (v := ?_) rfl (by kernel_rfl) (by kernel_rfl) (by kernel_rfl) (fun _ _ _ h => h) (Or.inl ⟨by rfl, ?_⟩) (by assumption) ?_
          rotate_left
          · intro wq hSq
            have r0 : wq.cell? ⟨w.heap.size, 1, none⟩ = some (.string (tx b)) := hSq
            go_simp
            try with_reducible rfl
          simp only [List.getElem_toArray, List.getElem_cons_succ, List.getElem_cons_zero, Act.put, List.setIfInBounds_toArray, List.set_cons_zero, List.set_cons_succ]
          refine wpAnyH_take (i := 8) (v := undef) rfl (by kernel_rfl) (by kernel_rfl) (by kernel_rfl) (fun _ _ _ h => h) (Or.inr ⟨by rfl, rfl⟩) (by assumption) ?_
          simp only [List.getElem_toArray, List.getElem_cons_succ, List.getElem_cons_zero, Act.put, List.setIfInBounds_toArray, List.set_cons_zero, List.set_cons_succ]
          refine wpAnyH_take (i := 9) (v := undef) rfl (by kernel_rfl) (by kernel_rfl) (by kernel_rfl) (fun _ _ _ h => h) (Or.inr ⟨by rfl, rfl⟩) (by assumption) ?_
          simp only [List.getElem_toArray, List.getElem_cons_succ, List.getElem_cons_zero, Act.put, List.setIfInBounds_toArray, List.set_cons_zero, List.set_cons_succ]
          refine wpAnyH_take (i := 10) (v := undef) rfl (by kernel_rfl) (by kernel_rfl) (by kernel_rfl) (fun _ _ _ h => h) (Or.inr ⟨by rfl, rfl⟩) (by assumption) ?_
          simp only [List.getElem_toArray, List.getElem_cons_succ, List.getElem_cons_zero, Act.put, List.setIfInBounds_toArray, List.set_cons_zero, List.set_cons_succ]
          refine wpAnyH_take (i := 11) (v := undef) rfl (by kernel_rfl) (by kernel_rfl) (by kernel_rfl) (fun _ _ _ h => h) (Or.inr ⟨by rfl, rfl⟩) (by assumption) ?_
          simp only [List.getElem_toArray, List.getElem_cons_succ, List.getElem_cons_zero, Act.put, List.setIfInBounds_toArray, List.set_cons_zero, List.set_cons_succ]
          refine wpAnyH_take (i := 12) (v := undef) rfl (by kernel_rfl) (by kernel_rfl) (by kernel_rfl) (fun _ _ _ h => h) (Or.inr ⟨by rfl, rfl⟩) (by assumption) ?_
          simp only [List.getElem_toArray, List.getElem_cons_succ, List.getElem_cons_zero, Act.put, List.setIfInBounds_toArray, List.set_cons_zero, List.set_cons_succ]
          refine wpAnyH_take (i := 13) (v := undef) rfl (by kernel_rfl) (by kernel_rfl) (by kernel_rfl) (fun _ _ _ h => h) (Or.inr ⟨by rfl, rfl⟩) (by assumption) ?_
          simp only [List.getElem_toArray, List.getElem_cons_succ, List.getElem_cons_zero, Act.put, List.setIfInBounds_toArray, List.set_cons_zero, List.set_cons_succ]
          refine wpAnyH_take (i := 14) (v := undef) rfl (by kernel_rfl) (by kernel_rfl) (by kernel_rfl) (fun _ _ _ h => h) (Or.inr ⟨by rfl, rfl⟩) (by assumption) ?_
          simp only [List.getElem_toArray, List.getElem_cons_succ, List.getElem_cons_zero, Act.put, List.setIfInBounds_toArray, List.set_cons_zero, List.set_cons_succ]
          refine wpAnyH_take (i := 15) (v := undef) rfl (by kernel_rfl) (by kernel_rfl) (by kernel_rfl) (fun _ _ _ h => h) (Or.inr ⟨by rfl, rfl⟩) (by assumption) ?_
          simp only [List.getElem_toArray, List.getElem_cons_succ, List.getElem_cons_zero, Act.put, List.setIfInBounds_toArray, List.set_cons_zero, List.set_cons_succ]
          refine wpAnyH_take (i := 16) (v := ?_) rfl (by kernel_rfl) (by kernel_rfl) (by kernel_rfl) (fun _ _ _ h => h) (Or.inl ⟨by rfl, ?_⟩) (by assumption) ?_
          rotate_left
          · intro wq hSq
            have r0 : wq.cell? ⟨w.heap.size, 1, none⟩ = some (.string (tx b)) := hSq
            go_simp
            try with_reducible rfl
          simp only [List.getElem_toArray, List.getElem_cons_succ, List.getElem_cons_zero, Act.put, List.setIfInBounds_toArray, List.set_cons_zero, List.set_cons_succ]
          refine wpAnyH_done (by kernel_rfl) ?_ _
          have HQ2 := hide (And.intro HX.out hS)
          clear hS HX
          go_wp2
          go_roundw
          case rel => exact ⟨k + 1, by go_num, by omega, hE2, HQ2⟩
          case measure => simp [intOf]; omega
        | true =>
          rw [bitN_on hmk] at d1
          rw [hmk] at hEk
          have HEk := hide hEk
          clear hmk hEk
          go_wp2_with fail
          refine wp_region_held_drew (S := BAt w.heap.size (tx b)) (by kernel_rfl) (hQ.out.2.below (Below.refl _ _).drew) (fun hS => ?_)
          have HX := hide (hQ.out.1.drew)
          clear hQ
          generalize wr.drew = X0 at *
          refine wpAnyH_take (i := 0) (v := ?_) rfl (by kernel_rfl) (by kernel_rfl) (by kernel_rfl) (fun _ _ _ h => h) (Or.inl ⟨by rfl, ?_⟩) (by assumption) ?_
          rotate_left
          · intro wq hSq
            go_simp
            try with_reducible rfl
          simp only [List.getElem_toArray, List.getElem_cons_zero, Act.put, List.setIfInBounds_toArray, List.set_cons_zero, List.set_cons_succ]
          refine wpAnyH_take (i := 1) (v := ?_) rfl (by kernel_rfl) (by kernel_rfl) (by kernel_rfl) (fun _ _ _ h => h) (Or.inl ⟨by rfl, ?_⟩) (by assumption) ?_
          rotate_left
          · intro wq hSq
            have r0 : wq.cell? ⟨w.heap.size, 1, none⟩ = some (.string (tx b)) := hSq
            go_simp
            try with_reducible rfl
          simp only [List.getElem_toArray, List.getElem_cons_succ, List.getElem_cons_zero, Act.put, List.setIfInBounds_toArray, List.set_cons_zero, List.set_cons_succ]
          refine wpAnyH_take (i := 2) (v := ?_) rfl (by kernel_rfl) (by kernel_rfl) (by kernel_rfl) (fun _ _ _ h => h) (Or.inl ⟨by rfl, ?_⟩) (by assumption) ?_
          rotate_left
          · intro wq hSq
            have r0 : wq.cell? ⟨w.heap.size, 1, none⟩ = some (.string (tx b)) := hSq
            go_simp
            try with_reducible rfl
          simp only [List.getElem_toArray, List.getElem_cons_succ, List.getElem_cons_zero, Act.put, List.setIfInBounds_toArray, List.set_cons_zero, List.set_cons_succ]
          refine wpAnyH_take (i := 3) (v := ?_) rfl (by kernel_rfl) (by kernel_rfl) (by kernel_rfl) (fun _ _ _ h => h) (Or.inl ⟨by rfl, ?_⟩) (by assumption) ?_
          rotate_left
          · intro wq hSq
            have r0 : wq.cell? ⟨w.heap.size, 1, none⟩ = some (.string (tx b)) := hSq
            go_simp
            try with_reducible rfl
          simp only [List.getElem_toArray, List.getElem_cons_succ, List.getElem_cons_zero, Act.put, List.setIfInBounds_toArray, List.set_cons_zero, List.set_cons_succ]
          refine wpAnyH_take (i := 4) (v := ?_) rfl (by kernel_rfl) (by kernel_rfl) (by kernel_rfl) (fun _ _ _ h => h) (Or.inl ⟨by rfl, ?_⟩) (by assumption) ?_
          rotate_left
          · intro wq hSq
            have r0 : wq.cell? ⟨w.heap.size, 1, none⟩ = some (.string (tx b)) := hSq
            go_simp
            try with_reducible rfl
          simp only [List.getElem_toArray, List.getElem_cons_succ, List.getElem_cons_zero, Act.put, List.setIfInBounds_toArray, List.set_cons_zero, List.set_cons_succ]
          refine wpAnyH_ready (rs := [5]) (by kernel_rfl) (by simp) ?_
          refine AllReadyH.cons rfl (fun Kq hKq => ?_) AllReadyH.nil
          go_simp
          refine (d1.out _).mono ?_
          rintro e wv ⟨rfl, hwv⟩
          subst hwv
          refine hKq.out _ _ hS (fun _ => ?_)
          clear hKq Kq
          refine wpAnyH_take (i := 6) (v := ?_) rfl (by kernel_rfl) (by kernel_rfl) (by kernel_rfl) (fun _ _ _ h => h) (Or.inl ⟨by rfl, ?_⟩) (by assumption) ?_
          rotate_left
          · intro wq hSq
            have r0 : wq.cell? ⟨w.heap.size, 1, none⟩ = some (.string (tx b)) := hSq
            go_simp
            try with_reducible rfl
          simp only [List.getElem_toArray, List.getElem_cons_succ, List.getElem_cons_zero, Act.put, List.setIfInBounds_toArray, List.set_cons_zero, List.set_cons_succ]
          refine wpAnyH_take (i := 7) (v := ?_) rfl (by kernel_rfl) (by kernel_rfl) (by kernel_rfl) (fun _ _ _ h => h) (Or.inl ⟨by rfl, ?_⟩) (by assumption) ?_
          rotate_left
          · intro wq hSq
            have r0 : wq.cell? ⟨w.heap.size, 1, none⟩ = some (.string (tx b)) := hSq
            go_simp
            try with_reducible rfl
          simp only [List.getElem_toArray, List.getElem_cons_succ, List.getElem_cons_zero, Act.put, List.setIfInBounds_toArray, List.set_cons_zero, List.set_cons_succ]
          refine wpAnyH_take (i := 8) (v := ?_) rfl (by kernel_rfl) (by kernel_rfl) (by kernel_rfl) (fun _ _ _ h => h) (Or.inl ⟨by rfl, ?_⟩) (by assumption) ?_
          rotate_left
          · intro wq hSq
            have r0 : wq.cell? ⟨w.heap.size, 1, none⟩ = some (.string (tx b)) := hSq
            go_simp
            try with_reducible rfl
          simp only [List.getElem_toArray, List.getElem_cons_succ, List.getElem_cons_zero, Act.put, List.setIfInBounds_toArray, List.set_cons_zero, List.set_cons_succ]
          refine wpAnyH_take (i := 9) (v := ?_) rfl (by kernel_rfl) (by kernel_rfl) (by kernel_rfl) (fun _ _ _ h => h) (Or.inl ⟨by rfl, ?_⟩) (by assumption) ?_
          rotate_left
          · intro wq hSq
            have r0 : wq.cell? ⟨w.heap.size, 1, none⟩ = some (.string (tx b)) := hSq
            go_simp
            try with_reducible rfl
          simp only [List.getElem_toArray, List.getElem_cons_succ, List.getElem_cons_zero, Act.put, List.setIfInBounds_toArray, List.set_cons_zero, List.set_cons_succ]
          refine wpAnyH_take (i := 11) (v := ?_) rfl (by kernel_rfl) (by kernel_rfl) (by kernel_rfl) (fun _ _ _ h => h) (Or.inl ⟨by rfl, ?_⟩) (by assumption) ?_
          rotate_left
          · intro wq hSq
            have r0 : wq.cell? ⟨w.heap.size, 1, none⟩ = some (.string (tx b)) := hSq
            go_simp
            try with_reducible rfl
          simp only [List.getElem_toArray, List.getElem_cons_succ, List.getElem_cons_zero, Act.put, List.setIfInBounds_toArray, List.set_cons_zero, List.set_cons_succ]
          refine wpAnyH_take (i := 12) (v := ?_) rfl (by kernel_rfl) (by kernel_rfl) (by kernel_rfl) (fun _ _ _ h => h) (Or.inl ⟨by rfl, ?_⟩) (by assumption) ?_
          rotate_left
          · intro wq hSq
            have r0 : wq.cell? ⟨w.heap.size, 1, none⟩ = some (.string (tx b)) := hSq
            go_simp
            try with_reducible rfl
          simp only [List.getElem_toArray, List.getElem_cons_succ, List.getElem_cons_zero, Act.put, List.setIfInBounds_toArray, List.set_cons_zero, List.set_cons_succ]
          refine wpAnyH_take (i := 13) (v := ?_) rfl (by kernel_rfl) (by kernel_rfl) (by kernel_rfl) (fun _ _ _ h => h) (Or.inl ⟨by rfl, ?_⟩) (by assumption) ?_
          rotate_left
          · intro wq hSq
            have r0 : wq.cell? ⟨w.heap.size, 1, none⟩ = some (.string (tx b)) := hSq
            go_simp
            try with_reducible rfl
          simp only [List.getElem_toArray, List.getElem_cons_succ, List.getElem_cons_zero, Act.put, List.setIfInBounds_toArray, List.set_cons_zero, List.set_cons_succ]
          refine wpAnyH_ready (rs := [10]) (by kernel_rfl) (by simp) ?_
          refine AllReadyH.cons rfl (fun Kq hKq => ?_) AllReadyH.nil
          go_simp
          refine (d2.out _).mono ?_
          rintro e wv ⟨rfl, hwv⟩
          subst hwv
          refine hKq.out _ _ hS (fun _ => ?_)
          clear hKq Kq
          refine wpAnyH_ready (rs := [14]) (by kernel_rfl) (by simp) ?_
          refine AllReadyH.cons rfl (fun Kq hKq => ?_) AllReadyH.nil
          go_simp
          refine (d3.out _).mono ?_
          rintro e wv ⟨rfl, hwv⟩
          subst hwv
          refine hKq.out _ _ hS (fun _ => ?_)
          clear hKq Kq
          refine wpAnyH_take (i := 15) (v := ?_) rfl (by kernel_rfl) (by kernel_rfl) (by kernel_rfl) (fun _ _ _ h => h) (Or.inl ⟨by rfl, ?_⟩) (by assumption) ?_
          rotate_left
          · intro wq hSq
            have r0 : wq.cell? ⟨w.heap.size, 1, none⟩ = some (.string (tx b)) := hSq
            go_simp
            try with_reducible rfl
          simp only [List.getElem_toArray, List.getElem_cons_succ, List.getElem_cons_zero, Act.put, List.setIfInBounds_toArray, List.set_cons_zero, List.set_cons_succ]
          refine wpAnyH_take (i := 16) (v := ?_) rfl (by kernel_rfl) (by kernel_rfl) (by kernel_rfl) (fun _ _ _ h => h) (Or.inl ⟨by rfl, ?_⟩) (by assumption) ?_
          rotate_left
          · intro wq hSq
            have r0 : wq.cell? ⟨w.heap.size, 1, none⟩ = some (.string (tx b)) := hSq
            go_simp
            try with_reducible rfl
          simp only [List.getElem_toArray, List.getElem_cons_succ, List.getElem_cons_zero, Act.put, List.setIfInBounds_toArray, List.set_cons_zero, List.set_cons_succ]
          refine wpAnyH_done (by kernel_rfl) ?_ _
          cases x with
          | true =>
            have hE2 : Hid (R = false) := by unfold Hid; rw [HEk.out]; rfl
            clear HEk
            go_wp2
            go_ret
            exact ⟨by rw [hE2.out]; rfl, HX.out⟩
          | false =>
            have hE2 : Hid (R = lieG A M s (k + 1) (8 * 4 - (k + 1))) := by unfold Hid; rw [HEk.out]; rfl
            clear HEk
            have HQ2 := hide (And.intro HX.out hS)
            clear hS HX
            go_wp2
            go_roundw
            case rel => exact ⟨k + 1, by go_num, by omega, hE2, HQ2⟩
            case measure => simp [intOf]; omega
      · have ltI : ¬ (k : Int) < 8 * 4 := by omega
        have hE2 : Hid (R = true) := by unfold Hid; rw [hE.out, show 8 * 4 - k = 0 by omega, lieG]
        clear hE
        go_wp2
        go_ret
        exact ⟨by rw [hE2.out]; rfl, hQ.out.1⟩
  · rw [decide_eq_false hsl] at hRn
    have hE2 : Hid (R = false) := hRn
    have zs : ¬ ((tx s).size : Int) = 4 := by rw [tx_size]; omega
    have zs2 : (((tx s).size : Int) != 4) = true := by simpa using zs
    clear hRn
    unfold lieP
    have BX := nbelowW w (.cells #[.int .i64 7, .string (tx b)] 36)
    have c1 : (w.alloc (.cells #[.int .i64 7, .string (tx b)] 36)).cell? ⟨w.heap.size, 1, none⟩ = some (.string (tx b)) := by simp
    go_enter Tryz.func40, Tryz.ntmps40
    go_wp2
    go_ret
    exact ⟨by rw [hE2.out]; rfl, BX⟩
set_option maxRecDepth 100000 in
set_option maxHeartbeats 4000000 in
theorem rlie_net32 (b s : List UInt8) (hb : b.length ≤ 1048576) (hs : s.length ≤ 1048576) (hn : isNetL b = true) (h32 : b.length = 32) (w : World) : lieP 7 b s (hasAddrL b s) w := by
  have hnl : netG (b.take 16) (b.drop 16) 0 (8 * 16) = true := by rw [← net_loop (by omega) (by decide)]; exact hn
  have hMl : (b.drop 16).length = 16 := by rw [List.length_drop]; omega
  have hAl : (b.take 16).length = 16 := by rw [List.length_take]; omega
  have hRn : hasAddrL b s = (decide (s.length = 16) && adG (b.take 16) (b.drop 16) s 0 16) := by
    unfold hasAddrL
    rw [show b.length / 2 = 16 by omega, hMl, hAl]
  rw [← lie_ad hnl] at hRn
  have s1 : ∀ X, (Instr.slice 9 (.string (tx b)) (some (.int .i64 16)) none none).run Tryz.prog X = .ok (.string (tx (b.drop 16))) X := fun X => sl_tx b 16 (by omega) X
  have zi : ((tx b).size : Int) = 32 := by rw [tx_size]; omega
  have hbt : Hid (∀ i, i < 8 * 16 → bitB (b.take 16) i = bitB b i) := fun i hi => bit_take b 16 i hi
  generalize hasAddrL b s = R at *
  generalize hM : b.drop 16 = M at *
  generalize hA : b.take 16 = A at *
  clear hM hA hnl hAl hn
  by_cases hsl : s.length = 16
  · rw [decide_eq_true hsl, Bool.true_and] at hRn
    have HRn := hide hRn
    have zs : ((tx s).size : Int) = 16 := by rw [tx_size]; omega
    clear hRn
    unfold lieP
    have BX := nbelowW w (.cells #[.int .i64 7, .string (tx b)] 36)
    have c1 : (w.alloc (.cells #[.int .i64 7, .string (tx b)] 36)).cell? ⟨w.heap.size, 1, none⟩ = some (.string (tx b)) := by simp
    go_enter Tryz.func40, Tryz.ntmps40
    go_wp2
    go_loopw [16] (fun i wr => ∃ k : Nat, i = .int .i64 k ∧ k ≤ 8 * 16 ∧ Hid (R = lieG A M s k (8 * 16 - k)) ∧ Hid (Below w.heap.size w wr ∧ BAt w.heap.size (tx b) wr)) (fun i _ => 8 * 16 - (intOf i).toNat)
    case atStart => exact ⟨0, rfl, Nat.zero_le _, HRn, BX, c1⟩
    case round =>
      obtain ⟨k, rfl, hk, hE, hQ⟩ := hrel
      by_cases hlt : k < 8 * 16
      · have ltI : (k : Int) < 8 * 16 := by omega
        have hst : lieG A M s k (8 * 16 - k) = (lieB A M s k && lieG A M s (k + 1) (8 * 16 - (k + 1))) := by
          rw [show 8 * 16 - k = (8 * 16 - (k + 1)) + 1 by omega, lieG]
        have hEk := hE.out
        rw [hst, lieB, hbt.out k hlt] at hEk
        have d1 := hide (fun W => rbit_any M k (by rw [hMl]; exact hlt) (by omega) W)
        have d2 := hide (fun W => rbit_any s k (by omega) hs W)
        have d3 := hide (fun W => rbit_any b k (by omega) hb W)
        clear hst hE
        have hpq : (bitN s k != bitN b k) = (bitB s k != bitB b k) := by unfold bitN; cases bitB s k <;> cases bitB b k <;> rfl
        generalize bitN s k = p at *
        generalize bitN b k = q at *
        generalize (bitB s k != bitB b k) = x at *
        cases hmk : bitB M k with
        | false =>
          rw [bitN_off hmk] at d1
          rw [hmk] at hEk
          have hE2 : Hid (R = lieG A M s (k + 1) (8 * 16 - (k + 1))) := by unfold Hid; rw [hEk]; rfl
          clear hEk hmk d2 d3
          go_wp2_with fail
          refine wp_region_held_drew (S := BAt w.heap.size (tx b)) (by kernel_rfl) (hQ.out.2.below (Below.refl _ _).drew) (fun hS => ?_)
          have HX := hide (hQ.out.1.drew)
          clear hQ
          generalize wr.drew = X0 at *
          refine wpAnyH_take (i := 0) (v := ?_) rfl (by kernel_rfl) (by kernel_rfl) (by kernel_rfl) (fun _ _ _ h => h) (Or.inl ⟨by rfl, ?_⟩) (by assumption) ?_
          rotate_left
          · intro wq hSq
            go_simp
            try with_reducible rfl
          simp only [List.getElem_toArray, List.getElem_cons_zero, Act.put, List.setIfInBounds_toArray, List.set_cons_zero, List.set_cons_succ]
          refine wpAnyH_take (i := 1) (v := ?_) rfl (by kernel_rfl) (by kernel_rfl) (by kernel_rfl) (fun _ _ _ h => h) (Or.inl ⟨by rfl, ?_⟩) (by assumption) ?_
          rotate_left
          · intro wq hSq
            have r0 : wq.cell? ⟨w.heap.size, 1, none⟩ = some (.string (tx b)) := hSq
            go_simp
            try with_reducible rfl
          simp only [List.getElem_toArray, List.getElem_cons_succ, List.getElem_cons_zero, Act.put, List.setIfInBounds_toArray, List.set_cons_zero, List.set_cons_succ]
          refine wpAnyH_take (i := 2) (v := ?_) rfl (by kernel_rfl) (by kernel_rfl) (by kernel_rfl) (fun _ _ _ h => h) (Or.inl ⟨by rfl, ?_⟩) (by assumption) ?_
          rotate_left
          · intro wq hSq
            have r0 : wq.cell? ⟨w.heap.size, 1, none⟩ = some (.string (tx b)) := hSq
            go_simp
            try with_reducible rfl
          simp only [List.getElem_toArray, List.getElem_cons_succ, List.getElem_cons_zero, Act.put, List.setIfInBounds_toArray, List.set_cons_zero, List.set_cons_succ]
          refine wpAnyH_take (i := 3) (v := ?_) rfl (by kernel_rfl) (by kernel_rfl) (by kernel_rfl) (fun _ _ _ h => h) (Or.inl ⟨by rfl, ?_⟩) (by assumption) ?_
          rotate_left
          · intro wq hSq
            have r0 : wq.cell? ⟨w.heap.size, 1, none⟩ = some (.string (tx b)) := hSq
            go_simp
            try with_reducible rfl
          simp only [List.getElem_toArray, List.getElem_cons_succ, List.getElem_cons_zero, Act.put, List.setIfInBounds_toArray, List.set_cons_zero, List.set_cons_succ]
          refine wpAnyH_take (i := 4) (v := ?_) rfl (by kernel_rfl) (by kernel_rfl) (by kernel_rfl) (fun _ _ _ h => h) (Or.inl ⟨by rfl, ?_⟩) (by assumption) ?_
          rotate_left
          · intro wq hSq
            have r0 : wq.cell? ⟨w.heap.size, 1, none⟩ = some (.string (tx b)) := hSq
            go_simp
            try with_reducible rfl
          simp only [List.getElem_toArray, List.getElem_cons_succ, List.getElem_cons_zero, Act.put, List.setIfInBounds_toArray, List.set_cons_zero, List.set_cons_succ]
          refine wpAnyH_ready (rs := [5]) (by kernel_rfl) (by simp) ?_
          refine AllReadyH.cons rfl (fun Kq hKq => ?_) AllReadyH.nil
          go_simp
          refine (d1.out _).mono ?_
          rintro e wv ⟨rfl, hwv⟩
          subst hwv
          refine hKq.out _ _ hS (fun _ => ?_)
          clear hKq Kq
          refine wpAnyH_take (i := 6) (v := ?_) rfl (by kernel_rfl) (by kernel_rfl) (by kernel_rfl) (fun _ _ _ h => h) (Or.inl ⟨by rfl, ?_⟩) (by assumption) ?_
          rotate_left
          · intro wq hSq
            have r0 : wq.cell? ⟨w.heap.size, 1, none⟩ = some (.string (tx b)) := hSq
            go_simp
            try with_reducible rfl
          simp only [List.getElem_toArray, List.getElem_cons_succ, List.getElem_cons_zero, Act.put, List.setIfInBounds_toArray, List.set_cons_zero, List.set_cons_succ]
          refine wpAnyH_take (i := 7) (v := ?_) rfl (by kernel_rfl) (by kernel_rfl) (by kernel_rfl) (fun _ _ _ h => h) (Or.inl ⟨by rfl, ?_⟩) (by assumption) ?_
          rotate_left
          · intro wq hSq
            have r0 : wq.cell? ⟨w.heap.size, 1, none⟩ = some (.string (tx b)) := hSq
            go_simp
            try with_reducible rfl
          simp only [List.getElem_toArray, List.getElem_cons_succ, List.getElem_cons_zero, Act.put, List.setIfInBounds_toArray, List.set_cons_zero, List.set_cons_succ]
          refine wpAnyH_take (i := 8) (v := undef) rfl (by kernel_rfl) (by kernel_rfl) (by kernel_rfl) (fun _ _ _ h => h) (Or.inr ⟨by rfl, rfl⟩) (by assumption) ?_
          simp only [List.getElem_toArray, List.getElem_cons_succ, List.getElem_cons_zero, Act.put, List.setIfInBounds_toArray, List.set_cons_zero, List.set_cons_succ]
          refine wpAnyH_take (i := 9) (v := undef) rfl (by kernel_rfl) (by kernel_rfl) (by kernel_rfl) (fun _ _ _ h => h) (Or.inr ⟨by rfl, rfl⟩) (by assumption) ?_
          simp only [List.getElem_toArray, List.getElem_cons_succ, List.getElem_cons_zero, Act.put, List.setIfInBounds_toArray, List.set_cons_zero, List.set_cons_succ]
          refine wpAnyH_take (i := 10) (v := undef) rfl (by kernel_rfl) (by kernel_rfl) (by kernel_rfl) (fun _ _ _ h => h) (Or.inr ⟨by rfl, rfl⟩) (by assumption) ?_
          simp only [List.getElem_toArray, List.getElem_cons_succ, List.getElem_cons_zero, Act.put, List.setIfInBounds_toArray, List.set_cons_zero, List.set_cons_succ]
          refine wpAnyH_take (i := 11) (v := undef) rfl (by kernel_rfl) (by kernel_rfl) (by kernel_rfl) (fun _ _ _ h => h) (Or.inr ⟨by rfl, rfl⟩) (by assumption) ?_
          simp only [List.getElem_toArray, List.getElem_cons_succ, List.getElem_cons_zero, Act.put, List.setIfInBounds_toArray, List.set_cons_zero, List.set_cons_succ]
          refine wpAnyH_take (i := 12) (v := undef) rfl (by kernel_rfl) (by kernel_rfl) (by kernel_rfl) (fun _ _ _ h => h) (Or.inr ⟨by rfl, rfl⟩) (by assumption) ?_
          simp only [List.getElem_toArray, List.getElem_cons_succ, List.getElem_cons_zero, Act.put, List.setIfInBounds_toArray, List.set_cons_zero, List.set_cons_succ]
          refine wpAnyH_take (i := 13) (v := undef) rfl (by kernel_rfl) (by kernel_rfl) (by kernel_rfl) (fun _ _ _ h => h) (Or.inr ⟨by rfl, rfl⟩) (by assumption) ?_
          simp only [List.getElem_toArray, List.getElem_cons_succ, List.getElem_cons_zero, Act.put, List.setIfInBounds_toArray, List.set_cons_zero, List.set_cons_succ]
          refine wpAnyH_take (i := 14) (v := undef) rfl (by kernel_rfl) (by kernel_rfl) (by kernel_rfl) (fun _ _ _ h => h) (Or.inr ⟨by rfl, rfl⟩) (by assumption) ?_
          simp only [List.getElem_toArray, List.getElem_cons_succ, List.getElem_cons_zero, Act.put, List.setIfInBounds_toArray, List.set_cons_zero, List.set_cons_succ]
          refine wpAnyH_take (i := 15) (v := undef) rfl (by kernel_rfl) (by kernel_rfl) (by kernel_rfl) (fun _ _ _ h => h) (Or.inr ⟨by rfl, rfl⟩) (by assumption) ?_
          simp only [List.getElem_toArray, List.getElem_cons_succ, List.getElem_cons_zero, Act.put, List.setIfInBounds_toArray, List.set_cons_zero, List.set_cons_succ]
          refine wpAnyH_take (i := 16) (v := ?_) rfl (by kernel_rfl) (by kernel_rfl) (by kernel_rfl) (fun _ _ _ h => h) (Or.inl ⟨by rfl, ?_⟩) (by assumption) ?_
          rotate_left
          · intro wq hSq
            have r0 : wq.cell? ⟨w.heap.size, 1, none⟩ = some (.string (tx b)) := hSq
            go_simp
            try with_reducible rfl
          simp only [List.getElem_toArray, List.getElem_cons_succ, List.getElem_cons_zero, Act.put, List.setIfInBounds_toArray, List.set_cons_zero, List.set_cons_succ]
          refine wpAnyH_done (by kernel_rfl) ?_ _
          have HQ2 := hide (And.intro HX.out hS)
          clear hS HX
          go_wp2
          go_roundw
          case rel => exact ⟨k + 1, by go_num, by omega, hE2, HQ2⟩
          case measure => simp [intOf]; omega
        | true =>
          rw [bitN_on hmk] at d1
          rw [hmk] at hEk
          have HEk := hide hEk
          clear hmk hEk
          go_wp2_with fail
          refine wp_region_held_drew (S := BAt w.heap.size (tx b)) (by kernel_rfl) (hQ.out.2.below (Below.refl _ _).drew) (fun hS => ?_)
          have HX := hide (hQ.out.1.drew)
          clear hQ
          generalize wr.drew = X0 at *
          refine wpAnyH_take (i := 0) (v := ?_) rfl (by kernel_rfl) (by kernel_rfl) (by kernel_rfl) (fun _ _ _ h => h) (Or.inl ⟨by rfl, ?_⟩) (by assumption) ?_
          rotate_left
          · intro wq hSq
            go_simp
            try with_reducible rfl
          simp only [List.getElem_toArray, List.getElem_cons_zero, Act.put, List.setIfInBounds_toArray, List.set_cons_zero, List.set_cons_succ]
          refine wpAnyH_take (i := 1) (v := ?_) rfl (by kernel_rfl) (by kernel_rfl) (by kernel_rfl) (fun _ _ _ h => h) (Or.inl ⟨by rfl, ?_⟩) (by assumption) ?_
          rotate_left
          · intro wq hSq
            have r0 : wq.cell? ⟨w.heap.size, 1, none⟩ = some (.string (tx b)) := hSq
            go_simp
            try with_reducible rfl
          simp only [List.getElem_toArray, List.getElem_cons_succ, List.getElem_cons_zero, Act.put, List.setIfInBounds_toArray, List.set_cons_zero, List.set_cons_succ]
          refine wpAnyH_take (i := 2) (v := ?_) rfl (by kernel_rfl) (by kernel_rfl) (by kernel_rfl) (fun _ _ _ h => h) (Or.inl ⟨by rfl, ?_⟩) (by assumption) ?_
          rotate_left
          · intro wq hSq
            have r0 : wq.cell? ⟨w.heap.size, 1, none⟩ = some (.string (tx b)) := hSq
            go_simp
            try with_reducible rfl
          simp only [List.getElem_toArray, List.getElem_cons_succ, List.getElem_cons_zero, Act.put, List.setIfInBounds_toArray, List.set_cons_zero, List.set_cons_succ]
          refine wpAnyH_take (i := 3) (v := ?_) rfl (by kernel_rfl) (by kernel_rfl) (by kernel_rfl) (fun _ _ _ h => h) (Or.inl ⟨by rfl, ?_⟩) (by assumption) ?_
          rotate_left
          · intro wq hSq
            have r0 : wq.cell? ⟨w.heap.size, 1, none⟩ = some (.string (tx b)) := hSq
            go_simp
            try with_reducible rfl
          simp only [List.getElem_toArray, List.getElem_cons_succ, List.getElem_cons_zero, Act.put, List.setIfInBounds_toArray, List.set_cons_zero, List.set_cons_succ]
          refine wpAnyH_take (i := 4) (v := ?_) rfl (by kernel_rfl) (by kernel_rfl) (by kernel_rfl) (fun _ _ _ h => h) (Or.inl ⟨by rfl, ?_⟩) (by assumption) ?_
          rotate_left
          · intro wq hSq
            have r0 : wq.cell? ⟨w.heap.size, 1, none⟩ = some (.string (tx b)) := hSq
            go_simp
            try with_reducible rfl
          simp only [List.getElem_toArray, List.getElem_cons_succ, List.getElem_cons_zero, Act.put, List.setIfInBounds_toArray, List.set_cons_zero, List.set_cons_succ]
          refine wpAnyH_ready (rs := [5]) (by kernel_rfl) (by simp) ?_
          refine AllReadyH.cons rfl (fun Kq hKq => ?_) AllReadyH.nil
          go_simp
          refine (d1.out _).mono ?_
          rintro e wv ⟨rfl, hwv⟩
          subst hwv
          refine hKq.out _ _ hS (fun _ => ?_)
          clear hKq Kq
          refine wpAnyH_take (i := 6) (v := ?_) rfl (by kernel_rfl) (by kernel_rfl) (by kernel_rfl) (fun _ _ _ h => h) (Or.inl ⟨by rfl, ?_⟩) (by assumption) ?_
          rotate_left
          · intro wq hSq
            have r0 : wq.cell? ⟨w.heap.size, 1, none⟩ = some (.string (tx b)) := hSq
            go_simp
            try with_reducible rfl
          simp only [List.getElem_toArray, List.getElem_cons_succ, List.getElem_cons_zero, Act.put, List.setIfInBounds_toArray, List.set_cons_zero, List.set_cons_succ]
          refine wpAnyH_take (i := 7) (v := ?_) rfl (by kernel_rfl) (by kernel_rfl) (by kernel_rfl) (fun _ _ _ h => h) (Or.inl ⟨by rfl, ?_⟩) (by assumption) ?_
          rotate_left
          · intro wq hSq
            have r0 : wq.cell? ⟨w.heap.size, 1, none⟩ = some (.string (tx b)) := hSq
            go_simp
            try with_reducible rfl
          simp only [List.getElem_toArray, List.getElem_cons_succ, List.getElem_cons_zero, Act.put, List.setIfInBounds_toArray, List.set_cons_zero, List.set_cons_succ]
          refine wpAnyH_take (i := 8) (v := ?_) rfl (by kernel_rfl) (by kernel_rfl) (by kernel_rfl) (fun _ _ _ h => h) (Or.inl ⟨by rfl, ?_⟩) (by assumption) ?_
          rotate_left
          · intro wq hSq
            have r0 : wq.cell? ⟨w.heap.size, 1, none⟩ = some (.string (tx b)) := hSq
            go_simp
            try with_reducible rfl
          simp only [List.getElem_toArray, List.getElem_cons_succ, List.getElem_cons_zero, Act.put, List.setIfInBounds_toArray, List.set_cons_zero, List.set_cons_succ]
          refine wpAnyH_take (i := 9) (v := ?_) rfl (by kernel_rfl) (by kernel_rfl) (by kernel_rfl) (fun _ _ _ h => h) (Or.inl ⟨by rfl, ?_⟩) (by assumption) ?_
          rotate_left
          · intro wq hSq
            have r0 : wq.cell? ⟨w.heap.size, 1, none⟩ = some (.string (tx b)) := hSq
            go_simp
            try with_reducible rfl
          simp only [List.getElem_toArray, List.getElem_cons_succ, List.getElem_cons_zero, Act.put, List.setIfInBounds_toArray, List.set_cons_zero, List.set_cons_succ]
          refine wpAnyH_take (i := 11) (v := ?_) rfl (by kernel_rfl) (by kernel_rfl) (by kernel_rfl) (fun _ _ _ h => h) (Or.inl ⟨by rfl, ?_⟩) (by assumption) ?_
          rotate_left
          · intro wq hSq
            have r0 : wq.cell? ⟨w.heap.size, 1, none⟩ = some (.string (tx b)) := hSq
            go_simp
            try with_reducible rfl
          simp only [List.getElem_toArray, List.getElem_cons_succ, List.getElem_cons_zero, Act.put, List.setIfInBounds_toArray, List.set_cons_zero, List.set_cons_succ]
          refine wpAnyH_take (i := 12) (v := ?_) rfl (by kernel_rfl) (by kernel_rfl) (by kernel_rfl) (fun _ _ _ h => h) (Or.inl ⟨by rfl, ?_⟩) (by assumption) ?_
          rotate_left
          · intro wq hSq
            have r0 : wq.cell? ⟨w.heap.size, 1, none⟩ = some (.string (tx b)) := hSq
            go_simp
            try with_reducible rfl
          simp only [List.getElem_toArray, List.getElem_cons_succ, List.getElem_cons_zero, Act.put, List.setIfInBounds_toArray, List.set_cons_zero, List.set_cons_succ]
          refine wpAnyH_take (i := 13) (v := ?_) rfl (by kernel_rfl) (by kernel_rfl) (by kernel_rfl) (fun _ _ _ h => h) (Or.inl ⟨by rfl, ?_⟩) (by assumption) ?_
          rotate_left
          · intro wq hSq
            have r0 : wq.cell? ⟨w.heap.size, 1, none⟩ = some (.string (tx b)) := hSq
            go_simp
            try with_reducible rfl
          simp only [List.getElem_toArray, List.getElem_cons_succ, List.getElem_cons_zero, Act.put, List.setIfInBounds_toArray, List.set_cons_zero, List.set_cons_succ]
          refine wpAnyH_ready (rs := [10]) (by kernel_rfl) (by simp) ?_
          refine AllReadyH.cons rfl (fun Kq hKq => ?_) AllReadyH.nil
          go_simp
          refine (d2.out _).mono ?_
          rintro e wv ⟨rfl, hwv⟩
          subst hwv
          refine hKq.out _ _ hS (fun _ => ?_)
          clear hKq Kq
          refine wpAnyH_ready (rs := [14]) (by kernel_rfl) (by simp) ?_
          refine AllReadyH.cons rfl (fun Kq hKq => ?_) AllReadyH.nil
          go_simp
          refine (d3.out _).mono ?_
          rintro e wv ⟨rfl, hwv⟩
          subst hwv
          refine hKq.out _ _ hS (fun _ => ?_)
          clear hKq Kq
          refine wpAnyH_take (i := 15) (v := ?_) rfl (by kernel_rfl) (by kernel_rfl) (by kernel_rfl) (fun _ _ _ h => h) (Or.inl ⟨by rfl, ?_⟩) (by assumption) ?_
          rotate_left
          · intro wq hSq
            have r0 : wq.cell? ⟨w.heap.size, 1, none⟩ = some (.string (tx b)) := hSq
            go_simp
            try with_reducible rfl
          simp only [List.getElem_toArray, List.getElem_cons_succ, List.getElem_cons_zero, Act.put, List.setIfInBounds_toArray, List.set_cons_zero, List.set_cons_succ]
          refine wpAnyH_take (i := 16) (v := ?_) rfl (by kernel_rfl) (by kernel_rfl) (by kernel_rfl) (fun _ _ _ h => h) (Or.inl ⟨by rfl, ?_⟩) (by assumption) ?_
          rotate_left
          · intro wq hSq
            have r0 : wq.cell? ⟨w.heap.size, 1, none⟩ = some (.string (tx b)) := hSq
            go_simp
            try with_reducible rfl
          simp only [List.getElem_toArray, List.getElem_cons_succ, List.getElem_cons_zero, Act.put, List.setIfInBounds_toArray, List.set_cons_zero, List.set_cons_succ]
          refine wpAnyH_done (by kernel_rfl) ?_ _
          cases x with
          | true =>
            have hE2 : Hid (R = false) := by unfold Hid; rw [HEk.out]; rfl
            clear HEk
            go_wp2
            go_ret
            exact ⟨by rw [hE2.out]; rfl, HX.out⟩
          | false =>
            have hE2 : Hid (R = lieG A M s (k + 1) (8 * 16 - (k + 1))) := by unfold Hid; rw [HEk.out]; rfl
            clear HEk
            have HQ2 := hide (And.intro HX.out hS)
            clear hS HX
            go_wp2
            go_roundw
            case rel => exact ⟨k + 1, by go_num, by omega, hE2, HQ2⟩
            case measure => simp [intOf]; omega
      · have ltI : ¬ (k : Int) < 8 * 16 := by omega
        have hE2 : Hid (R = true) := by unfold Hid; rw [hE.out, show 8 * 16 - k = 0 by omega, lieG]
        clear hE
        go_wp2
        go_ret
        exact ⟨by rw [hE2.out]; rfl, hQ.out.1⟩
  · rw [decide_eq_false hsl] at hRn
    have hE2 : Hid (R = false) := hRn
    have zs : ¬ ((tx s).size : Int) = 16 := by rw [tx_size]; omega
    have zs2 : (((tx s).size : Int) != 16) = true := by simpa using zs
    clear hRn
    unfold lieP
    have BX := nbelowW w (.cells #[.int .i64 7, .string (tx b)] 36)
    have c1 : (w.alloc (.cells #[.int .i64 7, .string (tx b)] 36)).cell? ⟨w.heap.size, 1, none⟩ = some (.string (tx b)) := by simp
    go_enter Tryz.func40, Tryz.ntmps40
    go_wp2
    go_ret
    exact ⟨by rw [hE2.out]; rfl, BX⟩
theorem rlie_net (b s : List UInt8) (hb : b.length ≤ 1048576) (hs : s.length ≤ 1048576) (hn : isNetL b = true) (w : World) : lieP 7 b s (hasAddrL b s) w := by
  rcases net_len hn with h8 | h32
  · exact rlie_net8 b s hb hs hn h8 w
  · exact rlie_net32 b s hb hs hn h32 w

def lieL (k : Int) (b s : List UInt8) : Bool := if k = 1 then hasMailL b s else if k = 2 then belB s b else if k = 4 then hNM b s else hasAddrL b s
theorem rlie_any (k : Int) (b s : List UInt8) (hb : b.length ≤ 1048576) (hs : s.length ≤ 1048576) (hM : mayW k b = true) (hc : k = 1 → (cutD 64 s).2.2 = true) (w : World) : lieP k b s (lieL k b s) w := by
  unfold lieL
  by_cases h1 : k = 1
  · subst h1; rw [if_pos rfl]; exact rlie_mail b s hb hs hM (hc rfl) w
  rw [if_neg h1]
  by_cases h2 : k = 2
  · subst h2; rw [if_pos rfl]; exact rlie_dns b s hb hs w
  rw [if_neg h2]
  by_cases h3 : k = 4
  · subst h3; rw [if_pos rfl]; exact rlie_name b s hb hs w
  rw [if_neg h3]
  by_cases h4 : k = 7
  · subst h4; exact rlie_net b s hb hs hM w
  rw [mayW_else h1 h2 h3 h4] at hM
  cases hM

end Go.Proofs.YtklchpdpooikdaaGreatDoor
