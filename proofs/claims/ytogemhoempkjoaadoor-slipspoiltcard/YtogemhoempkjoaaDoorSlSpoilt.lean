/-
  The statement SlipSpoilt: its walk.
-/
import Derived.Test.YtogemhoempkjoaaDoorSlBurst
import Derived.Test.YtogemhoempkjoaaDoorSlRight
import Derived.Test.YtogemhoempkjoaaDoorSlWk
import Derived.Deep.DeepCutAuto
namespace Go.Proofs.YtogemhoempkjoaaDoor
open Go.RowKit Go.IntWalk

theorem setc_grown (w : World) (g i : Nat) (v : Value) : w.grownBy (w.setCell ⟨g, i, none⟩ v) (some g) :=
  ⟨rfl, rfl, rfl, by simp, fun k _ hk => heap_setCell_other w ⟨g, i, none⟩ k v (fun e => hk (by simp [e]))⟩

theorem grown_drewS {w w' : World} {r : Option Nat} (h : w.grownBy w' r) : w.grownBy w'.drew r := ⟨h.os, h.tape, h.output, h.size, h.block⟩

set_option maxRecDepth 100000 in
set_option maxHeartbeats 8000000 in
theorem spoilt_walk (k : Int) (a : Option Addr) (n c : Nat) (xs : List Int) (p q : Int) (w : World) (hT : Tab w) (hs : Src w a n c xs) (_hk : -9223372036854775808 ≤ k ∧ k ≤ 9223372036854775807) (_hp : -9223372036854775808 ≤ p ∧ p ≤ 9223372036854775807) (hq : 0 ≤ q ∧ q < 4294967296) :
    Calls Tryd.prog 8 #[.agg #[.int .i64 k, .slice a n c], .agg #[.int .i64 p, .int .u32 q]] w fun e w' => e = .returned (.bool true) ∧ Below w.heap.size w w' := by
  have HB0 : Hid (Below w.heap.size w ((w.alloc (.cells #[.int .i64 k, .slice a n c] 32)).alloc (.cells #[.int .i64 p, .int .u32 q] 59))) := ((Below.refl _ _).alloc (Nat.le_refl _) _).alloc (by simp) _
  have HT0 := hide (hT.belowA HB0.out)
  have HS0 := hide (hs.below HB0.out)
  have HX0 := hide ((Box.new w k (.slice a n c) 32).alloc (.cells #[.int .i64 p, .int .u32 q] 59))
  have HP0 := hide (Box.newAt (w.alloc (.cells #[.int .i64 k, .slice a n c] 32)) (w.heap.size + 1) p (.int .u32 q) 59 (by simp))
  have HBw0 := hide hT.lt
  have HTk := hide (show (xs.take 65535).length ≤ 65535 by simp; omega)
  have HYb := hide (show ∀ x ∈ xs.take 65535, 0 ≤ x ∧ x < 256 from fun x hx => hs.hbyt x (List.mem_of_mem_take hx))
  have HBk : Hid (∀ b off, a = some ⟨b, off, none⟩ → xs.take 65535 ≠ [] → b < w.heap.size) := fun b off he hne => hs.blk b off he (fun h => hne (by rw [h]; rfl))
  clear hT hs
  go_enter Tryd.func8, Tryd.ntmps8
  go_wp2_with fail
  generalize (w.alloc (.cells #[.int .i64 k, .slice a n c] 32)).alloc (.cells #[.int .i64 p, .int .u32 q] 59) = U at HB0 HT0 HS0 HX0 HP0 ⊢
  refine (right_any k a n c xs _ HS0.out).mono ?_
  rintro e w1 ⟨m, rfl, hm, hsm, B1⟩
  have X1 := HX0.out.below B1
  have x0 := X1.c0
  have x1 := X1.c1
  have xf := X1.fz
  have xl := X1.lt
  have HP1 := hide (HP0.out.below B1)
  have HT1 := hide (HT0.out.belowA B1)
  have HB1 : Hid (Below w.heap.size w w1) := HB0.out.trans (B1.mono HB0.out.size)
  generalize xs.take 65535 = ds at *
  have hkk : 0 ≤ k % 256 ∧ k % 256 ≤ 255 := by omega
  generalize k % 256 = kk at *
  have HSm := hide hsm
  have HM := hide hm
  have hmB : m ≤ 65535 := by omega
  have hlm := hide hsm.hlen
  clear X1 B1 hsm hm
  go_wp2_with fail
  have G1 : w1.grownBy ((w1.setCell ⟨w.heap.size, 0, none⟩ (.int .i64 kk)).setCell ⟨w.heap.size, 1, none⟩ (.slice a m c)) (some w.heap.size) := grown_trans (setc_grown _ _ _ _) (setc_grown _ _ _ _)
  have HXv : Hid (Box ((w1.setCell ⟨w.heap.size, 0, none⟩ (.int .i64 kk)).setCell ⟨w.heap.size, 1, none⟩ (.slice a m c)) w.heap.size kk (.slice a m c)) := ⟨by simp [go_sem, x0], by simp [go_sem, x1], by simpa using xl, fun o => by simp [go_sem, xf]⟩
  have HPv := hide (HP1.out.grown G1 (by simp))
  have HTv := hide (HT1.out.kept G1 (some_ge (by have := HT0.out.lt; have := HP0.out.lt; have h := HBw0.out; omega)))
  have HSv := hide (HSm.out.grown G1 fun b off he hne hb => by have := HBk.out b off he hne; simp at hb; omega)
  have HBv : Hid (Below w.heap.size w ((w1.setCell ⟨w.heap.size, 0, none⟩ (.int .i64 kk)).setCell ⟨w.heap.size, 1, none⟩ (.slice a m c))) := (HB1.out.setCell (Nat.le_refl _) _).setCell (Nat.le_refl _) _
  generalize (w1.setCell ⟨w.heap.size, 0, none⟩ (.int .i64 kk)).setCell ⟨w.heap.size, 1, none⟩ (.slice a m c) = V at HXv HPv HTv HSv HBv G1 ⊢
  clear x0 x1 xf xl G1 HP1 HT1 HSm HB1
  have hnil : Src V none 0 0 [] := ⟨rfl, Nat.le_refl _, by decide, fun _ => ⟨rfl, rfl⟩, fun h => absurd rfl h, by simp⟩
  have hps : putS [] kk ds = (slipB kk ds, 0) := by unfold putS; rw [if_neg (by omega), if_neg (by have := HTk.out; omega)]; simp
  have hput := put_any none 0 0 [] kk a m c ds V HTv.out hnil HSv.out (by omega) (by omega)
  rw [hps] at hput
  refine hput.mono ?_
  rintro e w2 ⟨ab, mb, cb, rfl, hob, B2⟩
  clear hput hps hnil
  have hlb := hob.toSrc (slipB_bd kk ds hkk HYb.out)
  have hL : mb = m + 7 := by have := hlb.hlen; rw [slipB_len, hlm.out] at this; omega
  subst hL
  have HSb := hide hlb
  have HX2 := hide (HXv.out.below B2)
  have HP2 := hide (HPv.out.below B2)
  have HT2 := hide (HTv.out.belowA B2)
  have HSd2 := hide (HSv.out.below B2)
  have HB2 : Hid (Below w.heap.size w w2) := HBv.out.trans (B2.mono HBv.out.size)
  have HLb := hide hlb.hlen
  obtain ⟨F, hF⟩ : ∃ F : Nat, (IntKind.u64.wrap p).tmod (8 * ((m : Int) + 7)) = (F : Int) := ⟨_, (Int.toNat_of_nonneg (by rw [Int.tmod_eq_emod_of_nonneg (by rw [IntKind.wrap_u64]; omega)]; exact Int.emod_nonneg _ (by omega))).symm⟩
  have hFl : F < 8 * (m + 7) := by
    have h := Int.emod_lt_of_pos (IntKind.u64.wrap p) (show (0 : Int) < 8 * ((m : Int) + 7) by omega)
    rw [Int.tmod_eq_emod_of_nonneg (by rw [IntKind.wrap_u64]; omega)] at hF
    omega
  have hwF : wrap64 (F : Int) = (F : Int) := by unfold wrap64; omega
  clear hob B2 hlb
  go_wp2_with (at_builtin; refine wpList_appN _ rfl (.tmp 29) (.tmp 30) rfl w2.heap.size (.slice (some ⟨w2.heap.size, 0, none⟩) 0 0) [] rfl (OwnB.litAt _ _ [] _ 0 rfl rfl rfl (Nat.le_refl _) (by decide)) ab (m + 7) cb (slipB kk ds) rfl (HSb.out.alloc _) (m + 7) (by simpa using HLb.out) (.inl (by simp)) (by omega) (by simp) ?_; intro g3 c3 w3 ho3 hb3 hl3 hc3 hm3 hg3; have B3 : Below w2.heap.size w2 w3 := ((Below.refl _ _).alloc (Nat.le_refl _) _).grown hg3 (by simp) (own_ge (Nat.le_refl _)); have HO3 := hide ho3; have P3 := (HP2.out.below B3); have p3 := P3.c0; have HP3 := hide P3; have HB3 := hide B3; clear ho3 hg3 P3 B3)
  clear p3
  have HG3 : Hid (w.heap.size + 1 < w2.heap.size) := HP2.out.lt
  go_loopw [9, 10] (fun tb i wr => ∃ (j : Nat) (t : Bool) (ys : List Int) (A : W32), j ≤ 32 ∧ i = .int .i64 j ∧ tb = .bool t ∧ Hid (OwnB wr w2.heap.size (.slice (some ⟨g3, 0, none⟩) (m + 7) c3) ys) ∧ Hid (∀ x ∈ ys, 0 ≤ x ∧ x < 256) ∧ Hid (ys.getD 1 0 = (slipB kk ds).getD 1 0 ∧ ys.getD 2 0 = (slipB kk ds).getD 2 0) ∧ Hid (reg (BitVec.allOnes 32) ys = reg (BitVec.allOnes 32) (slipB kk ds) ^^^ stpN (8 * (m + 7) - F) A) ∧ Hid (A.toNat < 2 ^ j) ∧ Hid (t = false → ys = slipB kk ds) ∧ Hid (t = true → A ≠ 0#32) ∧ Hid (w3.grownBy wr (some g3))) (fun _ i _ => 32 - (intOf i).toNat)
  case atStart => exact ⟨0, false, slipB kk ds, 0#32, by omega, rfl, rfl, by unfold Hid; simpa using HO3.out, slipB_bd kk ds hkk HYb.out, ⟨rfl, rfl⟩, by unfold Hid; rw [stpN_zero, BitVec.xor_zero], by unfold Hid; simp, fun _ => rfl, (fun h => by cases h), World.grownBy.refl _ _⟩
  case round =>
    obtain ⟨j, t, ys, A, hj, rfl, rfl, HO, HBy, H12, HR, HA, Hf, Ht, HG⟩ := hrel
    have HLy : Hid (m + 7 = ys.length) := HO.out.eqlen
    by_cases hin : j < 32 ∧ F + j < 8 * (m + 7)
    · obtain ⟨hj2, hp2⟩ := hin
      have hjI : (j : Int) < 32 := by omega
      have hpI : (F : Int) + (j : Int) < 8 * ((m : Int) + 7) := by omega
      have hw1 : IntKind.i64.wrap ((F : Int) + (j : Int)) = (F : Int) + (j : Int) := i64_in _ (by omega)
      obtain ⟨K8, hK8⟩ : ∃ K8, (F + j) / 8 = K8 := ⟨_, rfl⟩
      obtain ⟨J, hJ⟩ : ∃ J, (F + j) % 8 = J := ⟨_, rfl⟩
      have hq8 : ((F : Int) + (j : Int)).tdiv 8 = (K8 : Int) := by rw [Int.tdiv_eq_ediv_of_nonneg (by omega)]; omega
      have hr8 : ((F : Int) + (j : Int)).tmod 8 = (J : Int) := by rw [Int.tmod_eq_emod_of_nonneg (by omega)]; omega
      have hK8l : K8 < m + 7 := by omega
      have hJ8 : J < 8 := by omega
      have pm : wr.cell? ⟨w.heap.size + 1, 1, none⟩ = some (.int .u32 q) := (HP3.out.grown HG.out (by have := hb3; have := HG3.out; simp; omega)).c1
      have hz0 : 0 ≤ q / 2 ^ j := Int.ediv_nonneg hq.1 (Int.pow_nonneg (by omega))
      have hzt : (q / 2 ^ j).tmod 2 = q / 2 ^ j % 2 := Int.tmod_eq_emod_of_nonneg hz0
      have hzb : q / 2 ^ j % 2 = 0 ∨ q / 2 ^ j % 2 = 1 := by omega
      rw [← hzt] at hzb
      clear hzt hz0
      by_cases e1 : (q / 2 ^ j).tmod 2 = 1
      · by_cases e2 : K8 = 1
        · subst e2
          clear hK8 hJ
          go_wp2
          all_goals (
            go_roundw
            case rel => exact ⟨j + 1, t, ys, A, by omega, by go_num, rfl, HO, HBy, H12, HR, by unfold Hid; have := HA.out; rw [Nat.pow_succ]; omega, Hf, Ht, HG⟩
            case measure => simp [intOf]; omega)
        · by_cases e3 : K8 = 2
          · subst e3
            clear hK8 hJ
            go_wp2
            all_goals (
              go_roundw
              case rel => exact ⟨j + 1, t, ys, A, by omega, by go_num, rfl, HO, HBy, H12, HR, by unfold Hid; have := HA.out; rw [Nat.pow_succ]; omega, Hf, Ht, HG⟩
              case measure => simp [intOf]; omega)
          · have b2 : ((K8 : Int) != 1) = true := by simp; omega
            have b3 : ((K8 : Int) != 2) = true := by simp; omega
            have hcell := HO.out.cell K8 (by rw [← HLy.out]; exact hK8l)
            have hfr := HO.out.frozen K8
            have HST := hide (fun u => HO.out.stored K8 u)
            have hK8I : (K8 : Int) < (m : Int) + 7 := by omega
            have hpow : (2 : Int) ^ J % 256 = ((2 ^ J : Nat) : Int) := by
              rcases (show J = 0 ∨ J = 1 ∨ J = 2 ∨ J = 3 ∨ J = 4 ∨ J = 5 ∨ J = 6 ∨ J = 7 by omega) with rfl | rfl | rfl | rfl | rfl | rfl | rfl | rfl <;> decide
            obtain ⟨A', r1, r2, r3⟩ := burst_step (slipB kk ds) ys (8 * (m + 7) - F) j A (by rw [← HLy.out]; omega) hj2 (by omega) HBy.out HA.out HR.out
            rw [← HLy.out, show 8 * (m + 7) - (8 * (m + 7) - F) + j = F + j by omega] at r1
            have HFL : Hid (∀ y, ys.getD K8 0 = y → ys.set K8 (bits .xor .u8 y ((2 : Int) ^ J % 256)) = flipB ys (F + j)) := fun y hy => by unfold flipB; rw [hK8, hJ, hpow, hy]
            have HR1 := hide r1
            have HR2 := hide r2
            have HR3 := hide r3
            have HB9 := hide (flip_bd ys (F + j) HBy.out)
            have H129 : Hid ((flipB ys (F + j)).getD 1 0 = (slipB kk ds).getD 1 0 ∧ (flipB ys (F + j)).getD 2 0 = (slipB kk ds).getD 2 0) := ⟨(flip_at ys (F + j) 1 (by omega)).trans H12.out.1, (flip_at ys (F + j) 2 (by omega)).trans H12.out.2⟩
            obtain ⟨y, hyy⟩ : ∃ y, ys.getD K8 0 = y := ⟨_, rfl⟩
            rw [hyy] at hcell
            have HYY := hide hyy
            clear hK8 hJ r1 r2 r3 hpow hyy
            go_wp2_with fail
            go_region
            all_goals (
              go_wp2
              go_roundw
              case rel => exact ⟨j + 1, true, flipB ys (F + j), A', by omega, by go_num, rfl, by unfold Hid; rw [← HFL.out y HYY.out]; exact (HST.out _).1.heap rfl, HB9, H129, HR1, HR3, (fun h => by cases h), (fun _ => HR2.out), grown_drewS (grown_trans HG.out (HST.out _).2)⟩
              case measure => simp [intOf]; omega)
      · have e10 : (q / 2 ^ j).tmod 2 = 0 := by rcases hzb with h | h; exact h; exact absurd h e1
        clear hK8 hJ hzb e1
        go_wp2
        all_goals (
          go_roundw
          case rel => exact ⟨j + 1, t, ys, A, by omega, by go_num, rfl, HO, HBy, H12, HR, by unfold Hid; have := HA.out; rw [Nat.pow_succ]; omega, Hf, Ht, HG⟩
          case measure => simp [intOf]; omega)
    · have HSy := hide (HO.out.toSrc HBy.out)
      have HTy := hide ((HT2.out.belowA HB3.out).kept HG.out (some_ge (by have := HG3.out; omega)))
      have HXy := hide ((HX2.out.below HB3.out).grown HG.out (by have := HG3.out; simp; omega))
      have HSdy := hide ((HSd2.out.below HB3.out).grown HG.out fun b off he hne hb => by have := HBk.out b off he hne; have := HG3.out; simp at hb; omega)
      have HBy2 : Hid (Below w.heap.size w wr) := (HB2.out.trans (HB3.out.mono HB2.out.size)).grown HG.out (Nat.le_trans HB2.out.size HB3.out.size) (some_ge (by have := HG3.out; omega))
      have hw1 : IntKind.i64.wrap ((F : Int) + (j : Int)) = (F : Int) + (j : Int) := i64_in _ (by omega)
      have hlds : ds.length ≤ 65535 := HTk.out
      have hcond : (j = 32) ∨ (j < 32 ∧ 8 * (m + 7) ≤ F + j) := by omega
      cases t with
      | true =>
        have hfd := spoilt kk ds ys (8 * (m + 7) - F) A HBy.out hlds (by rw [slipB_len, ← HLy.out, hlm.out]) H12.out.1 H12.out.2 HR.out (Ht.out rfl)
        have HFD := hide hfd
        have HSK := hide (show slipK ys = 0 by unfold slipK; rw [hfd, if_neg (by decide)])
        have HSD := hide (show slipD ys = [] by unfold slipD; rw [hfd, if_neg (by decide)])
        clear hfd
        rcases hcond with hc | ⟨hc, hd⟩
        · subst hc
          go_wp2_with (first | (go_at_call 18; refine (take_any _ _ _ ys _ HTy.out HSy.out).mono ?_; rintro e w5 ⟨ao5, m5, c5, rfl, ho5, B5⟩; rw [HFD.out, HSK.out]; rw [HSD.out] at ho5; have hm5 : m5 = 0 := (ho5.toSrc (by simp)).hlen.symm; subst hm5; have HB5 := hide B5; have HT5 := hide (HTy.out.belowA B5); clear ho5 B5) | (go_at_call 24; refine (works_any _ (HT5.out.alloc _)).mono ?_; rintro e w6 ⟨rfl, B6⟩))
          go_ret
          exact ⟨rfl, ((HBy2.out.trans (HB5.out.mono HBy2.out.size)).alloc (Nat.le_trans HBy2.out.size HB5.out.size) _).trans (B6.mono (by have := HBy2.out.size; have := HB5.out.size; simp; omega))⟩
        · have hcI : (j : Int) < 32 := by omega
          have hdI : ¬ (F : Int) + (j : Int) < 8 * ((m : Int) + 7) := by omega
          go_wp2_with (first | (go_at_call 18; refine (take_any _ _ _ ys _ HTy.out HSy.out).mono ?_; rintro e w5 ⟨ao5, m5, c5, rfl, ho5, B5⟩; rw [HFD.out, HSK.out]; rw [HSD.out] at ho5; have hm5 : m5 = 0 := (ho5.toSrc (by simp)).hlen.symm; subst hm5; have HB5 := hide B5; have HT5 := hide (HTy.out.belowA B5); clear ho5 B5) | (go_at_call 24; refine (works_any _ (HT5.out.alloc _)).mono ?_; rintro e w6 ⟨rfl, B6⟩))
          go_ret
          exact ⟨rfl, ((HBy2.out.trans (HB5.out.mono HBy2.out.size)).alloc (Nat.le_trans HBy2.out.size HB5.out.size) _).trans (B6.mono (by have := HBy2.out.size; have := HB5.out.size; simp; omega))⟩
      | false =>
        have hys := Hf.out rfl
        have hfd := find_slip kk ds [] hlds
        have hsk := slipK_slip kk ds [] hlds
        have hsd := slipD_slip kk ds [] hlds
        rw [List.append_nil, ← hys] at hfd hsk hsd
        have HFD := hide hfd
        have HSK := hide hsk
        have HSD := hide hsd
        have hdm : (ds.length : Int) + 7 = (m : Int) + 7 := by rw [hlm.out]
        clear hfd hsk hsd hys
        rcases hcond with hc | ⟨hc, hd⟩
        · subst hc
          go_wp2_with (first | (go_at_call 18; refine (take_any _ _ _ ys _ HTy.out HSy.out).mono ?_; rintro e w5 ⟨ao5, m5, c5, rfl, ho5, B5⟩; rw [HFD.out, HSK.out, hdm]; rw [HSD.out] at ho5; have hsrc5 := ho5.toSrc HYb.out; have t5 := (hsrc5.alloc (.cells #[.int .i64 kk, .slice ao5 m5 c5] 32)).text; have t6 := ((HSdy.out.below B5).alloc (.cells #[.int .i64 kk, .slice ao5 m5 c5] 32)).text; have X5 := (HXy.out.below B5); have y0 := X5.c0; have y1 := X5.c1; have yl := X5.lt; have HB5 := hide B5; have HT5 := hide (HTy.out.belowA B5); have hne5 : ¬ w.heap.size = w5.heap.size := (by omega); clear ho5 B5 X5 hsrc5) | (go_at_call 24; refine (works_any _ (HT5.out.alloc _)).mono ?_; rintro e w6 ⟨rfl, B6⟩))
          go_ret
          exact ⟨rfl, ((HBy2.out.trans (HB5.out.mono HBy2.out.size)).alloc (Nat.le_trans HBy2.out.size HB5.out.size) _).trans (B6.mono (by have := HBy2.out.size; have := HB5.out.size; simp; omega))⟩
        · have hcI : (j : Int) < 32 := by omega
          have hdI : ¬ (F : Int) + (j : Int) < 8 * ((m : Int) + 7) := by omega
          go_wp2_with (first | (go_at_call 18; refine (take_any _ _ _ ys _ HTy.out HSy.out).mono ?_; rintro e w5 ⟨ao5, m5, c5, rfl, ho5, B5⟩; rw [HFD.out, HSK.out, hdm]; rw [HSD.out] at ho5; have hsrc5 := ho5.toSrc HYb.out; have t5 := (hsrc5.alloc (.cells #[.int .i64 kk, .slice ao5 m5 c5] 32)).text; have t6 := ((HSdy.out.below B5).alloc (.cells #[.int .i64 kk, .slice ao5 m5 c5] 32)).text; have X5 := (HXy.out.below B5); have y0 := X5.c0; have y1 := X5.c1; have yl := X5.lt; have HB5 := hide B5; have HT5 := hide (HTy.out.belowA B5); have hne5 : ¬ w.heap.size = w5.heap.size := (by omega); clear ho5 B5 X5 hsrc5) | (go_at_call 24; refine (works_any _ (HT5.out.alloc _)).mono ?_; rintro e w6 ⟨rfl, B6⟩))
          go_ret
          exact ⟨rfl, ((HBy2.out.trans (HB5.out.mono HBy2.out.size)).alloc (Nat.le_trans HBy2.out.size HB5.out.size) _).trans (B6.mono (by have := HBy2.out.size; have := HB5.out.size; simp; omega))⟩

end Go.Proofs.YtogemhoempkjoaaDoor
