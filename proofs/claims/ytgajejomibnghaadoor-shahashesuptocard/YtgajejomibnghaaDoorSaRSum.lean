/-
  The document's Sum.
-/
import Derived.Test.YtgajejomibnghaaDoorSaRBl
namespace Go.Proofs.YtgajejomibnghaaDoor
open Go.RowKit Go.IntWalk

attribute [local go_sem ↓] ld_arr st_arr

theorem flat_at : ∀ (l : List Int) (q r : Nat), r < 4 → q < l.length → (l.flatMap bytes4).getD (4 * q + r) 0 = (bytes4 (l.getD q 0)).getD r 0
  | [], q, r, _, h => by simp at h
  | x :: l, 0, r, hr, _ => by
    rw [List.flatMap_cons]
    simp only [List.getD, Nat.mul_zero, Nat.zero_add]
    rw [List.getElem?_append_left (by rw [bytes4_len]; exact hr)]
    rfl
  | x :: l, q + 1, r, hr, h => by
    rw [List.flatMap_cons]
    have ih := flat_at l q r hr (by simpa using h)
    simp only [List.getD] at ih ⊢
    rw [List.getElem?_append_right (by rw [bytes4_len]; omega), bytes4_len, show 4 * (q + 1) + r - 4 = 4 * q + r by omega, List.getElem?_cons_succ]
    exact ih

def outI (D : List Int) (j : Nat) : List Value := (D.take j ++ List.replicate (32 - j) 0).map (Value.int .u8)
theorem outI_len (D : List Int) (hD : D.length = 32) (j : Nat) (hj : j ≤ 32) : (outI D j).length = 32 := by simp [outI, hD]; omega
theorem outI_set (D : List Int) (hD : D.length = 32) (j : Nat) (hj : j < 32) : (outI D j).set j (.int .u8 (D.getD j 0)) = outI D (j + 1) := by
  unfold outI
  rw [← List.map_set, List.set_append_right _ _ (by simp; omega), List.length_take, show j - min j D.length = 0 by omega, show 32 - j = (32 - (j + 1)) + 1 by omega, List.replicate_succ, List.set_cons_zero]
  congr 1
  rw [List.take_add_one, List.append_assoc]
  simp [List.getD, List.getElem?_eq_getElem (show j < D.length by omega)]
theorem outI_all (D : List Int) (hD : D.length = 32) : outI D 32 = D.map (Value.int .u8) := by
  unfold outI
  rw [List.take_of_length_le (by omega)]
  simp
theorem info_25 : (Tryd.prog.info? 25).map (·.size) = some 32 := by kernel_rfl


set_option maxRecDepth 100000 in
set_option maxHeartbeats 4000000 in
theorem refSum_any (a : Option Addr) (n c : Nat) (xs : List Int) (w : World) (hs : SrcG .u8 256 w a n c xs) (hn : n ≤ 1099511627776) :
    Calls Tryd.prog 9 #[.slice a n c] w fun e w' => e = .returned (.agg ((dig xs).map (Value.int .u8)).toArray) ∧ Below w.heap.size w w' := by
  have HS := hide hs
  have HL := hide hs.hlen
  have HD := hide hs.hdg
  have HN := hide hn
  clear hs hn
  go_enter Tryd.func9, Tryd.ntmps9
  go_wp2_with fail
  refine (padded_any a n c xs _ ((HS.out.alloc _).alloc _) HN.out).mono ?_
  rintro e w1 ⟨gp, cp, rfl, ho1, hb1, hB1⟩
  have HP1 := hide ho1
  clear ho1
  go_wp2_with fail
  refine (words_any _).mono ?_
  rintro e w2 ⟨rfl, hK2, hB2⟩
  have HK2 := hide hK2
  clear hK2
  go_wp2_with fail
  have HX : Hid ((xs ++ pad n).length = n + (9 + zerosN n)) := by unfold Hid; rw [List.length_append, pad_len, HL.out]
  obtain ⟨M, hM⟩ : ∃ M, n + (9 + zerosN n) = M := ⟨_, rfl⟩
  have hMb : M ≤ 1099511627999 := by rw [← hM]; have := HN.out; unfold zerosN; omega
  obtain ⟨K, hK⟩ : ∃ K, M = 64 * K := ⟨M / 64, by have h1 := pad_whole n; rw [pad_len] at h1; omega⟩
  have HMI : (M : Int) ≤ 1099511627999 := by omega
  have HDX : Hid (Dg 256 (xs ++ pad n)) := HD.out.append (pad_dg n)
  have HDG : Hid (dig xs = (stN (xs ++ pad n) K).flatMap bytes4) := by
    unfold Hid dig st
    rw [HL.out, HX.out, hM, hK, Nat.mul_div_cancel_left _ (by decide)]
  rw [hM] at HX HP1 ⊢
  have HMK := hide hK
  clear hM hK
  generalize xs ++ pad n = X at *
  have HPS : Hid (SrcG .u8 256 w2 (some ⟨gp, 0, none⟩) M cp X) := (HP1.out.toSrc HDX.out).below hB2
  have HKS : Hid (SrcG .u32 4294967296 w2 (some ⟨w1.heap.size, 0, none⟩) 64 64 kL) := HK2.out.srcAll (by decide)
  have HHS : Hid (SrcG .u32 4294967296 w2 (some ⟨w.heap.size + 1, 0, none⟩) 8 8 hL) := by
    have h0 : SrcG .u32 4294967296 ((w.alloc (.cells (Array.replicate 32 (.int .u8 0)) 25)).alloc (.cells (hL.map (Value.int .u32)).toArray 65)) (some ⟨w.heap.size + 1, 0, none⟩) 8 8 hL := SrcG.litAt hL _ 8 _ rfl rfl hL_dg (by decide) (by simp)
    exact (h0.below hB1).below hB2
  have HRB : Hid (Blk 25 w2 w.heap.size (List.replicate 32 (.int .u8 0))) := Blk.below (Blk.below ((Blk.new w _ _ _ rfl rfl).alloc _) hB1) hB2
  have HB2 : Hid (Below w.heap.size w w2) := ((((Below.refl _ _).alloc (Nat.le_refl _) _).alloc (by simp) _).trans (hB1.mono (by simp; omega))).trans (hB2.mono (by have := hB1.size; simp at this; omega))
  have hz2 : w.heap.size < w2.heap.size := by have h1 := hB1.size; have h2 := hB2.size; simp at h1; omega
  clear hB1 hB2 HP1 HK2 hb1
  go_loopw [3, 6] (fun h i wq => ∃ (k : Nat) (ah : Option Addr) (ch : Nat), k ≤ K ∧ h = .slice ah 8 ch ∧ i = .int .i64 ((64 * k : Nat) : Int) ∧ Hid (SrcG .u32 4294967296 wq ah 8 ch (stN X k)) ∧ Below w2.heap.size w2 wq) (fun _ i _ => M - (intOf i).toNat)
  case atStart => exact ⟨0, _, _, Nat.zero_le _, rfl, rfl, HHS, Below.refl _ _⟩
  case round =>
    obtain ⟨k, ah, ch, hk, rfl, rfl, HH, hB⟩ := hrel
    obtain ⟨q, hq⟩ : ∃ q, 64 * k = q := ⟨_, rfl⟩
    rw [hq]
    by_cases hkK : k < K
    · have hmk := HMK.out
      have hqM : q + 64 ≤ M := by omega
      have qI : (q : Int) < (M : Int) := by omega
      have hcut := (HPS.out.below hB).cut q (q + 64) (by omega) hqM
      rw [Nat.add_sub_cancel_left] at hcut
      have hcp := HPS.out.hcap
      have hsl : ∀ W : World, (Instr.slice 22 (.slice (some ⟨gp, 0, none⟩) M cp) (some (.int .i64 (q : Int))) (some (.int .i64 ((q : Int) + 64))) none).run Tryd.prog W = .ok (.slice (cutG (some ⟨gp, 0, none⟩) cp q) 64 (cp - q)) W := by
        intro W
        rw [sliceB_lh W _ _ _ _ _ q (q + 64) rfl (by omega) (by omega) (by omega), Nat.add_sub_cancel_left]
      have HC := hide hcut
      have HNX : Hid (mix (stN X k) ((X.take (q + 64)).drop q) = stN X (k + 1)) := by unfold Hid; rw [stN, hq, List.drop_take, Nat.add_sub_cancel_left]
      have HKB := hide (HKS.out.below hB)
      clear hcut hcp hmk
      generalize cutG (some ⟨gp, 0, none⟩) cp q = ac at *
      generalize cp - q = cc at *
      have HQ := hide hq
      have hqb : (q : Int) ≤ 1099511627999 := by omega
      clear hq
      go_wp2_with fail
      refine (block_any _ _ _ _ _ _ _ _ _ HH.out HC.out HKB.out).mono ?_
      rintro e w3 ⟨g3, c3, rfl, ho3, hb3, hl3, hB3⟩
      rw [HNX.out] at ho3
      have HH3 := hide (ho3.toSrc (stN_dg X (k + 1)))
      have hB4 : Below w2.heap.size w2 w3 := hB.trans (hB3.mono hB.size)
      clear ho3 hB3
      go_wp2
      go_roundw
      case rel => exact ⟨k + 1, _, _, by omega, rfl, by have := HQ.out; go_num, HH3, hB4⟩
      case measure => simp [intOf]; omega
    · obtain rfl : k = K := by omega
      have hmk := HMK.out
      obtain rfl : q = M := by omega
      have HRW := hide (HRB.out.below hB)
      have HBW := hide (HB2.out.trans (hB.mono HB2.out.size))
      have hzr : w.heap.size < wr.heap.size := Nat.lt_of_lt_of_le hz2 hB.size
      have HWL := hide (stN_len X k)
      have HWD := hide (stN_dg X k)
      have HDL := hide (dig_len xs)
      generalize stN X k = ws at *
      obtain ⟨D, hD⟩ : ∃ D, dig xs = D := ⟨_, rfl⟩
      rw [hD] at HDG HDL
      have HDD := hide hD
      obtain ⟨W3, hW3⟩ : ∃ W, W = wr := ⟨_, rfl⟩
      subst hW3
      clear hmk hD hq hB HHS HKS HPS HRB HB2 hkK hk
      go_wp2
      go_loopw [8] (fun i wq => ∃ j : Nat, j ≤ 32 ∧ i = .int .i64 j ∧ Hid (Blk 25 wq W3.heap.size (outI D j)) ∧ Hid (Below W3.heap.size W3 wq)) (fun i _ => 32 - (intOf i).toNat)
      case atStart => exact ⟨0, by omega, rfl, Blk.new _ _ _ _ rfl rfl, (Below.refl _ _).alloc (Nat.le_refl _) _⟩
      case round =>
        obtain ⟨j, hj, rfl, HBk, HB3⟩ := hrel
        by_cases hj32 : j < 32
        · obtain ⟨p, r, hjp, hr4⟩ : ∃ p r, j = 4 * p + r ∧ r < 4 := ⟨j / 4, j % 4, by omega, by omega⟩
          have hp8 : p < 8 := by omega
          obtain ⟨gh, oh, rfl, c0⟩ := (HH.out.below HB3.out).at p hp8
          have by0 := HWD.out.at (by decide : (0 : Int) < 4294967296) p
          have HAT : Hid (D.getD j 0 = (bytes4 (ws.getD p 0)).getD r 0) := by unfold Hid; rw [HDG.out, hjp, flat_at ws p r hr4 (by rw [HWL.out]; exact hp8)]
          generalize ws.getD p 0 = y at *
          have o0 := HBk.out.cell j
          have f0 := HBk.out.frozen j
          rw [List.getElem?_eq_getElem (by rw [outI_len D HDL.out j (by omega)]; exact hj32)] at o0
          generalize (outI D j)[j]'_ = v0 at o0
          have jI : (j : Int) < 32 := by omega
          have jP : (0 : Int) ≤ (j : Int) := by omega
          have pI : (p : Int) < 8 := by omega
          have pP : (0 : Int) ≤ (p : Int) := by omega
          rcases (by omega : r = 0 ∨ r = 1 ∨ r = 2 ∨ r = 3) with h | h | h | h
          · have hr : r = 0 := by assumption
            subst hr
            have HDJ : Hid (D.getD j 0 = y / 16777216) := HAT.out
            have HST := hide (outI_set D HDL.out j hj32)
            rw [HDJ.out] at HST
            have tS : Int.tmod (j : Int) 4 = 0 := by rw [Int.tmod_eq_emod_of_nonneg (by omega)]; omega
            have tD : Int.tdiv (j : Int) 4 = (p : Int) := by rw [Int.tdiv_eq_ediv_of_nonneg (by omega)]; omega
            have HJP := hide hjp
            clear hjp
            go_wp2
            refine ⟨⟨j + 1, by omega, by go_num, ?_, HB3.out.setCell (Nat.le_refl _) _⟩, ?_⟩
            · unfold Hid
              rw [← HST.out]
              exact HBk.out.set j _
            · simp [intOf]
              omega
          · have hr : r = 1 := by assumption
            subst hr
            have HDJ : Hid (D.getD j 0 = y / 65536 % 256) := HAT.out
            have HST := hide (outI_set D HDL.out j hj32)
            rw [HDJ.out] at HST
            have tS : Int.tmod (j : Int) 4 = 1 := by rw [Int.tmod_eq_emod_of_nonneg (by omega)]; omega
            have tD : Int.tdiv (j : Int) 4 = (p : Int) := by rw [Int.tdiv_eq_ediv_of_nonneg (by omega)]; omega
            have HJP := hide hjp
            clear hjp
            go_wp2
            refine ⟨⟨j + 1, by omega, by go_num, ?_, HB3.out.setCell (Nat.le_refl _) _⟩, ?_⟩
            · unfold Hid
              rw [← HST.out]
              exact HBk.out.set j _
            · simp [intOf]
              omega
          · have hr : r = 2 := by assumption
            subst hr
            have HDJ : Hid (D.getD j 0 = y / 256 % 256) := HAT.out
            have HST := hide (outI_set D HDL.out j hj32)
            rw [HDJ.out] at HST
            have tS : Int.tmod (j : Int) 4 = 2 := by rw [Int.tmod_eq_emod_of_nonneg (by omega)]; omega
            have tD : Int.tdiv (j : Int) 4 = (p : Int) := by rw [Int.tdiv_eq_ediv_of_nonneg (by omega)]; omega
            have HJP := hide hjp
            clear hjp
            go_wp2
            refine ⟨⟨j + 1, by omega, by go_num, ?_, HB3.out.setCell (Nat.le_refl _) _⟩, ?_⟩
            · unfold Hid
              rw [← HST.out]
              exact HBk.out.set j _
            · simp [intOf]
              omega
          · have hr : r = 3 := by assumption
            subst hr
            have HDJ : Hid (D.getD j 0 = y % 256) := HAT.out
            have HST := hide (outI_set D HDL.out j hj32)
            rw [HDJ.out] at HST
            have tS : Int.tmod (j : Int) 4 = 3 := by rw [Int.tmod_eq_emod_of_nonneg (by omega)]; omega
            have tD : Int.tdiv (j : Int) 4 = (p : Int) := by rw [Int.tdiv_eq_ediv_of_nonneg (by omega)]; omega
            have HJP := hide hjp
            clear hjp
            go_wp2
            refine ⟨⟨j + 1, by omega, by go_num, ?_, HB3.out.setCell (Nat.le_refl _) _⟩, ?_⟩
            · unfold Hid
              rw [← HST.out]
              exact HBk.out.set j _
            · simp [intOf]
              omega
        · obtain rfl : j = 32 := by omega
          have hBk := HBk.out
          rw [outI_all D HDL.out] at hBk
          have hid : (Tryd.prog.info? 25).map (·.size) = some (D.map (Value.int .u8)).length := by rw [List.length_map, HDL.out]; exact info_25
          have HRZ := HRW.out.below HB3.out
          have HW9 := hide (HBW.out.trans (HB3.out.mono HBW.out.size))
          have hl8 : (ldA 25 (.pointer (some ⟨W3.heap.size, 0, none⟩))).run Tryd.prog wr = .ok (.agg (D.map (Value.int .u8)).toArray) wr := ldA_all Tryd.underlying25 rfl hid hBk
          have hs8 : (stA 25 (.pointer (some ⟨w.heap.size, 0, none⟩)) (.agg (D.map (Value.int .u8)).toArray)).run Tryd.prog wr = .ok () (wr.setCells w.heap.size 0 (D.map (Value.int .u8))) := stA_all hid HRZ (by simp [HDL.out]) (ints_one _ _)
          have hB2 := Blk.sets (D.map (Value.int .u8)) 0 _ wr HRZ (by simp [HDL.out])
          go_wp2
          refine bodyPost_ret (v := .agg (D.map (Value.int .u8)).toArray) ?_ rfl ⟨by rw [HDD.out], ?_⟩
          · refine results_one (T := 25) (X := D.map (Value.int .u8)) (p := 2) (ty := 25) (g := w.heap.size) (by kernel_rfl) _ _ rfl Tryd.underlying25 rfl hid ?_
            have e := hB2
            simp [HDL.out] at e
            exact e
          · exact below_sets HW9.out (Nat.le_refl _) HW9.out.size _ _

end Go.Proofs.YtgajejomibnghaaDoor
