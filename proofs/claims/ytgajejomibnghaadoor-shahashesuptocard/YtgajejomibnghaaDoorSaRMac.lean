/-
  The document's Mac.
-/
import Derived.Test.YtgajejomibnghaaDoorSaRSum
import Derived.Deep.DeepCutAuto
namespace Go.Proofs.YtgajejomibnghaaDoor
open Go.RowKit Go.IntWalk

attribute [local go_sem ↓] ld_arr st_arr

theorem Tryd.lenA25 : Tryd.prog.arrayLen 25 = 32 := by kernel_rfl
theorem Tryd.elemA25 : Tryd.prog.elem 25 = 5 := by kernel_rfl
theorem Tryd.arrA25 : Tryd.prog.underlying 25 = some (.array (Tryd.prog.arrayLen 25) (Tryd.prog.elem 25)) := by rw [Tryd.lenA25, Tryd.elemA25]; exact Tryd.underlying25
theorem Tryd.sizeA25 (w : World) : (sizeOf (Tryd.prog.elem 25)).run Tryd.prog w = .ok 1 w := by rw [Tryd.elemA25]; kernel_rfl
theorem slice_all25 (W : World) (b : Nat) : (Instr.sliceAt 25 (.pointer (some ⟨b, 0, none⟩)) none none none).run Tryd.prog W = .ok (.slice (some ⟨b, 0, none⟩) 32 32) W := by
  rw [run_sliceAt_array_all W _ _ Tryd.arrA25, Tryd.sizeA25, Tryd.lenA25]
  simp [slicedAt, Result.andThen, addNone]

theorem mask_take_next (m : Int) (l : List Int) (j : Nat) (h : j < l.length) : mask m (l.take j) ++ [bits .xor .u8 (l.getD j 0) m] = mask m (l.take (j + 1)) := by
  have e : l.take (j + 1) = l.take j ++ [l.getD j 0] := by rw [List.take_succ_eq_append_getElem h]; simp [List.getD, h]
  unfold mask
  rw [e, List.map_append]
  rfl

theorem stD25 (w : World) (D : List Int) (hD : D.length = 32) : (stA 25 (.pointer (some ⟨w.heap.size, 0, none⟩)) (.agg (D.map (Value.int .u8)).toArray)).run Tryd.prog (w.alloc (.cells #[.int .u8 0, .int .u8 0, .int .u8 0, .int .u8 0, .int .u8 0, .int .u8 0, .int .u8 0, .int .u8 0, .int .u8 0, .int .u8 0, .int .u8 0, .int .u8 0, .int .u8 0, .int .u8 0, .int .u8 0, .int .u8 0, .int .u8 0, .int .u8 0, .int .u8 0, .int .u8 0, .int .u8 0, .int .u8 0, .int .u8 0, .int .u8 0, .int .u8 0, .int .u8 0, .int .u8 0, .int .u8 0, .int .u8 0, .int .u8 0, .int .u8 0, .int .u8 0] 25)) = .ok () (w.alloc (.cells (D.map (Value.int .u8)).toArray 25)) :=
  run_storeAt_new (P := Tryd.prog) w 25 _ (D.map (Value.int .u8)).toArray (by rw [List.size_toArray, List.length_map, hD]; exact info_25) (by simp [hD]) (all_oneCell_toArray (ints_one _ _))
theorem srcD25 {T : TypeId} {w : World} {g : Nat} {D : List Int} (hD : D.length = 32) (dD : Dg 256 D) (h : Blk T w g (D.map (Value.int .u8))) : SrcG .u8 256 w (some ⟨g, 0, none⟩) 32 32 D := blk_src h dD hD (by omega)

/-- The rows in and out while they grow by turns. -/
structure Io (W7 W : World) (vi vo : Value) (KK : List Int) (j : Nat) : Prop where
  i : OwnG .u8 5 W W7.heap.size vi (mask 54 (KK.take j))
  o : OwnG .u8 5 W W7.heap.size vo (mask 92 (KK.take j))
  ne : ∀ k, vi.ownBlock = some k → vo.ownBlock ≠ some k
  bl : Below W7.heap.size W7 W

theorem ne_some {v v' : Value} (h : ∀ k, v.ownBlock = some k → v'.ownBlock ≠ some k) : v'.ownBlock = none ∨ v'.ownBlock ≠ v.ownBlock := by
  cases hv : v'.ownBlock with
  | none => exact .inl rfl
  | some k => exact .inr fun e => h k e.symm hv

set_option maxRecDepth 100000 in
set_option maxHeartbeats 4000000 in
theorem rmac_any (a : Option Addr) (n c : Nat) (key : List Int) (ab : Option Addr) (nb cb : Nat) (bs : List Int) (w : World) (hs : SrcG .u8 256 w a n c key) (hb : SrcG .u8 256 w ab nb cb bs) (hn : n ≤ 1099511627776) (hnb : nb ≤ 1099511627000) :
    Calls Tryd.prog 12 #[.slice a n c, .slice ab nb cb] w fun e w' => e = .returned (.agg ((macD key bs).map (Value.int .u8)).toArray) ∧ Below w.heap.size w w' := by
  have HS := hide hs
  have HBs := hide hb
  have HL := hide hs.hlen
  have HKL := hide (keyOf_len key)
  have nI : (n : Int) ≤ 1099511627776 := by omega
  have HKS : Hid (n ≤ 64 → keyOf key = key ++ List.replicate (64 - n) 0) := fun h => by rw [← HL.out] at h ⊢; exact keyOf_short h
  have HKG : Hid (64 < n → keyOf key = dig key ++ List.replicate 32 0) := fun h => by rw [← HL.out] at h; exact keyOf_long h
  have HMD : Hid (macD key bs = dig (mask 92 (keyOf key) ++ dig (mask 54 (keyOf key) ++ bs))) := rfl
  generalize keyOf key = KK at *
  generalize macD key bs = MD at *
  clear hs hb
  by_cases h64 : n ≤ 64
  · have h64I : (n : Int) ≤ 64 := by omega
    have HKK := hide (HKS.out h64)
    go_enter Tryd.func12, Tryd.ntmps12
    go_upto_region 2 with (at_builtin; refine appG 22 1 Tryd.underlying22 Tryd.infoB8 _ rfl (.tmp 11) (.tmp 12) rfl (w.heap.size + 1) (.slice (some ⟨w.heap.size + 1, 0, none⟩) 0 0) [] rfl (OwnG.litAt _ _ [] _ 0 rfl rfl (by simp) (by simp) (by decide)) a n c key rfl ((HS.out.alloc _).alloc _) n (by simpa using HL.out) (.inl (by simp)) (by omega) (by omega) (by simp) ?_; intro g1 c1 w1 ho1 hb1 hl1 hc1 hm1 hg1 hat1)
    have HM0 := hide HL.out
    have HK0 : Hid (OwnG .u8 5 w1 (w.heap.size + 1) (.slice (some ⟨g1, 0, none⟩) n c1) key) := by unfold Hid; simpa using ho1
    have HG0 := hide hb1
    have HZ0 : Hid (Blk 25 w1 w.heap.size (List.replicate 32 (.int .u8 0))) := ((Blk.new w _ _ _ rfl rfl).alloc _).kept hg1 (by simp [Value.ownBlock])
    have HB0 : Hid (Below w.heap.size w w1) := (((Below.refl _ w).alloc (Nat.le_refl _) _).alloc (by simp) _).grown hg1 (by simp; omega) (fun k hk => by simp [Value.ownBlock] at hk; omega)
    clear ho1 hg1 hat1 hb1
    go_upto_region 5 with fail
    go_loopw [5] (fun v wr => ∃ (j g cc : Nat), v = .slice (some ⟨g, 0, none⟩) (n + j) cc ∧ n + j ≤ 64 ∧ Hid (OwnG .u8 5 wr (w.heap.size + 1) (.slice (some ⟨g, 0, none⟩) (n + j) cc) (key ++ List.replicate j 0)) ∧ Hid (w.heap.size + 1 ≤ g) ∧ Hid (Blk 25 wr w.heap.size (List.replicate 32 (.int .u8 0))) ∧ Hid (Below w.heap.size w wr)) (fun v _ => 64 - vLen v)
    case atStart => exact ⟨0, _, _, rfl, by omega, by simpa using HK0, HG0, HZ0, HB0⟩
    case round =>
      obtain ⟨j, g, cc, rfl, hj, HK, HG, HZ, HB⟩ := hrel
      obtain ⟨mj, hmj⟩ : ∃ mj, n + j = mj := ⟨_, rfl⟩
      rw [hmj] at HK hj ⊢
      have HMJ := hide hmj
      have mjI : (mj : Int) ≤ 64 := by omega
      clear hmj
      by_cases hlt : mj < 64
      · have hltI : (mj : Int) < 64 := by omega
        go_wp2_with (at_builtin; refine appG 22 1 Tryd.underlying22 Tryd.infoB8 _ rfl (.tmp 25) (.tmp 26) rfl (w.heap.size + 1) (.slice (some ⟨g, 0, none⟩) mj cc) (key ++ List.replicate j 0) rfl (HK.out.alloc _) (some ⟨wr.heap.size, 0, none⟩) 1 1 [0] rfl (SrcG.litAt (B := 256) [0] _ 1 _ rfl rfl (by intro x hx; simp at hx; omega) (by decide) rfl) (mj + 1) (by have := HMJ.out; have := HM0.out; simp; omega) (.inl (by simp)) (by omega) (by omega) (by have := HB.out.size; have := HZ.out.lt; simp; omega) ?_; intro g3 c3 w3 ho3 hb3 hl3 hc3 hm3 hg3 hat3)
        go_roundw
        case rel =>
          have hg := HG.out
          have hz := HZ.out.lt
          refine ⟨j + 1, g3, c3, by have := HMJ.out; rw [show n + (j + 1) = mj + 1 by omega], by have := HMJ.out; omega, ?_, hb3, ?_, ?_⟩
          · unfold Hid
            have := HMJ.out
            rw [show n + (j + 1) = mj + 1 by omega, List.replicate_succ', ← List.append_assoc]
            exact ho3
          · exact (HZ.out.alloc _).kept hg3 (by simp [Value.ownBlock]; omega)
          · exact (HB.out.alloc HB.out.size _).grown hg3 (by have := HB.out.size; simp; omega) (fun k hk => by simp [Value.ownBlock] at hk; omega)
        case measure => simp [vLen]; omega
      · obtain rfl : mj = 64 := by omega
        have eK : key ++ List.replicate j 0 = KK := by have h1 := HMJ.out; rw [HKK.out, show 64 - n = j by omega]
        rw [eK] at HK
        have HKL2 := hide HKL.out
        obtain ⟨W7, hW7⟩ : ∃ W7, W7 = wr := ⟨_, rfl⟩
        subst hW7
        have gI := HK.out.lt g rfl
        have hgl : g < W7.heap.size := gI.2
        clear gI
        go_upto_region 9 with fail
        go_loopw [7, 8, 9] (fun vi vo iv wr => ∃ (j : Nat) (ai : Option Addr) (ci : Nat) (ao' : Option Addr) (co : Nat), vi = .slice ai j ci ∧ vo = .slice ao' j co ∧ iv = .int .i64 (j : Int) ∧ j ≤ 64 ∧ Hid (Io W7 wr (.slice ai j ci) (.slice ao' j co) KK j)) (fun _ _ iv _ => 64 - (intOf iv).toNat)
        case atStart => exact ⟨0, none, 0, none, 0, rfl, rfl, rfl, by omega, ⟨OwnG.nil _ _, OwnG.nil _ _, by simp [Value.ownBlock], Below.refl _ _⟩⟩
        case round =>
          obtain ⟨t, ai, ci, ao', co, rfl, rfl, rfl, ht, HI⟩ := hrel
          have tI : (t : Int) ≤ 64 := by omega
          have HKr := hide (HK.out.belowA HI.out.bl)
          by_cases ht64 : t < 64
          · have hc0 := HKr.out.cell t (by rw [HKL.out]; exact ht64)
            obtain ⟨x, hx⟩ : ∃ x, KK.getD t 0 = x := ⟨_, rfl⟩
            rw [hx] at hc0
            have HN1 := hide (mask_take_next 54 KK t (by rw [HKL.out]; exact ht64))
            have HN2 := hide (mask_take_next 92 KK t (by rw [HKL.out]; exact ht64))
            rw [hx] at HN1 HN2
            have b1 := bits8_bd .xor x 54
            have b2 := bits8_bd .xor x 92
            obtain ⟨y1, hy1⟩ : ∃ y, bits .xor .u8 x 54 = y := ⟨_, rfl⟩
            obtain ⟨y2, hy2⟩ : ∃ y, bits .xor .u8 x 92 = y := ⟨_, rfl⟩
            rw [hy1] at b1 HN1
            rw [hy2] at b2 HN2
            have HL1 : Hid ((mask 54 (KK.take t)).length = t) := by unfold Hid; rw [mask_len, List.length_take, HKL.out]; omega
            have HL2 : Hid ((mask 92 (KK.take t)).length = t) := by unfold Hid; rw [mask_len, List.length_take, HKL.out]; omega
            have hs7 := HI.out.bl.size
            have tI2 : (t : Int) ≤ 63 := by omega
            have HXT := hide hx
            clear hx
            go_wp2_with (first | (at_builtin; refine appG 22 1 Tryd.underlying22 Tryd.infoB8 _ rfl (.tmp 32) (.tmp 38) rfl W7.heap.size (.slice ai t ci) (mask 54 (KK.take t)) rfl (HI.out.i.alloc _) (some ⟨wr.heap.size, 0, none⟩) 1 1 [y1] rfl (SrcG.litAt (B := 256) [y1] _ 1 _ rfl rfl (by intro x hx; simp at hx; omega) (by decide) rfl) (t + 1) (by rw [List.length_append, HL1.out]; rfl) (.inr (by simp)) (by omega) (by omega) (by simp; omega) ?_; intro g3 c3 w3 ho3 hb3 hl3 hc3 hm3 hg3 hat3; rw [HN1.out] at ho3; have O3 := hide ho3; have G3 := hide hg3; have A3 := hide hat3; have hz3 : wr.heap.size + 1 ≤ w3.heap.size := (by have := hg3.size; simpa using this); have B3 : Hid (Below W7.heap.size W7 w3) := (HI.out.bl.alloc HI.out.bl.size _).grown hg3 (by simp; omega) (fun k hk => (HI.out.i.lt k hk).1); have P3 := hide ((HI.out.o.alloc (.cells #[.int .u8 y1] 5)).kept hg3 (ne_some HI.out.ne)); have hc3' := (HK.out.belowA B3.out).cell t (by rw [HKL.out]; exact ht64); rw [HXT.out] at hc3'; clear ho3 hg3 hat3) | (at_builtin; refine appG 22 1 Tryd.underlying22 Tryd.infoB8 _ rfl (.tmp 40) (.tmp 46) rfl W7.heap.size (.slice ao' t co) (mask 92 (KK.take t)) rfl (P3.out.alloc _) (some ⟨w3.heap.size, 0, none⟩) 1 1 [y2] rfl (SrcG.litAt (B := 256) [y2] _ 1 _ rfl rfl (by intro x hx; simp at hx; omega) (by decide) rfl) (t + 1) (by rw [List.length_append, HL2.out]; rfl) (.inr (by simp)) (by omega) (by omega) (by simp; omega) ?_; intro g4 c4 w4 ho4 hb4 hl4 hc4 hm4 hg4 hat4; rw [HN2.out] at ho4; have O4 := hide ho4; have G4 := hide hg4; have A4 := hide hat4; clear ho4 hg4 hat4))
            have hne3 : ∀ k, (Value.slice ao' t co).ownBlock = some k → k ≠ g3 := by
              intro k hk e
              subst e
              rcases A3.out with h | h
              · exact HI.out.ne k h hk
              · have h1 := (HI.out.o.lt k hk).2
                simp at h
                omega
            have N4 : Hid (Io W7 w4 (.slice (some ⟨g3, 0, none⟩) (t + 1) c3) (.slice (some ⟨g4, 0, none⟩) (t + 1) c4) KK (t + 1)) := by
              refine ⟨(O3.out.alloc _).kept G4.out (.inr fun e => hne3 g3 e.symm rfl), O4.out, ?_, ?_⟩
              · intro k hk e
                simp [Value.ownBlock] at hk e
                subst hk
                rcases A4.out with h | h
                · exact hne3 g4 h e
                · simp at h
                  omega
              · exact (B3.out.alloc B3.out.size _).grown G4.out (by have := B3.out.size; simp; omega) (fun k hk => (HI.out.o.lt k hk).1)
            go_roundw
            case rel => exact ⟨t + 1, some ⟨g3, 0, none⟩, c3, some ⟨g4, 0, none⟩, c4, rfl, rfl, by go_num, by omega, N4⟩
            case measure => simp [intOf]; omega
          · obtain rfl : t = 64 := by omega
            have HI2 : Hid (OwnG .u8 5 wr W7.heap.size (.slice ai 64 ci) (mask 54 KK) ∧ OwnG .u8 5 wr W7.heap.size (.slice ao' 64 co) (mask 92 KK)) := by
              have h1 := HI.out.i
              have h2 := HI.out.o
              rw [List.take_of_length_le (by rw [HKL.out]; exact Nat.le_refl _)] at h1 h2
              exact ⟨h1, h2⟩
            have HL1 : Hid ((mask 54 KK).length = 64) := by unfold Hid; rw [mask_len, HKL.out]
            have HL2 : Hid ((mask 92 KK).length = 64) := by unfold Hid; rw [mask_len, HKL.out]
            have HD1 := hide (mask_dg 54 KK)
            have HD2 := hide (mask_dg 92 KK)
            have HBw : Hid (Below w.heap.size w wr) := HB.out.trans (HI.out.bl.mono HB.out.size)
            have HSb := hide (HBs.out.below HBw.out)
            have hs7 := HI.out.bl.size
            obtain ⟨N5, hN5⟩ : ∃ N5, 64 + nb = N5 := ⟨_, rfl⟩
            have HN5 := hide hN5
            have N5b : N5 ≤ 1099511627100 := by omega
            have HX5 : Hid (Dg 256 (mask 54 KK ++ bs)) := HD1.out.append HBs.out.hdg
            have HDL := hide (dig_len (mask 54 KK ++ bs))
            have HDD := hide (dig_dg (mask 54 KK ++ bs))
            obtain ⟨D, hD⟩ : ∃ D, dig (mask 54 KK ++ bs) = D := ⟨_, rfl⟩
            have HDe := hide hD
            rw [hD] at HDL HDD
            have hone : ∀ v ∈ D.map (Value.int .u8), v.oneCell' = true := ints_one _ _
            have hsl := slice_all25
            clear hN5 hD
            go_upto_region 14 with (first | (at_builtin; refine appG 22 1 Tryd.underlying22 Tryd.infoB8 _ rfl (.tmp 48) (.tmp 49) rfl W7.heap.size (.slice ai 64 ci) (mask 54 KK) rfl HI2.out.1 ab nb cb bs rfl HSb.out N5 (by rw [List.length_append, HL1.out, HSb.out.hlen]; exact HN5.out) (.inl (by simp)) (by omega) (by omega) hs7 ?_; intro g5 c5 w5 ho5 hb5 hl5 hc5 hm5 hg5 hat5; have S5 := hide (ho5.toSrc HX5.out); have B5 : Hid (Below W7.heap.size W7 w5) := HI.out.bl.grown hg5 hs7 (fun k hk => (HI.out.i.lt k hk).1); have P5 := hide (HI2.out.2.kept hg5 (ne_some HI.out.ne)); clear ho5 hg5 hat5) | (go_at_call 9; refine (refSum_any _ N5 c5 _ _ S5.out (by omega)).mono ?_; rintro e w6 ⟨rfl, LB⟩; rw [HDe.out]; have B6 : Hid (Below W7.heap.size W7 w6) := B5.out.trans (LB.mono B5.out.size); have P6 := hide (P5.out.belowA LB); clear LB; have hst6 := stD25 w6 D HDL.out))
            have P7 := hide (P6.out.alloc (.cells (D.map (Value.int .u8)).toArray 25))
            have K7 := hide (Blk.new (T := 25) w6 (D.map (Value.int .u8)) _ _ rfl rfl)
            have B7 : Hid (Below W7.heap.size W7 (w6.alloc (.cells (D.map (Value.int .u8)).toArray 25))) := B6.out.alloc B6.out.size _
            have hs6 := B6.out.size
            generalize hLD : D.map (Value.int .u8) = LD at *
            generalize w6.alloc (.cells LD.toArray 25) = V7 at P7 K7 B7 ⊢
            have S7 : Hid (SrcG .u8 256 V7 (some ⟨w6.heap.size, 0, none⟩) 32 32 D) := by rw [← hLD] at K7; exact srcD25 HDL.out HDD.out K7.out
            have HX7 : Hid (Dg 256 (mask 92 KK ++ D)) := HD2.out.append HDD.out
            have HDL2 := hide (dig_len (mask 92 KK ++ D))
            have HMe : Hid (dig (mask 92 KK ++ D) = MD) := by unfold Hid; rw [HMD.out, HDe.out]
            rw [HMe.out] at HDL2
            generalize w6.heap.size = g6 at *
            clear hst6
            go_wp2_with (first | (at_builtin; refine appG 22 1 Tryd.underlying22 Tryd.infoB8 _ rfl (.tmp 52) (.tmp 53) rfl W7.heap.size (.slice ao' 64 co) (mask 92 KK) rfl P7.out (some ⟨g6, 0, none⟩) 32 32 D rfl S7.out 96 (by rw [List.length_append, HL2.out, HDL.out]) (.inl (by simp)) (by omega) (by omega) B7.out.size ?_; intro g8 c8 w8 ho8 hb8 hl8 hc8 hm8 hg8 hat8; have S8 := hide (ho8.toSrc HX7.out); have B8 : Hid (Below W7.heap.size W7 w8) := B7.out.grown hg8 B7.out.size (fun k hk => (HI.out.o.lt k hk).1); clear ho8 hg8 hat8) | (go_at_call 9; refine (refSum_any _ 96 c8 _ _ S8.out (by omega)).mono ?_; rintro e w9 ⟨rfl, LB⟩; rw [HMe.out]; have B9 : Hid (Below W7.heap.size W7 w9) := B8.out.trans (LB.mono B8.out.size); clear LB; have Z9 := hide (HZ.out.below B9.out); have hi9 : (Tryd.prog.info? 25).map (·.size) = some (MD.map (Value.int .u8)).length := (by rw [List.length_map, HDL2.out]; exact info_25); have HI9 := hide hi9; have hst9 : (stA 25 (.pointer (some ⟨w.heap.size, 0, none⟩)) (.agg (MD.map (Value.int .u8)).toArray)).run Tryd.prog w9 = .ok () (w9.setCells w.heap.size 0 (MD.map (Value.int .u8))) := stA_all hi9 Z9.out (by simp [HDL2.out]) (ints_one _ _); clear hi9))
            have BF : Below w.heap.size w w9 := HB.out.trans (B9.out.mono HB.out.size)
            refine bodyPost_ret (v := .agg (MD.map (Value.int .u8)).toArray) ?_ rfl ⟨rfl, below_sets BF (Nat.le_refl _) BF.size _ _⟩
            refine results_one (T := 25) (X := MD.map (Value.int .u8)) (p := 4) (ty := 25) (g := w.heap.size) (by kernel_rfl) _ _ rfl Tryd.underlying25 rfl HI9.out ?_
            have e := Blk.sets (MD.map (Value.int .u8)) 0 _ w9 Z9.out (by simp [HDL2.out])
            simp [HDL2.out] at e
            exact e
  · have h64I : (64 : Int) < (n : Int) := by omega
    have h64N : ¬ (n : Int) ≤ 64 := by omega
    have HKK0 := hide (HKG.out (by omega))
    have HDk := hide (dig_len key)
    have HDd := hide (dig_dg key)
    have HKK : Hid (KK = dig key ++ List.replicate (64 - 32) 0) := HKK0.out
    have HSD : Hid (∀ a2 c2 W, SrcG .u8 256 W a2 n c2 key → Calls Tryd.prog 9 #[.slice a2 n c2] W fun e w' => e = .returned (.agg ((dig key).map (Value.int .u8)).toArray) ∧ Below W.heap.size W w') := fun a2 c2 W h => refSum_any a2 n c2 key W h hn
    have hsl := slice_all25
    generalize dig key = DK at *
    have hone : ∀ v ∈ DK.map (Value.int .u8), v.oneCell' = true := ints_one _ _
    go_enter Tryd.func12, Tryd.ntmps12
    go_upto_region 4 with (first | (at_builtin; refine appG 22 1 Tryd.underlying22 Tryd.infoB8 _ rfl (.tmp 11) (.tmp 12) rfl (w.heap.size + 1) (.slice (some ⟨w.heap.size + 1, 0, none⟩) 0 0) [] rfl (OwnG.litAt _ _ [] _ 0 rfl rfl (by simp) (by simp) (by decide)) a n c key rfl ((HS.out.alloc _).alloc _) n (by simpa using HL.out) (.inl (by simp)) (by omega) (by omega) (by simp) ?_; intro g1 c1 w1 ho1 hb1 hl1 hc1 hm1 hg1 hat1; have S1 : Hid (SrcG .u8 256 w1 (some ⟨g1, 0, none⟩) n c1 key) := (by unfold Hid; have h9 := ho1.toSrc (B := 256) (by simpa using HS.out.hdg); simpa using h9); have Z1 : Hid (Blk 25 w1 w.heap.size (List.replicate 32 (.int .u8 0))) := ((Blk.new w _ _ _ rfl rfl).alloc _).kept hg1 (by simp [Value.ownBlock]); have B1 : Hid (Below w.heap.size w w1) := (((Below.refl _ w).alloc (Nat.le_refl _) _).alloc (by simp) _).grown hg1 (by simp; omega) (fun k hk => by simp [Value.ownBlock] at hk; omega); clear ho1 hg1 hat1) | (go_at_call 9; refine (HSD.out _ c1 _ S1.out).mono ?_; rintro e w2 ⟨rfl, LB⟩; have Z2 := hide (Z1.out.below LB); have B2 : Hid (Below w.heap.size w w2) := B1.out.trans (LB.mono B1.out.size); clear LB; have hst2 := stD25 w2 DK HDk.out))
    have Z3 := hide (Z2.out.alloc (.cells (DK.map (Value.int .u8)).toArray 25))
    have K3 := hide (Blk.new (T := 25) w2 (DK.map (Value.int .u8)) _ _ rfl rfl)
    have B3 : Hid (Below w.heap.size w (w2.alloc (.cells (DK.map (Value.int .u8)).toArray 25))) := B2.out.alloc B2.out.size _
    have S3 := hide (srcD25 HDk.out HDd.out K3.out)
    have hz2 := Z2.out.lt
    have hz3 : (w2.alloc (.cells (DK.map (Value.int .u8)).toArray 25)).heap.size = w2.heap.size + 1 := by simp
    generalize hLD : DK.map (Value.int .u8) = LD at *
    generalize w2.alloc (.cells LD.toArray 25) = V3 at Z3 K3 B3 S3 hz3 ⊢
    have HZ3 := hide hz3
    generalize w2.heap.size = g2 at *
    clear hst2 hz3
    go_upto_region 5 with (at_builtin; refine appG 22 1 Tryd.underlying22 Tryd.infoB8 _ rfl (.tmp 19) (.tmp 20) rfl (w.heap.size + 1) (.slice (some ⟨V3.heap.size, 0, none⟩) 0 0) [] rfl (OwnG.litAt _ _ [] _ 0 rfl rfl rfl (by have := HZ3.out; omega) (by decide)) (some ⟨g2, 0, none⟩) 32 32 DK rfl (S3.out.alloc _) 32 (by simpa using HDk.out) (.inl (by simp)) (by omega) (by omega) (by have := HZ3.out; simp; omega) ?_; intro g4 c4 w4 ho4 hb4 hl4 hc4 hm4 hg4 hat4)
    have HM0 := hide HDk.out
    have HK0 : Hid (OwnG .u8 5 w4 (w.heap.size + 1) (.slice (some ⟨g4, 0, none⟩) 32 c4) DK) := by unfold Hid; simpa using ho4
    have HG0 := hide hb4
    have HZ0 : Hid (Blk 25 w4 w.heap.size (List.replicate 32 (.int .u8 0))) := (Z3.out.alloc _).kept hg4 (by have := Z3.out.lt; simp [Value.ownBlock]; omega)
    have HB0 : Hid (Below w.heap.size w w4) := (B3.out.alloc B3.out.size _).grown hg4 (by have := B3.out.size; simp; omega) (by intro k hk; cases hk; exact B3.out.size)
    clear ho4 hg4 hat4 hb4 hLD
    go_upto_region 5 with fail
    go_loopw [5] (fun v wr => ∃ (j g cc : Nat), v = .slice (some ⟨g, 0, none⟩) (32 + j) cc ∧ 32 + j ≤ 64 ∧ Hid (OwnG .u8 5 wr (w.heap.size + 1) (.slice (some ⟨g, 0, none⟩) (32 + j) cc) (DK ++ List.replicate j 0)) ∧ Hid (w.heap.size + 1 ≤ g) ∧ Hid (Blk 25 wr w.heap.size (List.replicate 32 (.int .u8 0))) ∧ Hid (Below w.heap.size w wr)) (fun v _ => 64 - vLen v)
    case atStart => exact ⟨0, _, _, rfl, by omega, by simpa using HK0, HG0, HZ0, HB0⟩
    case round =>
      obtain ⟨j, g, cc, rfl, hj, HK, HG, HZ, HB⟩ := hrel
      obtain ⟨mj, hmj⟩ : ∃ mj, 32 + j = mj := ⟨_, rfl⟩
      rw [hmj] at HK hj ⊢
      have HMJ := hide hmj
      have mjI : (mj : Int) ≤ 64 := by omega
      clear hmj
      by_cases hlt : mj < 64
      · have hltI : (mj : Int) < 64 := by omega
        go_wp2_with (at_builtin; refine appG 22 1 Tryd.underlying22 Tryd.infoB8 _ rfl (.tmp 25) (.tmp 26) rfl (w.heap.size + 1) (.slice (some ⟨g, 0, none⟩) mj cc) (DK ++ List.replicate j 0) rfl (HK.out.alloc _) (some ⟨wr.heap.size, 0, none⟩) 1 1 [0] rfl (SrcG.litAt (B := 256) [0] _ 1 _ rfl rfl (by intro x hx; simp at hx; omega) (by decide) rfl) (mj + 1) (by have := HMJ.out; have := HM0.out; simp; omega) (.inl (by simp)) (by omega) (by omega) (by have := HB.out.size; have := HZ.out.lt; simp; omega) ?_; intro g3 c3 w3 ho3 hb3 hl3 hc3 hm3 hg3 hat3)
        go_roundw
        case rel =>
          have hg := HG.out
          have hz := HZ.out.lt
          refine ⟨j + 1, g3, c3, by have := HMJ.out; rw [show 32 + (j + 1) = mj + 1 by omega], by have := HMJ.out; omega, ?_, hb3, ?_, ?_⟩
          · unfold Hid
            have := HMJ.out
            rw [show 32 + (j + 1) = mj + 1 by omega, List.replicate_succ', ← List.append_assoc]
            exact ho3
          · exact (HZ.out.alloc _).kept hg3 (by simp [Value.ownBlock]; omega)
          · exact (HB.out.alloc HB.out.size _).grown hg3 (by have := HB.out.size; simp; omega) (fun k hk => by simp [Value.ownBlock] at hk; omega)
        case measure => simp [vLen]; omega
      · obtain rfl : mj = 64 := by omega
        have eK : DK ++ List.replicate j 0 = KK := by have h1 := HMJ.out; rw [HKK.out, show 64 - 32 = j by omega]
        rw [eK] at HK
        have HKL2 := hide HKL.out
        obtain ⟨W7, hW7⟩ : ∃ W7, W7 = wr := ⟨_, rfl⟩
        subst hW7
        have gI := HK.out.lt g rfl
        have hgl : g < W7.heap.size := gI.2
        clear gI
        go_upto_region 9 with fail
        go_loopw [7, 8, 9] (fun vi vo iv wr => ∃ (j : Nat) (ai : Option Addr) (ci : Nat) (ao' : Option Addr) (co : Nat), vi = .slice ai j ci ∧ vo = .slice ao' j co ∧ iv = .int .i64 (j : Int) ∧ j ≤ 64 ∧ Hid (Io W7 wr (.slice ai j ci) (.slice ao' j co) KK j)) (fun _ _ iv _ => 64 - (intOf iv).toNat)
        case atStart => exact ⟨0, none, 0, none, 0, rfl, rfl, rfl, by omega, ⟨OwnG.nil _ _, OwnG.nil _ _, by simp [Value.ownBlock], Below.refl _ _⟩⟩
        case round =>
          obtain ⟨t, ai, ci, ao', co, rfl, rfl, rfl, ht, HI⟩ := hrel
          have tI : (t : Int) ≤ 64 := by omega
          have HKr := hide (HK.out.belowA HI.out.bl)
          by_cases ht64 : t < 64
          · have hc0 := HKr.out.cell t (by rw [HKL.out]; exact ht64)
            obtain ⟨x, hx⟩ : ∃ x, KK.getD t 0 = x := ⟨_, rfl⟩
            rw [hx] at hc0
            have HN1 := hide (mask_take_next 54 KK t (by rw [HKL.out]; exact ht64))
            have HN2 := hide (mask_take_next 92 KK t (by rw [HKL.out]; exact ht64))
            rw [hx] at HN1 HN2
            have b1 := bits8_bd .xor x 54
            have b2 := bits8_bd .xor x 92
            obtain ⟨y1, hy1⟩ : ∃ y, bits .xor .u8 x 54 = y := ⟨_, rfl⟩
            obtain ⟨y2, hy2⟩ : ∃ y, bits .xor .u8 x 92 = y := ⟨_, rfl⟩
            rw [hy1] at b1 HN1
            rw [hy2] at b2 HN2
            have HL1 : Hid ((mask 54 (KK.take t)).length = t) := by unfold Hid; rw [mask_len, List.length_take, HKL.out]; omega
            have HL2 : Hid ((mask 92 (KK.take t)).length = t) := by unfold Hid; rw [mask_len, List.length_take, HKL.out]; omega
            have hs7 := HI.out.bl.size
            have tI2 : (t : Int) ≤ 63 := by omega
            have HXT := hide hx
            clear hx
            go_wp2_with (first | (at_builtin; refine appG 22 1 Tryd.underlying22 Tryd.infoB8 _ rfl (.tmp 32) (.tmp 38) rfl W7.heap.size (.slice ai t ci) (mask 54 (KK.take t)) rfl (HI.out.i.alloc _) (some ⟨wr.heap.size, 0, none⟩) 1 1 [y1] rfl (SrcG.litAt (B := 256) [y1] _ 1 _ rfl rfl (by intro x hx; simp at hx; omega) (by decide) rfl) (t + 1) (by rw [List.length_append, HL1.out]; rfl) (.inr (by simp)) (by omega) (by omega) (by simp; omega) ?_; intro g3 c3 w3 ho3 hb3 hl3 hc3 hm3 hg3 hat3; rw [HN1.out] at ho3; have O3 := hide ho3; have G3 := hide hg3; have A3 := hide hat3; have hz3 : wr.heap.size + 1 ≤ w3.heap.size := (by have := hg3.size; simpa using this); have B3 : Hid (Below W7.heap.size W7 w3) := (HI.out.bl.alloc HI.out.bl.size _).grown hg3 (by simp; omega) (fun k hk => (HI.out.i.lt k hk).1); have P3 := hide ((HI.out.o.alloc (.cells #[.int .u8 y1] 5)).kept hg3 (ne_some HI.out.ne)); have hc3' := (HK.out.belowA B3.out).cell t (by rw [HKL.out]; exact ht64); rw [HXT.out] at hc3'; clear ho3 hg3 hat3) | (at_builtin; refine appG 22 1 Tryd.underlying22 Tryd.infoB8 _ rfl (.tmp 40) (.tmp 46) rfl W7.heap.size (.slice ao' t co) (mask 92 (KK.take t)) rfl (P3.out.alloc _) (some ⟨w3.heap.size, 0, none⟩) 1 1 [y2] rfl (SrcG.litAt (B := 256) [y2] _ 1 _ rfl rfl (by intro x hx; simp at hx; omega) (by decide) rfl) (t + 1) (by rw [List.length_append, HL2.out]; rfl) (.inr (by simp)) (by omega) (by omega) (by simp; omega) ?_; intro g4 c4 w4 ho4 hb4 hl4 hc4 hm4 hg4 hat4; rw [HN2.out] at ho4; have O4 := hide ho4; have G4 := hide hg4; have A4 := hide hat4; clear ho4 hg4 hat4))
            have hne3 : ∀ k, (Value.slice ao' t co).ownBlock = some k → k ≠ g3 := by
              intro k hk e
              subst e
              rcases A3.out with h | h
              · exact HI.out.ne k h hk
              · have h1 := (HI.out.o.lt k hk).2
                simp at h
                omega
            have N4 : Hid (Io W7 w4 (.slice (some ⟨g3, 0, none⟩) (t + 1) c3) (.slice (some ⟨g4, 0, none⟩) (t + 1) c4) KK (t + 1)) := by
              refine ⟨(O3.out.alloc _).kept G4.out (.inr fun e => hne3 g3 e.symm rfl), O4.out, ?_, ?_⟩
              · intro k hk e
                simp [Value.ownBlock] at hk e
                subst hk
                rcases A4.out with h | h
                · exact hne3 g4 h e
                · simp at h
                  omega
              · exact (B3.out.alloc B3.out.size _).grown G4.out (by have := B3.out.size; simp; omega) (fun k hk => (HI.out.o.lt k hk).1)
            go_roundw
            case rel => exact ⟨t + 1, some ⟨g3, 0, none⟩, c3, some ⟨g4, 0, none⟩, c4, rfl, rfl, by go_num, by omega, N4⟩
            case measure => simp [intOf]; omega
          · obtain rfl : t = 64 := by omega
            have HI2 : Hid (OwnG .u8 5 wr W7.heap.size (.slice ai 64 ci) (mask 54 KK) ∧ OwnG .u8 5 wr W7.heap.size (.slice ao' 64 co) (mask 92 KK)) := by
              have h1 := HI.out.i
              have h2 := HI.out.o
              rw [List.take_of_length_le (by rw [HKL.out]; exact Nat.le_refl _)] at h1 h2
              exact ⟨h1, h2⟩
            have HL1 : Hid ((mask 54 KK).length = 64) := by unfold Hid; rw [mask_len, HKL.out]
            have HL2 : Hid ((mask 92 KK).length = 64) := by unfold Hid; rw [mask_len, HKL.out]
            have HD1 := hide (mask_dg 54 KK)
            have HD2 := hide (mask_dg 92 KK)
            have HBw : Hid (Below w.heap.size w wr) := HB.out.trans (HI.out.bl.mono HB.out.size)
            have HSb := hide (HBs.out.below HBw.out)
            have hs7 := HI.out.bl.size
            obtain ⟨N5, hN5⟩ : ∃ N5, 64 + nb = N5 := ⟨_, rfl⟩
            have HN5 := hide hN5
            have N5b : N5 ≤ 1099511627100 := by omega
            have HX5 : Hid (Dg 256 (mask 54 KK ++ bs)) := HD1.out.append HBs.out.hdg
            have HDL := hide (dig_len (mask 54 KK ++ bs))
            have HDD := hide (dig_dg (mask 54 KK ++ bs))
            obtain ⟨D, hD⟩ : ∃ D, dig (mask 54 KK ++ bs) = D := ⟨_, rfl⟩
            have HDe := hide hD
            rw [hD] at HDL HDD
            have hone : ∀ v ∈ D.map (Value.int .u8), v.oneCell' = true := ints_one _ _
            have hsl := slice_all25
            clear hN5 hD
            go_upto_region 14 with (first | (at_builtin; refine appG 22 1 Tryd.underlying22 Tryd.infoB8 _ rfl (.tmp 48) (.tmp 49) rfl W7.heap.size (.slice ai 64 ci) (mask 54 KK) rfl HI2.out.1 ab nb cb bs rfl HSb.out N5 (by rw [List.length_append, HL1.out, HSb.out.hlen]; exact HN5.out) (.inl (by simp)) (by omega) (by omega) hs7 ?_; intro g5 c5 w5 ho5 hb5 hl5 hc5 hm5 hg5 hat5; have S5 := hide (ho5.toSrc HX5.out); have B5 : Hid (Below W7.heap.size W7 w5) := HI.out.bl.grown hg5 hs7 (fun k hk => (HI.out.i.lt k hk).1); have P5 := hide (HI2.out.2.kept hg5 (ne_some HI.out.ne)); clear ho5 hg5 hat5) | (go_at_call 9; refine (refSum_any _ N5 c5 _ _ S5.out (by omega)).mono ?_; rintro e w6 ⟨rfl, LB⟩; rw [HDe.out]; have B6 : Hid (Below W7.heap.size W7 w6) := B5.out.trans (LB.mono B5.out.size); have P6 := hide (P5.out.belowA LB); clear LB; have hst6 := stD25 w6 D HDL.out))
            have P7 := hide (P6.out.alloc (.cells (D.map (Value.int .u8)).toArray 25))
            have K7 := hide (Blk.new (T := 25) w6 (D.map (Value.int .u8)) _ _ rfl rfl)
            have B7 : Hid (Below W7.heap.size W7 (w6.alloc (.cells (D.map (Value.int .u8)).toArray 25))) := B6.out.alloc B6.out.size _
            have hs6 := B6.out.size
            generalize hLD : D.map (Value.int .u8) = LD at *
            generalize w6.alloc (.cells LD.toArray 25) = V7 at P7 K7 B7 ⊢
            have S7 : Hid (SrcG .u8 256 V7 (some ⟨w6.heap.size, 0, none⟩) 32 32 D) := by rw [← hLD] at K7; exact srcD25 HDL.out HDD.out K7.out
            have HX7 : Hid (Dg 256 (mask 92 KK ++ D)) := HD2.out.append HDD.out
            have HDL2 := hide (dig_len (mask 92 KK ++ D))
            have HMe : Hid (dig (mask 92 KK ++ D) = MD) := by unfold Hid; rw [HMD.out, HDe.out]
            rw [HMe.out] at HDL2
            generalize w6.heap.size = g6 at *
            clear hst6
            go_wp2_with (first | (at_builtin; refine appG 22 1 Tryd.underlying22 Tryd.infoB8 _ rfl (.tmp 52) (.tmp 53) rfl W7.heap.size (.slice ao' 64 co) (mask 92 KK) rfl P7.out (some ⟨g6, 0, none⟩) 32 32 D rfl S7.out 96 (by rw [List.length_append, HL2.out, HDL.out]) (.inl (by simp)) (by omega) (by omega) B7.out.size ?_; intro g8 c8 w8 ho8 hb8 hl8 hc8 hm8 hg8 hat8; have S8 := hide (ho8.toSrc HX7.out); have B8 : Hid (Below W7.heap.size W7 w8) := B7.out.grown hg8 B7.out.size (fun k hk => (HI.out.o.lt k hk).1); clear ho8 hg8 hat8) | (go_at_call 9; refine (refSum_any _ 96 c8 _ _ S8.out (by omega)).mono ?_; rintro e w9 ⟨rfl, LB⟩; rw [HMe.out]; have B9 : Hid (Below W7.heap.size W7 w9) := B8.out.trans (LB.mono B8.out.size); clear LB; have Z9 := hide (HZ.out.below B9.out); have hi9 : (Tryd.prog.info? 25).map (·.size) = some (MD.map (Value.int .u8)).length := (by rw [List.length_map, HDL2.out]; exact info_25); have HI9 := hide hi9; have hst9 : (stA 25 (.pointer (some ⟨w.heap.size, 0, none⟩)) (.agg (MD.map (Value.int .u8)).toArray)).run Tryd.prog w9 = .ok () (w9.setCells w.heap.size 0 (MD.map (Value.int .u8))) := stA_all hi9 Z9.out (by simp [HDL2.out]) (ints_one _ _); clear hi9))
            have BF : Below w.heap.size w w9 := HB.out.trans (B9.out.mono HB.out.size)
            refine bodyPost_ret (v := .agg (MD.map (Value.int .u8)).toArray) ?_ rfl ⟨rfl, below_sets BF (Nat.le_refl _) BF.size _ _⟩
            refine results_one (T := 25) (X := MD.map (Value.int .u8)) (p := 4) (ty := 25) (g := w.heap.size) (by kernel_rfl) _ _ rfl Tryd.underlying25 rfl HI9.out ?_
            have e := Blk.sets (MD.map (Value.int .u8)) 0 _ w9 Z9.out (by simp [HDL2.out])
            simp [HDL2.out] at e
            exact e

end Go.Proofs.YtgajejomibnghaaDoor
