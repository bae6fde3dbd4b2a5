/-
  The statement ShaKeys: its walk.
-/
import Derived.Test.YtgajejomibnghaaDoorSaRMac
import Derived.Test.YtgajejomibnghaaDoorSaJoin
import Derived.Test.YtgajejomibnghaaDoorSaL2
import Derived.Deep.DeepCutAuto
namespace Go.Proofs.YtgajejomibnghaaDoor
open Go.RowKit Go.IntWalk

def neD (x y : Value) : Sem Value := binOp .neq 26 x y
theorem ne_dig (x y : Value) : binOp .neq 26 x y = neD x y := rfl
theorem neD_same (xs : List Int) (hx : xs.length = 32) (w : World) : (neD (.agg (xs.map (Value.int .u8)).toArray) (.agg (xs.map (Value.int .u8)).toArray)).run Tryd.prog w = .ok (.bool false) w := by
  unfold neD
  rw [run_neq_struct, run_equalIn_same 9998 26 5 32 Tryd.underlying26 Tryd.underlying5 (fun w => by kernel_rfl) xs hx w]
  rfl
attribute [local go_sem ↓] ld_words ld_part ld_sched ld_hash ld_dig ld_arr st_words st_part st_sched st_hash st_dig st_arr ix_words bd_hash bd_keyed bd_dig eq_dig ne_dig

theorem Pcs0.take {w : World} {po : Option Addr} {pn : Nat} {ls : List (List Int)} (h : Pcs0 w po pn ls) (k : Nat) (hk : k ≤ pn) : Pcs0 w po k (ls.take k) := by
  refine ⟨by rw [List.length_take, h.len]; omega, fun hp => ?_⟩
  obtain ⟨b, off, he, hr⟩ := h.row (by omega)
  refine ⟨b, off, he, fun i hi => ?_⟩
  obtain ⟨a, n, c, h1, h2⟩ := hr i (by omega)
  exact ⟨a, n, c, h1, by simpa [List.getD, List.getElem?_take, hi] using h2⟩

theorem src_none (w : World) : SrcG .u8 256 w none 0 0 [] := ⟨rfl, Nat.le_refl _, by decide, fun _ => ⟨rfl, rfl⟩, fun h => absurd rfl h, by intro x hx; simp at hx⟩
theorem below_drewS {n : Nat} {w V : World} (h : Below n w V) : Below n w V.drew := ⟨h.os, h.tape, h.output, h.size, h.block⟩
theorem drew_below (w : World) : Below w.heap.size w w.drew := ⟨rfl, rfl, rfl, Nat.le_refl _, fun _ _ => rfl⟩

set_option maxRecDepth 100000 in
set_option maxHeartbeats 4000000 in
theorem keys_walk (a : Option Addr) (n c : Nat) (key : List Int) (po : Option Addr) (pn pc : Nat) (ls : List (List Int)) (w : World) (hT : Tabs w) (hs : SrcG .u8 256 w a n c key) (hP : Pcs0 w po pn ls) (hpc : pn ≤ pc) (hn : n ≤ 1048576) (hpn : pn ≤ 1048576) (hb : ls.flatten.length ≤ 1048576) :
    Calls Tryd.prog 5 #[.slice a n c, .slice po pn pc] w fun e w' => e = .returned (.bool true) ∧ Below w.heap.size w w' := by
  have HS := hide hs
  have HL := hide hs.hlen
  have HT := hide hT
  have HLt := hide hT.lt
  have HP := hide hP
  have HFb := hide hb
  have nI : (n : Int) ≤ 1048576 := by omega
  have pI : (pn : Int) ≤ 1048576 := by omega
  have pcI : (pn : Int) ≤ (pc : Int) := by omega
  have hone : ∀ k : Nat, ∀ v ∈ (macD key (ls.take k).flatten).map (Value.int .u8), v.oneCell' = true := fun k => ints_one _ _
  have HKL := hide (keyOf_len key)
  have HMM : Hid (∀ k, dig (mask 92 (keyOf key) ++ dig (mask 54 (keyOf key) ++ (ls.take k).flatten)) = macD key (ls.take k).flatten) := fun k => rfl
  have HZL : Hid ((mask 92 (keyOf key)).length ≤ 1000) := by unfold Hid; rw [mask_len, HKL.out]; omega
  have HYL : Hid (∀ k, (mask 54 (keyOf key) ++ (ls.take k).flatten).length ≤ 1048640) := fun k => by
    rw [List.length_append, mask_len, HKL.out]
    have := flat_le ls k
    have := HFb.out
    omega
  have HYN : Hid (∀ k, k < ls.length → mask 54 (keyOf key) ++ (ls.take k).flatten ++ [ls.getD k []].flatten = mask 54 (keyOf key) ++ (ls.take (k + 1)).flatten) := fun k hk => by
    rw [flat_take ls k hk, List.append_assoc]
    simp
  have HMQ : Hid (∀ k W, (neD (.agg ((macD key (ls.take k).flatten).map (Value.int .u8)).toArray) (.agg ((macD key (ls.take k).flatten).map (Value.int .u8)).toArray)).run Tryd.prog W = .ok (.bool false) W) := fun k W => neD_same _ (macD_len _ _) W
  have HRM : Hid (∀ k aj N cj W, (ls.take k).flatten.length = N → SrcG .u8 256 W a n c key → SrcG .u8 256 W aj N cj (ls.take k).flatten → Calls Tryd.prog 12 #[.slice a n c, .slice aj N cj] W fun e w' => e = .returned (.agg ((macD key (ls.take k).flatten).map (Value.int .u8)).toArray) ∧ Below W.heap.size W w') := fun k aj N cj W hN h1 h2 => rmac_any a n c key aj N cj _ W h1 h2 (by omega) (by have := flat_le ls k; have := HFb.out; omega)
  have HLL := hide hP.len
  have HKY : Hid (∀ a1 c1 W, SrcG .u8 256 W a1 n c1 key → Tabs W → Calls Tryd.prog 19 #[.slice a1 n c1] W fun e w' => e = .returned (.pointer (some ⟨W.heap.size + 1 + 1, 0, none⟩)) ∧ Ks w' (W.heap.size + 1 + 1) (mask 54 (keyOf key)) (mask 92 (keyOf key)) ∧ Below W.heap.size W w') := fun a1 c1 W h h2 => key_any a1 n c1 key W h (by omega) h2
  clear hs hT hP hb hone
  generalize hM0 : macD key = MD at *
  generalize mask 92 (keyOf key) = Z0 at *
  generalize mask 54 (keyOf key) = Y0 at *
  go_enter Tryd.func5, Tryd.ntmps5
  go_upto_region 2 with (at_builtin; refine appG 22 1 Tryd.underlying22 Tryd.infoB8 _ rfl (.tmp 9) (.tmp 10) rfl w.heap.size (.slice (some ⟨w.heap.size, 0, none⟩) 0 0) [] rfl (OwnG.lit _ [] _ 0 rfl rfl (Nat.le_refl _) (by decide)) a n c key rfl (HS.out.alloc _) n (by simpa using HL.out) (.inl (by simp)) (by omega) (by omega) (by simp) ?_; intro g1 c1 w1 ho1 hb1 hl1 hc1 hm1 hg1 hat1)
  have B1 : Hid (Below w.heap.size w w1) := ((Below.refl _ w).alloc (Nat.le_refl _) _).grown hg1 (by simp) (fun k hk => by simp [Value.ownBlock] at hk; omega)
  have O1 : Hid (OwnG .u8 5 w1 w.heap.size (.slice (some ⟨g1, 0, none⟩) n c1) key) := by unfold Hid; simpa using ho1
  have S1 := hide (O1.out.toSrc (B := 256) HS.out.hdg)
  clear ho1 hg1 hat1
  go_wp2_with fail
  refine (HKY.out _ c1 _ S1.out (HT.out.below B1.out (by have := HLt.out; omega))).mono ?_
  rintro e w2 ⟨rfl, hK2, LB⟩
  obtain ⟨G, hG⟩ : ∃ G, w1.heap.size + 1 + 1 = G := ⟨_, rfl⟩
  rw [hG] at hK2 ⊢
  have HG : Hid (w1.heap.size < G) := by unfold Hid; omega
  have HG1 : Hid (g1 < G) := by unfold Hid; omega
  have HGw : Hid (w.heap.size < G) := by have := B1.out.size; unfold Hid; omega
  have K2 := hide hK2
  have O2 := hide (O1.out.belowA LB)
  have B2 : Hid (Below w.heap.size w w2) := B1.out.trans (LB.mono B1.out.size)
  have h2G : Hid (2 ≤ G) := by have := HLt.out; have := HGw.out; unfold Hid; omega
  clear hK2 LB hG
  go_upto_region 4 with fail
  go_loopw [7] (fun i wr => ∃ (t : Nat) (zs : List Int), t ≤ n ∧ i = .int .i64 t ∧ Hid (OwnG .u8 5 wr w.heap.size (.slice (some ⟨g1, 0, none⟩) n c1) zs) ∧ Hid (zs.length = n) ∧ Hid (w2.grownBy wr (some g1))) (fun i _ => n - (intOf i).toNat)
  case atStart => exact ⟨0, key, by omega, rfl, O2, HL, World.grownBy.refl _ _⟩
  case round =>
    obtain ⟨t, zs, ht, rfl, HOr, HLr, HGr⟩ := hrel
    by_cases hlt : t < n
    · have hcell := HOr.out.cell t (by rw [HLr.out]; exact hlt)
      have hfr := HOr.out.frozen t
      have hltI : (t : Int) < (n : Int) := by omega
      have HST := hide (fun u => HOr.out.stored t u)
      generalize zs.getD t 0 = z at hcell
      go_wp2
      go_roundw
      case rel => exact ⟨t + 1, _, by omega, by go_num, (HST.out _).1, by unfold Hid; rw [List.length_set]; exact HLr.out, gTrans HGr.out (HST.out _).2⟩
      case measure => simp [intOf]; omega
    · obtain rfl : t = n := by omega
      have K3 := hide (K2.out.kept HGr.out (by have := HG1.out; simp; omega))
      have B3 : Hid (Below w.heap.size w wr) := B2.out.grown HGr.out B2.out.size (fun k hk => by simp at hk; omega)
      have T3 := hide (HT.out.below B3.out (by have := HLt.out; omega))
      have S3 := hide (HS.out.below B3.out)
      have HK0 : Hid (Y0 ++ (ls.take 0).flatten = Y0) := by unfold Hid; simp
      have HD0 : Hid (dig (Z0 ++ dig Y0) = MD (ls.take 0).flatten) := by unfold Hid; rw [← HMM.out 0, HK0.out]
      have HY0 : Hid (Y0.length ≤ 1048640) := by have := HYL.out 0; rw [HK0.out] at this; exact this
      have hq0 := HMQ.out 0
      have HRM0 := hide (fun W h1 => HRM.out 0 none 0 0 W (by simp) h1 (by simpa using src_none W))
      generalize MD (ls.take 0).flatten = M0 at HD0 hq0 HRM0
      clear HOr HLr HGr
      go_upto_region 10 with (first | (go_at_call 20; refine (ksum_yes G Y0 Z0 _ K3.out T3.out (by have := HY0.out; omega) HZL.out).mono ?_; rintro e w4 ⟨rfl, LB⟩; rw [HD0.out]; have K4 := hide (K3.out.below LB); have B4 : Hid (Below w.heap.size w w4) := B3.out.trans (LB.mono B3.out.size); have S4 := hide (S3.out.below LB); clear LB) | (go_at_call 12; refine (HRM0.out _ S4.out).mono ?_; rintro e w5 ⟨rfl, LB⟩; have K5 := hide (K4.out.below LB); have B5 : Hid (Below w.heap.size w w5) := B4.out.trans (LB.mono B4.out.size); clear LB))
      clear hq0 HRM0 HD0
      go_loopw [8] (fun i wr => ∃ (k : Nat), k ≤ pn ∧ k ≤ 40 ∧ i = .int .i64 (k : Int) ∧ Hid (Ks wr G (Y0 ++ (ls.take k).flatten) Z0) ∧ Hid (Below w.heap.size w wr)) (fun i _ => pn - (intOf i).toNat)
      case atStart => exact ⟨0, by omega, by omega, rfl, by rw [HK0.out]; exact K5, B5⟩
      case round =>
        clear K3 B3 T3 S3 K4 B4 S4 K5 B5
        obtain ⟨k, hk, hk40, rfl, HK, HB⟩ := hrel
        by_cases hin : k < pn ∧ k < 40
        · obtain ⟨h1, h2⟩ := hin
          have kI : (k : Int) < (pn : Int) := by omega
          have k40 : (k : Int) < 40 := by omega
          have kw : IntKind.i64.wrap ((k : Int) + 1) = (k : Int) + 1 := by rw [IntKind.wrap_i64]; omega
          have kc : (k : Int) + 1 ≤ (pc : Int) := by omega
          have kp : (0 : Int) ≤ (k : Int) + 1 := by omega
          obtain ⟨b, off, rfl, hr⟩ := (HP.out.below HB.out).row (by omega)
          obtain ⟨a', m, c', hc1', hs1⟩ := hr k h1
          have hbw : b < w.heap.size := by
            obtain ⟨b2, off2, he2, hr2⟩ := HP.out.row (by omega)
            simp only [Option.some.injEq, Addr.mk.injEq, and_true] at he2
            obtain ⟨rfl, rfl⟩ := he2
            obtain ⟨a2, n2, c2, hc2, _⟩ := hr2 k h1
            exact ltCell hc2
          have HPB : Hid (∀ b' o', a' = some ⟨b', o', none⟩ → ls.getD k [] ≠ [] → b' ≠ G) := by
            obtain ⟨b2, off2, he2, hr2⟩ := HP.out.row (by omega)
            simp only [Option.some.injEq, Addr.mk.injEq, and_true] at he2
            obtain ⟨rfl, rfl⟩ := he2
            obtain ⟨a2, n2, c2, hc2, hs2⟩ := hr2 k h1
            have := (HB.out.cell (p := ⟨b, off + k, none⟩) hbw).trans hc2
            rw [hc1'] at this
            simp only [Option.some.injEq, Value.slice.injEq] at this
            obtain ⟨rfl, rfl, rfl⟩ := this
            intro b' o' hb' hx
            have := hs2.blk b' o' hb' hx
            have := HGw.out
            omega
          have HCC : Hid (∀ W, Below w.heap.size w W → W.cell? ⟨b, off + k, none⟩ = some (.slice a' m c')) := fun W hW => (hW.cell (p := ⟨b, off + k, none⟩) hbw).trans ((HB.out.cell (p := ⟨b, off + k, none⟩) hbw).symm.trans hc1')
          have HSp := hide hs1
          have hsz := HB.out.size
          have hKG := HK.out.lt
          have KV := hide (HK.out.alloc (.cells #[.slice a' m c'] 22))
          have PV : Hid (Pcs (wr.alloc (.cells #[.slice a' m c'] 22)) G (some ⟨wr.heap.size, 0, none⟩) 1 [ls.getD k []]) := Pcs.one ((Blk.new (T := 22) wr [.slice a' m c'] _ _ rfl rfl).cell 0) (by omega) (HSp.out.alloc _) HPB.out
          have TV := hide (HT.out.below (HB.out.alloc hsz (.cells #[.slice a' m c'] 22)) (by have := HLt.out; omega))
          have BV : Hid (Below w.heap.size w (wr.alloc (.cells #[.slice a' m c'] 22))) := HB.out.alloc hsz _
          have HNX := hide (HYN.out k (by rw [HLL.out]; exact h1))
          have HDk := hide (HMM.out (k + 1))
          have HYk := hide (HYL.out (k + 1))
          have HYk0 := hide (HYL.out k)
          have hq := HMQ.out (k + 1)
          have hone : ∀ v ∈ (MD (ls.take (k + 1)).flatten).map (Value.int .u8), v.oneCell' = true := ints_one _ _
          have HPk := hide (HP.out.take (k + 1) (by omega))
          have HFk := hide (flat_le ls (k + 1))
          have HPl : Hid ((ls.getD k []).length ≤ 1048576) := by
            have h3 := flat_take ls k (by rw [HLL.out]; exact h1)
            have h4 := HFk.out
            have h5 := HFb.out
            rw [h3, List.length_append] at h4
            unfold Hid
            omega
          obtain ⟨F, hF⟩ : ∃ F, (ls.take (k + 1)).flatten = F := ⟨_, rfl⟩
          obtain ⟨N, hN⟩ : ∃ N, F.length = N := ⟨_, rfl⟩
          have HFe := hide hF
          have HNe := hide hN
          have HRk := hide (fun aj cj W h1 h2 => HRM.out (k + 1) aj N cj W (by rw [hF]; exact hN) h1 h2)
          rw [hF] at HNX HDk HYk hq HRk HFk hone
          rw [hN] at HFk
          generalize MD F = M at *
          obtain ⟨Yk, hYk⟩ : ∃ Yk, Y0 ++ (ls.take k).flatten = Yk := ⟨_, rfl⟩
          rw [hYk] at HNX HYk0 KV
          obtain ⟨Y1, hY1⟩ : ∃ Y1, Y0 ++ F = Y1 := ⟨_, rfl⟩
          have HY1 := hide hY1
          rw [hY1] at HNX HDk HYk
          have hcV := hc1'
          clear hr hs1 hF hN hYk hY1 hbw
          go_wp2_with fail
          go_region_held3 (fun W => W.cell? ⟨b, off + k, none⟩ = some (.slice a' m c')) (first | exact HCC.out _ B6.out | exact HCC.out _ B5.out | exact HCC.out _ B4.out | exact HCC.out _ B3.out | exact HCC.out _ ⟨BV.out.os, BV.out.tape, BV.out.output, BV.out.size, BV.out.block⟩ | exact HCC.out _ ⟨HB.out.os, HB.out.tape, HB.out.output, HB.out.size, HB.out.block⟩) (first | (go_at_call 21; refine (kwrite_yes G Yk Z0 (some ⟨wr.heap.size, 0, none⟩) 1 1 [ls.getD k []] _ (KV.out.heap (by rfl)) (PV.out.below (by exact ⟨rfl, rfl, rfl, Nat.le_refl _, fun _ _ => rfl⟩)) (TV.out.below (B := 2) (by exact ⟨rfl, rfl, rfl, Nat.le_refl _, fun _ _ => rfl⟩) (Nat.le_refl _)) h2G.out (by have h3 := HYk0.out; have h4 := HPl.out; simp at h4 ⊢; omega) (by omega)).mono ?_; rintro e w3 ⟨rfl, hK3, hG3⟩; rw [HNX.out] at hK3; have K3 := hide hK3; have B3 : Hid (Below w.heap.size w w3) := (below_drewS BV.out).grown hG3 BV.out.size (fun q hq => by have := HGw.out; simp at hq; omega); clear hK3 hG3) | (go_at_call 20; refine (ksum_yes G Y1 Z0 _ K3.out (HT.out.below B3.out (by have := HLt.out; omega)) (by have := HYk.out; omega) HZL.out).mono ?_; rintro e w4 ⟨rfl, LB⟩; rw [HDk.out]; have K4 := hide (K3.out.below LB); have B4 : Hid (Below w.heap.size w w4) := B3.out.trans (LB.mono B3.out.size); clear LB) | (go_at_call 10; refine (joined_any _ (k + 1) pc (ls.take (k + 1)) F HFe.out N HNe.out _ (HPk.out.below B4.out) (by have h3 := HFk.out; have h4 := HFb.out; omega) (by omega)).mono ?_; rintro e w5 ⟨aj, cj, rfl, hsj, LB⟩; have Sj := hide hsj; have K5 := hide (K4.out.below LB); have B5 : Hid (Below w.heap.size w w5) := B4.out.trans (LB.mono B4.out.size); clear LB hsj) | (go_at_call 12; refine (HRk.out aj cj _ (HS.out.below B5.out) Sj.out).mono ?_; rintro e w6 ⟨rfl, LB⟩; have K6 := hide (K5.out.below LB); have B6 : Hid (Below w.heap.size w w6) := B5.out.trans (LB.mono B5.out.size); clear LB))
          have HKF : Hid (Ks w6 G (Y0 ++ (ls.take (k + 1)).flatten) Z0) := by unfold Hid; rw [HFe.out, HY1.out]; exact K6.out
          go_wp2
          go_roundw
          case rel => exact ⟨k + 1, by omega, by omega, by go_num, HKF, B6⟩
          case measure => simp [intOf]; omega
        · have hcond : ¬ (k < pn) ∨ (k < pn ∧ k = 40) := by omega
          rcases hcond with hc | ⟨hc, rfl⟩
          · have hcI : ¬ (k : Int) < (pn : Int) := by omega
            go_wp2
            go_ret
            exact ⟨rfl, HB.out⟩
          · have hcI : ((40 : Nat) : Int) < (pn : Int) := by omega
            go_wp2
            go_ret
            exact ⟨rfl, HB.out⟩

end Go.Proofs.YtgajejomibnghaaDoor
