/-
  (*sha.Hash).take: bytes come behind the text.
-/
import Derived.Test.YtgajejomibnghaaDoorSaHs
namespace Go.Proofs.YtgajejomibnghaaDoor
open Go.RowKit Go.IntWalk

attribute [local go_sem ↓] ld_words ld_part ld_sched ld_hash ld_dig ld_arr st_words st_part st_sched st_hash st_dig st_arr

theorem copyB (W : World) (ty : TypeId) (g o m : Nat) (T : TypeId) (A X C : List Value) (a : Option Addr) (n c dl dc : Nat) (ys : List Int) (hB : Blk T W g (A ++ X ++ C)) (ho : A.length = o) (hs : SrcG .u8 256 W a n c ys) (hm : X.length = m) (hm2 : Nat.min n dl = m) (h0 : 0 < m) :
    (Builtin.copy_ #[22, 22] ty #[.slice (some ⟨g, o, none⟩) dl dc, .slice a n c]).run Tryd.prog W = .ok (.int .i64 (m : Int)) (W.setCells g o ((ys.take m).map (Value.int .u8))) := by
  have hn : m ≤ n := by rw [← hm2]; exact Nat.min_le_left _ _
  have hl := hs.hlen
  have hy : ys ≠ [] := by intro h; subst h; simp at hl; omega
  obtain ⟨b, off, rfl, hc⟩ := hs.hrd hy
  have hlen : ((ys.take m).map (Value.int .u8)).length = m := by simp; omega
  have := run_copy_cells (P := Tryd.prog) W 22 22 ty 5 g o dl dc ⟨b, off, none⟩ n c ((ys.take m).map (Value.int .u8)) Tryd.underlying22 (by kernel_rfl) (by rw [hlen, hm2]) ?_ ?_ ?_ (ints_one _ _)
  · rw [this, hlen]
    rfl
  · intro j v hv
    have hj : j < m := by have := (List.getElem?_eq_some_iff.1 hv).1; omega
    rw [addNone, hc j (by omega)]
    rw [List.getElem?_map, List.getElem?_take, if_pos hj, List.getElem?_eq_getElem (by omega)] at hv
    simp at hv
    subst hv
    simp [List.getD, show j < ys.length by omega]
  · intro j hj
    exact (hB.there o m (by simp; omega) j (by omega)).1
  · intro j hj
    exact (hB.there o m (by simp; omega) j (by omega)).2

theorem gDrew (w : World) (r : Option Nat) : w.grownBy w.drew r := ⟨rfl, rfl, rfl, Nat.le_refl _, fun _ _ _ => rfl⟩
theorem gDrewN (w : World) (q : Nat) (r : Option Nat) : w.grownBy (w.drewN q) r := ⟨rfl, rfl, rfl, Nat.le_refl _, fun _ _ _ => rfl⟩

theorem cut_apart {w : World} {a : Option Addr} {n c g m : Nat} {zs : List Int} (hs : SrcG .u8 256 w a n c zs) (hne : zs ≠ []) (h : ∀ b' o', a = some ⟨b', o', none⟩ → zs ≠ [] → b' ≠ g) : ∀ b' o', cutG a c m = some ⟨b', o', none⟩ → zs.drop m ≠ [] → b' ≠ g := by
  intro b' o' he _
  obtain ⟨b, off, rfl, _⟩ := hs.hrd hne
  have := h b off rfl hne
  unfold cutG at he
  split at he
  · simp at he; omega
  · simp [addNone] at he; omega

/-- The Hash behind some bytes more. -/
theorem hs_step {T : TypeId} {w : World} {g q m : Nat} {A C : List Value} {X part zs : List Int} (hq : X.length % 64 = q) (hp : part.length = 64) (hpd : Dg 256 part) (ht : part.take q = tail X) (hz : Dg 256 zs) (hzl : m ≤ zs.length) (hm : m ≤ 64 - q) (h0 : (X.length + m) % 64 ≠ 0)
    (hB : Blk T w g (A ++ hV (st X) (part.take q ++ zs.take m ++ part.drop (q + m)) (X.length + m) ++ C)) : Hs T w g A C (X ++ zs.take m) := by
  subst hq
  have hl : (zs.take m).length = m := by simp; omega
  obtain ⟨e1, e2⟩ := hs_more (d := zs.take m) hp ht (by rw [hl]; exact hm) (by rw [hl]; exact h0)
  rw [hl] at e2
  refine ⟨_, ?_, ?_, ?_, e2⟩
  · rw [e1, List.length_append, hl]; exact hB
  · simp [hp]; omega
  · intro x hx
    simp only [List.mem_append] at hx
    rcases hx with (hx | hx) | hx
    · exact hpd x (List.mem_of_mem_take hx)
    · exact hz x (List.mem_of_mem_take hx)
    · exact hpd x (List.mem_of_mem_drop hx)

theorem hs_block {T : TypeId} {w : World} {g q m : Nat} {A C : List Value} {X part zs : List Int} (hq : X.length % 64 = q) (hp : part.length = 64) (hpd : Dg 256 part) (ht : part.take q = tail X) (hz : Dg 256 zs) (hzl : m ≤ zs.length) (hm0 : 0 < m) (hm : m ≤ 64 - q) (h0 : (X.length + m) % 64 = 0)
    (hB : Blk T w g (A ++ hV (mix (st X) (part.take q ++ zs.take m ++ part.drop (q + m))) (part.take q ++ zs.take m ++ part.drop (q + m)) (X.length + m) ++ C)) : Hs T w g A C (X ++ zs.take m) := by
  subst hq
  have hl : (zs.take m).length = m := by simp; omega
  obtain ⟨e1, e2⟩ := hs_whole (d := zs.take m) hp ht (by rw [hl]; exact hm) (by intro h; rw [h] at hl; simp at hl; omega) (by rw [hl]; exact h0)
  rw [hl] at e1
  refine ⟨part.take (X.length % 64) ++ zs.take m ++ part.drop (X.length % 64 + m), ?_, ?_, ?_, ?_⟩
  · rw [e1, List.length_append, hl]; exact hB
  · simp [hp]; omega
  · intro x hx
    simp only [List.mem_append] at hx
    rcases hx with (hx | hx) | hx
    · exact hpd x (List.mem_of_mem_take hx)
    · exact hz x (List.mem_of_mem_take hx)
    · exact hpd x (List.mem_of_mem_drop hx)
  · rw [e2, List.length_append, hl, h0]; rfl

set_option maxRecDepth 100000 in
set_option maxHeartbeats 4000000 in
theorem take_any (T : TypeId) (g o : Nat) (A C : List Value) (xs : List Int) (po : Option Addr) (pn pc : Nat) (ls : List (List Int)) (w : World) (hH : Hs T w g A C xs) (ho : A.length = o) (hP : Pcs w g po pn ls) (hT : Tabs w) (h2 : 2 ≤ g) (hb : xs.length + ls.flatten.length ≤ 1152921504606846976) (hpn : pn ≤ 140737488355328) :
    Calls Tryd.prog 28 #[.pointer (some ⟨g, o, none⟩), .slice po pn pc] w fun e w' => e = .returned (.tuple #[]) ∧ Hs T w' g A C (xs ++ ls.flatten) ∧ w.grownBy w' (some g) := by
  have HO := hide ho
  have HB := hide hb
  have HT := hide hT
  have H2 := hide h2
  have HP := hide hP
  have HLS := hide hP.len
  have hpI : (pn : Int) ≤ 140737488355328 := by omega
  clear ho hb hT h2 hP
  go_enter Tryd.func28, Tryd.ntmps28
  go_wp2
  go_loopw [9] (fun i wr => ∃ k : Nat, k ≤ pn ∧ i = .int .i64 k ∧ Hid (Hs T wr g A C (xs ++ (ls.take k).flatten)) ∧ Hid (w.grownBy wr (some g))) (fun i _ => pn - (intOf i).toNat)
  case atStart => exact ⟨0, Nat.zero_le _, rfl, by unfold Hid; simpa using hH, World.grownBy.refl _ _⟩
  case round =>
    clear hH
    obtain ⟨k, hk, rfl, HH, HG⟩ := hrel
    by_cases hkn : k < pn
    · obtain ⟨pb, poff, rfl, hpg, hrow⟩ := (HP.out.kept HG.out).row (by omega)
      obtain ⟨a, n, c, hcell, hsrc, hap⟩ := hrow k hkn
      have hlk := flat_take ls k (by rw [HLS.out]; exact hkn)
      have hlb := flat_le ls (k + 1)
      generalize hys : ls.getD k [] = ys at *
      have hkI : (k : Int) < (pn : Int) := by omega
      have HLK := hide hlk
      have HS0 := hide hsrc
      have HAP := hide hap
      have HYL : Hid (xs.length + (ls.take k).flatten.length + ys.length ≤ 1152921504606846976) := by have := HB.out; rw [hlk, List.length_append] at hlb; unfold Hid; omega
      clear hrow hlk hlb hsrc hap hys hpg
      go_wp2
      go_loopw [5] (fun v wq => ∃ (a : Option Addr) (n c : Nat) (d zs : List Int), v = .slice a n c ∧ Hid (d ++ zs = ys) ∧ Hid (SrcG .u8 256 wq a n c zs) ∧ Hid (∀ b' o', a = some ⟨b', o', none⟩ → zs ≠ [] → b' ≠ g) ∧ Hid (Hs T wq g A C (xs ++ (ls.take k).flatten ++ d)) ∧ Hid (w.grownBy wq (some g))) (fun v _ => lenV v)
      case atStart => exact ⟨a, n, c, [], ys, rfl, rfl, HS0, HAP, by unfold Hid; simpa using HH.out, HG⟩
      case round =>
        clear HS0 HAP HH HG hcell
        obtain ⟨a, n, c, d, zs, rfl, HD, HS, HA, HH, HG⟩ := hrel
        have hnI := HS.out.lenI
        by_cases hn : n = 0
        · subst hn
          have hz : zs = [] := List.eq_nil_of_length_eq_zero HS.out.hlen
          go_wp2
          go_roundw
          case rel => exact ⟨k + 1, by omega, by go_num, by unfold Hid; rw [HLK.out, ← HD.out, hz, List.append_nil, ← List.append_assoc]; exact HH.out, HG⟩
          case measure => simp [intOf]; omega
        · have hn0 : (0 : Int) < (n : Int) := by omega
          obtain ⟨part, hBk, hpl, hpd, hpt⟩ := HH.out
          obtain ⟨X, hX⟩ : ∃ X, xs ++ (ls.take k).flatten ++ d = X := ⟨_, rfl⟩
          rw [hX] at hBk hpt
          have hXl : X.length + n ≤ 1152921504606846976 := by
            have h1 := HYL.out
            rw [← HD.out, List.length_append, HS.out.hlen] at h1
            rw [← hX]
            simp only [List.length_append]
            omega
          obtain ⟨q, hq⟩ : ∃ q, X.length % 64 = q := ⟨_, rfl⟩
          obtain ⟨N, hN⟩ : ∃ N, X.length = N := ⟨_, rfl⟩
          obtain ⟨m, hm⟩ : ∃ m, Nat.min n (64 - q) = m := ⟨_, rfl⟩
          have hm1 : m ≤ n := by rw [← hm]; exact Nat.min_le_left _ _
          have hm2 : m ≤ 64 - q := by rw [← hm]; exact Nat.min_le_right _ _
          have hm0 : 0 < m := by rw [← hm]; exact Nat.lt_min.2 ⟨by omega, by omega⟩
          have hm3 : m = n ∨ m = 64 - q := by
            rcases Nat.le_total n (64 - q) with h | h
            · exact Or.inl (by rw [← hm]; exact Nat.min_eq_left h)
            · exact Or.inr (by rw [← hm]; exact Nat.min_eq_right h)
          have HSp := part_split part q m
          have hB0 := hBk
          rw [← HSp, hV_part] at hB0
          have hB1 := Blk.mid _ _ _ ((zs.take m).map (Value.int .u8)) (o + 9 + q) _ (hB0.heap (w' := wr.drew) rfl) (by simp [HO.out, st_len, hpl]; omega) (by simp [hpl, HS.out.hlen]; omega)
          rw [← hV_part] at hB1
          have HCP : ∀ W : World, W.heap = wr.heap → (Builtin.copy_ #[22, 22] 3 #[.slice (some ⟨g, o + 9 + q, none⟩) (64 - q) (64 - q), .slice a n c]).run Tryd.prog W = .ok (.int .i64 (m : Int)) (W.setCells g (o + 9 + q) ((zs.take m).map (Value.int .u8))) := by
            intro W hW
            exact copyB W _ g _ m T _ _ _ a n c _ _ zs (hB0.heap hW) (by simp [HO.out, st_len, hpl]; omega) (HS.out.heap hW) (by simp [hpl]; omega) hm hm0
          have hcp := HCP wr.drew rfl
          have hsl : ∀ W : World, (Instr.sliceAt 71 (.pointer (some ⟨g, o + 9, none⟩)) (some (.int .i64 (q : Int))) none none).run Tryd.prog W = .ok (.slice (some ⟨g, o + 9 + q, none⟩) (64 - q) (64 - q)) W := fun W => slice_arr64 W g (o + 9) q _ rfl (by omega)
          have hcnt : wr.cell? ⟨g, o + 73, none⟩ = some (.int .i64 (N : Int)) := by
            rw [hV_count] at hBk
            rw [hBk.cell, List.append_assoc, List.getElem?_append_right (by simp [HO.out, st_len, hpl])]
            simp [HO.out, st_len, hpl, hN]
          have hrem : (N : Int) % 64 = (q : Int) := by omega
          have hrem2 : Int.tmod (N : Int) 64 = (q : Int) := by rw [Int.tmod_eq_emod_of_nonneg (by omega)]; exact hrem
          have hsets : ∀ W : World, W.cell? ⟨g, o + 73, none⟩ = some (.int .i64 (N : Int)) → (W.setCells g (o + 9 + q) ((zs.take m).map (Value.int .u8))).cell? ⟨g, o + 73, none⟩ = some (.int .i64 (N : Int)) := by
            intro W hW
            rw [World.cell?_setCells_out]
            · exact hW
            · intro _ _
              right
              simp [HS.out.hlen]
              omega
          obtain ⟨DV, hDV⟩ : ∃ DV, (zs.take m).map (Value.int .u8) = DV := ⟨_, rfl⟩
          rw [hDV] at hcp
          simp only [hDV] at hsets
          have HDV := hide hDV
          clear hDV
          have HSL := hide HS.out.hlen
          have HB1 := hide hB1
          have HN := hide hN
          have HQ := hide hq
          have HXL := hide hXl
          have HPT := hide hpt
          have HPD := hide hpd
          have HPL := hide hpl
          have HX := hide hX
          have HM := hide (And.intro hm1 (And.intro hm2 (And.intro hm0 hm3)))
          clear hB1 hN hq hXl hpt hpd hpl hX hm1 hm2 hm0 hm3 hm HSp hB0 hBk HCP
          have q0 : (0 : Int) ≤ (q : Int) := by omega
          have q1 : (q : Int) < 64 := by omega
          have N0 : (0 : Int) ≤ (N : Int) := by omega
          go_wp2
          go_region_held3 (fun W => W.cell? ⟨g, o + 73, none⟩ = some (.int .i64 (N : Int))) ((first | assumption | (apply hsets; assumption) | (simp [*]; done))) (fail)
          have HG2 : Hid (w.grownBy (wr.drew.setCells g (o + 9 + q) DV) (some g)) := gTrans HG.out (gTrans (gDrew wr _) (gSets g DV (o + 9 + q) wr.drew).1)
          have HQ2 : Hid (wr.grownBy (wr.drew.setCells g (o + 9 + q) DV) (some g)) := gTrans (gDrew wr _) (gSets g DV (o + 9 + q) wr.drew).1
          have HB2 : Hid (Blk T (wr.drew.setCells g (o + 9 + q) DV) g (A ++ hV (st X) (part.take q ++ zs.take m ++ part.drop (q + m)) N ++ C)) := by rw [← HN.out, ← HDV.out]; exact HB1.out
          clear hcp hsets hcnt
          generalize wr.drew.setCells g (o + 9 + q) DV = W2 at *
          obtain ⟨pa, hpa⟩ : ∃ pa, part.take q ++ zs.take m ++ part.drop (q + m) = pa := ⟨_, rfl⟩
          have hpl2 : pa.length = 64 := by have := HM.out; have := HPL.out; have := HSL.out; rw [← hpa]; simp; omega
          rw [hpa] at HB2
          have hB2 := HB2.out
          rw [hV_count] at hB2
          have hcnt : W2.cell? ⟨g, o + 73, none⟩ = some (.int .i64 (N : Int)) := by
            rw [hB2.cell, List.append_assoc, List.getElem?_append_right (by simp [HO.out, st_len, hpl2])]
            simp [HO.out, st_len, hpl2]
          have hfz := hB2.frozen (o + 73)
          have hsl2 : ∀ W : World, (Instr.slice 22 (.slice a n c) (some (.int .i64 (m : Int))) none none).run Tryd.prog W = .ok (.slice (cutG a c m) (n - m) (c - m)) W := fun W => sliceB_lo W a n c _ m rfl HM.out.1
          have NI : (N : Int) ≤ 1152921504606846976 := by have := HXL.out; have := HN.out; omega
          have mI : (m : Int) ≤ 64 := by have := HM.out; omega
          have m0 : (0 : Int) ≤ (m : Int) := by omega
          have HB3 : Hid (Blk T (W2.setCell ⟨g, o + 73, none⟩ (.int .i64 ((N : Int) + (m : Int)))) g (A ++ hV (st X) pa (N + m) ++ C)) := by
            have := hB2.set (o + 73) (.int .i64 ((N : Int) + (m : Int)))
            rw [hV_count]
            have e : (A ++ Value.bool true :: (List.map (Value.int .u32) (st X) ++ List.map (Value.int .u8) pa) ++ [Value.int .i64 (N : Int)] ++ C).set (o + 73) (.int .i64 ((N : Int) + (m : Int))) = A ++ Value.bool true :: (List.map (Value.int .u32) (st X) ++ List.map (Value.int .u8) pa) ++ [Value.int .i64 ((N + m : Nat) : Int)] ++ C := by
              rw [List.append_assoc, List.set_append_right _ _ (by simp [HO.out, st_len, hpl2]), List.append_assoc (_ ++ _)]
              simp [HO.out, st_len, hpl2]
            rw [e] at this
            exact this
          have HG3 : Hid (w.grownBy (W2.setCell ⟨g, o + 73, none⟩ (.int .i64 ((N : Int) + (m : Int)))) (some g)) := gTrans HG2.out (gSet _ _ _ _)
          have HQ3 : Hid (wr.grownBy (W2.setCell ⟨g, o + 73, none⟩ (.int .i64 ((N : Int) + (m : Int)))) (some g)) := gTrans HQ2.out (gSet _ _ _ _)
          have hcnt2 : (W2.setCell ⟨g, o + 73, none⟩ (.int .i64 ((N : Int) + (m : Int)))).cell? ⟨g, o + 73, none⟩ = some (.int .i64 ((N : Int) + (m : Int))) := World.cell?_setCell_same _ _ _ hcnt
          have HPA := hide hpa
          have HPL2 := hide hpl2
          clear hB2 hpa hpl2
          by_cases hwh : ((N : Int) + (m : Int)) % 64 = 0
          · have hwt : (((N : Int) + (m : Int)) % 64 == 0) = true := by rw [hwh]; rfl
            have hpd2 : Dg 256 pa := by
              intro x hx
              rw [← HPA.out] at hx
              simp only [List.mem_append] at hx
              rcases hx with (hx | hx) | hx
              · exact HPD.out x (List.mem_of_mem_take hx)
              · exact HS.out.hdg x (List.mem_of_mem_take hx)
              · exact HPD.out x (List.mem_of_mem_drop hx)
            have HPD2 := hide hpd2
            clear hpd2
            have HI53 : (Tryd.prog.info? 70).map (·.size) = some ((st X).map (Value.int .u32)).length := by rw [List.length_map, st_len]; kernel_rfl
            have HI54 : (Tryd.prog.info? 71).map (·.size) = some (pa.map (Value.int .u8)).length := by rw [List.length_map, HPL2.out]; kernel_rfl
            have HTt : Hid (Tabs (W2.setCell ⟨g, o + 73, none⟩ (.int .i64 ((N : Int) + (m : Int))))) := HT.out.kept HG3.out H2.out
            go_wp2
            generalize W2.setCell ⟨g, o + 73, none⟩ (.int .i64 ((N : Int) + (m : Int))) = W3 at *
            have hB3 := HB3.out
            rw [hV_words] at hB3
            have hB4 := HB3.out
            have e4 : A ++ hV (st X) pa (N + m) ++ C = (A ++ Value.bool true :: ((st X).map (Value.int .u32))) ++ pa.map (Value.int .u8) ++ ([.int .i64 ((N + m : Nat) : Int)] ++ C) := by simp [hV]
            rw [e4] at hB4
            have hld1 : (ldA 70 (.pointer (some ⟨g, o + 1, none⟩))).run Tryd.prog W3.drew = .ok (.agg ((st X).map (Value.int .u32)).toArray) W3.drew := ldA_mid Tryd.underlying70 rfl HI53 (hB3.heap rfl) (by simp [HO.out])
            have hld2 : (ldA 71 (.pointer (some ⟨g, o + 9, none⟩))).run Tryd.prog W3.drew = .ok (.agg (pa.map (Value.int .u8)).toArray) W3.drew := ldA_mid Tryd.underlying71 rfl HI54 (hB4.heap rfl) (by simp [HO.out, st_len])
            have HB3' := hide hB3
            clear hB3 hB4 e4 HI53 HI54
            have hmx : Calls Tryd.prog 43 #[.agg ((st X).map (Value.int .u32)).toArray, .agg (pa.map (Value.int .u8)).toArray] W3.drew fun e w4 => e = .returned (.agg ((mix (st X) pa).map (Value.int .u32)).toArray) ∧ (stA 70 (.pointer (some ⟨g, o + 1, none⟩)) (.agg ((mix (st X) pa).map (Value.int .u32)).toArray)).run Tryd.prog w4 = .ok () (w4.setCells g (o + 1) ((mix (st X) pa).map (Value.int .u32))) ∧ Hid (Blk T w4 g ((A ++ [Value.bool true]) ++ (st X).map (Value.int .u32) ++ (pa.map (Value.int .u8) ++ [.int .i64 ((N + m : Nat) : Int)] ++ C))) ∧ Hid (Below W3.drew.heap.size W3.drew w4) := by
              refine (mixed_any (st X) pa W3.drew HPL2.out HPD2.out (st_len X) (st_dg X) (HTt.out.heap rfl)).mono ?_
              rintro e w4 ⟨rfl, hb4⟩
              have hb4' := Blk.below (HB3'.out.heap (w' := W3.drew) rfl) hb4
              exact ⟨rfl, stA_mid (by kernel_rfl) hb4' (by simp [HO.out]) (by simp [st_len, mix_len]) (ints_one _ _), hb4', hb4⟩
            have HMX := hide hmx
            clear hmx
            go_region_with ((go_at_call 43; refine HMX.out.mono ?_; rintro e w4 ⟨rfl, hst4, HB4, HL4⟩))
            all_goals
              go_wp2
              go_roundw
              case rel =>
                have hne : zs ≠ [] := by intro h; have := HSL.out; rw [h] at this; simp at this; omega
                have hG4 : W3.grownBy (w4.setCells g (o + 1) ((mix (st X) pa).map (Value.int .u32))) (some g) := gTrans (gDrew W3 _) (gTrans (gOfBelow HL4.out) (gSets g _ (o + 1) w4).1)
                refine ⟨cutG a c m, n - m, c - m, d ++ zs.take m, zs.drop m, rfl, ?_, ?_, cut_apart HS.out hne HA.out, ?_, gTrans HG3.out hG4⟩
                · unfold Hid; rw [List.append_assoc, List.take_append_drop]; exact HD.out
                · have := (HS.out.grown (gTrans HQ3.out hG4) (fun b' o' he hx => by have := HA.out b' o' he hx; simpa using this)).cut m n HM.out.1 (Nat.le_refl _)
                  rw [List.take_of_length_le (by rw [HSL.out]; omega)] at this
                  exact this
                · unfold Hid
                  rw [← List.append_assoc, HX.out]
                  have hB5 := Blk.mid _ _ _ ((mix (st X) pa).map (Value.int .u32)) (o + 1) _ HB4.out (by simp [HO.out]) (by simp [st_len, mix_len])
                  rw [← hV_words] at hB5
                  exact hs_block HQ.out HPL.out HPD.out (by rw [← HQ.out]; exact HPT.out) HS.out.hdg (by rw [HSL.out]; exact HM.out.1) HM.out.2.2.1 HM.out.2.1 (by rw [HN.out]; omega) (by rw [HPA.out, HN.out]; exact hB5)
              case measure => simp [lenV]; have := HM.out; omega
          · have hwf : (((N : Int) + (m : Int)) % 64 == 0) = false := by simpa using hwh
            go_wp2
            go_roundw
            case rel =>
              have hne : zs ≠ [] := by intro h; have := HSL.out; rw [h] at this; simp at this; omega
              refine ⟨cutG a c m, n - m, c - m, d ++ zs.take m, zs.drop m, rfl, ?_, ?_, cut_apart HS.out hne HA.out, ?_, HG3⟩
              · unfold Hid; rw [List.append_assoc, List.take_append_drop]; exact HD.out
              · have := (HS.out.grown HQ3.out (fun b' o' he hx => by have := HA.out b' o' he hx; simpa using this)).cut m n HM.out.1 (Nat.le_refl _)
                rw [List.take_of_length_le (by rw [HSL.out]; omega)] at this
                exact this
              · unfold Hid
                rw [← List.append_assoc, HX.out]
                exact hs_step HQ.out HPL.out HPD.out (by rw [← HQ.out]; exact HPT.out) HS.out.hdg (by rw [HSL.out]; exact HM.out.1) HM.out.2.1 (by rw [HN.out]; omega) (by rw [HPA.out, HN.out]; exact HB3.out)
            case measure => simp [lenV]; have := HM.out; omega
    · obtain rfl : k = pn := by omega
      go_wp2
      go_end0
      have e := HH.out
      rw [List.take_of_length_le (by rw [HLS.out]; omega)] at e
      exact ⟨rfl, e, HG.out⟩

end Go.Proofs.YtgajejomibnghaaDoor
