/-
  The document's times and Div.
-/
import Derived.Test.YtobdpcmafjhnlaaNProducts
namespace Go.Proofs.Ytobdpcmafjhnlaa
open Go.RowKit Go.IntWalk

theorem NumD.rebound {w : World} {v : Value} {x : Int} {L : Nat} (h : NumD w v x L) (L' : Nat) (hx : x < pw 65536 L') : NumD w v x L' := by
  obtain ⟨ao, n, c, xs, he, hs, ht, hl, hv⟩ := h
  refine ⟨ao, n, c, xs, he, hs, ht, ?_, hv⟩
  have := tr_len_le (b := 65536) (by decide) hs.hdg ht L' (by rw [hv]; exact hx)
  rw [hs.hlen] at this
  exact this

set_option maxRecDepth 100000 in
theorem times_any (v1 : Value) (x : Int) (L : Nat) (d : Int) (w : World) (h : NumD w v1 x L) (hL : L ≤ 10000) (hd0 : 0 ≤ d) (hd1 : d < 65536) :
    Calls Try.prog 56 #[v1, .int .i64 d] w fun e w' => ∃ v, e = .returned v ∧ NumD w' v (x * d) (L + 2) ∧ Below w.heap.size w w' := by
  by_cases hz : d = 0
  · subst hz
    go_enter Try.func56, Try.ntmps56
    go_wp2
    go_ret
    refine ⟨_, rfl, ?_, Below.refl _ _⟩
    rw [Int.mul_zero]
    exact NumD.nil _ _
  · obtain ⟨a1, n1, c1, xs, rfl, h1, t1, m1, vx⟩ := h
    have cm := refMul_any a1 n1 c1 xs (some ⟨w.heap.size, 0, none⟩) 1 1 [d] (w.alloc (.cells #[.int .i64 d] 3)) (h1.alloc _) (SrcG.litAt [d] _ 1 _ rfl rfl (by intro y hy; simp at hy; omega) (by decide) rfl) (by omega) (by omega)
    have CM := hide cm
    clear cm
    have hzb : (d == 0) = false := by simpa using hz
    have B1 : Below w.heap.size w (w.alloc (.cells #[.int .i64 d] 3)) := (Below.refl _ _).alloc (Nat.le_refl _) _
    go_enter Try.func56, Try.ntmps56
    go_wp2_with fail
    refine CM.out.mono ?_
    rintro e w1 ⟨v, rfl, ⟨ao, n, c, zs, rfl, hs, ht, hl, hv⟩, hB⟩
    go_wp2
    go_ret
    exact ⟨_, rfl, ⟨ao, n, c, zs, rfl, hs, ht, by omega, by rw [hv, vx]; simp [val]⟩, B1.trans (hB.mono (by simp))⟩

theorem val_drop (b : Int) (xs : List Int) (j : Nat) (h : j < xs.length) : val b (xs.drop j) = xs.getD j 0 + b * val b (xs.drop (j + 1)) := by
  rw [List.drop_eq_getElem_cons h, val]
  simp [List.getD, h]

theorem divD_step (x R y V q D E : Int) (h : D = y * V + R) (hE : E = x + 65536 * D) : E = y * (q + 65536 * V) + (x + 65536 * R - y * q) := by
  rw [hE, h]; grind

theorem drop_set_at (Q : List Int) (j : Nat) (u : Int) (h : j < Q.length) : val 65536 ((Q.set j u).drop j) = u + 65536 * val 65536 (Q.drop (j + 1)) := by
  rw [val_drop 65536 _ j (by rw [List.length_set]; exact h), List.drop_set_of_lt (by omega)]
  simp [List.getD, h]

set_option maxRecDepth 100000 in
set_option maxHeartbeats 8000000 in
theorem refDiv_any (v1 v2 : Value) (x y : Int) (L1 L2 : Nat) (w : World) (k1 : NumD w v1 x L1) (k2 : NumD w v2 y L2) (l1 : L1 ≤ 5000) (l2 : L2 ≤ 5000) (hy : 0 < y) :
    Calls Try.prog 39 #[v1, v2] w fun e w' => ∃ u1 u2 q r, e = .returned (.tuple #[u1, u2]) ∧ NumD w' u1 q L1 ∧ NumD w' u2 r L2 ∧ x = y * q + r ∧ 0 ≤ r ∧ r < y ∧ Below w.heap.size w w' := by
  have hyp := k2.nonneg.2
  have KY := hide k2
  obtain ⟨a1, n1, c1, xs, rfl, h1, t1, m1, vx⟩ := k1
  obtain ⟨a2, n2, c2, ys, he2, h2, t2, m2, vy⟩ := k2
  have z1 := hide h1.hlen
  have z2 := hide h2.hlen
  have d1 := hide h1.hdg
  have d2 := hide h2.hdg
  have T2 := hide t2
  have VX := hide vx
  have VY := hide vy
  have HY := hide hy
  have HYP := hide hyp
  have hmk := makeN n1 (n1 : Int) rfl (by omega)
  have HL : Hid (n1 ≤ L1 ∧ L1 ≤ 5000 ∧ L2 ≤ 5000 ∧ n2 ≤ L2) := ⟨m1, l1, l2, m2⟩
  have i1 : (n1 : Int) ≤ 5000 := by omega
  have i2 : (n2 : Int) ≤ 5000 := by omega
  have HE2 := hide he2
  subst he2
  clear t1 t2 vx vy hy hyp m1 m2 l1 l2
  have R0 : Hid (RowG .i64 65536 3 (w.alloc (.cells (madeCells #[.int .i64 0] n1) 3)) w.heap.size (List.replicate n1 0)) := RowG.made n1 _ _ (by decide) rfl rfl
  have B0 : Below w.heap.size w (w.alloc (.cells (madeCells #[.int .i64 0] n1) 3)) := (Below.refl _ _).alloc (Nat.le_refl _) _
  go_enter Try.func39, Try.ntmps39
  go_wp2
  go_loopw [7, 8] (fun v i wr => ∃ (k : Nat) (Q : List Int) (R : Int), i = .int .i64 ((k : Int) - 1) ∧ k ≤ n1 ∧ Hid (Q.length = n1) ∧ Hid (RowG .i64 65536 3 wr w.heap.size Q) ∧ Hid (NumD wr v R L2) ∧ Hid (0 ≤ R ∧ R < y) ∧ Hid (val 65536 (xs.drop k) = y * val 65536 (Q.drop k) + R) ∧ Below w.heap.size w wr) (fun _ i _ => ((intOf i) + 1).toNat)
  case atStart => exact ⟨n1, _, 0, by go_num, Nat.le_refl _, by unfold Hid; simp, R0, NumD.nil _ _, ⟨by omega, HY.out⟩, by unfold Hid; rw [List.drop_eq_nil_of_le (by rw [z1.out]; exact Nat.le_refl _), List.drop_eq_nil_of_le (by simp)]; simp [val], B0⟩
  case round =>
    clear R0 B0
    obtain ⟨k, Q, R, rfl, hk, HQ, HR, HNR, HRY, HV, hB⟩ := hrel
    rcases Nat.eq_zero_or_pos k with hk0 | hk0
    · subst hk0
      have hsrc := HR.out.srcAll (by rw [HQ.out]; unfold maxLen; omega)
      rw [HQ.out] at hsrc
      have HSRC := hide hsrc
      clear hsrc
      go_wp2_with fail
      refine (bare_any _ _ _ Q _ HSRC.out (by omega)).mono ?_
      rintro e w3 ⟨g, c', rfl, hs3, hB3⟩
      go_wp2
      go_ret2
      refine ⟨_, _, val 65536 Q, R, rfl, ⟨_, _, _, trm Q, rfl, hs3, trm_tr _, by have := trm_len Q; rw [HQ.out] at this; have := HL.out; omega, trm_val _ _⟩, HNR.out.below hB3, ?_, HRY.out.1, HRY.out.2, hB.trans (hB3.mono hB.size)⟩
      have := HV.out
      simp only [List.drop_zero] at this
      rw [← VX.out]
      exact this
    · obtain ⟨j, rfl⟩ : ∃ j, k = j + 1 := ⟨k - 1, by omega⟩
      obtain ⟨b, o, rfl, e1⟩ := (h1.below hB).at j (by omega)
      have hj1 : ((j + 1 : Nat) : Int) - 1 = (j : Int) := by omega
      rw [hj1]
      have hjI : (j : Int) < (n1 : Int) := by omega
      have hx0 := d1.out.at (by decide : (0 : Int) < 65536) j
      obtain ⟨d, hd⟩ : ∃ d, xs.getD j 0 = d := ⟨_, rfl⟩
      have HDD := hide hd
      rw [hd] at e1 hx0
      clear hd
      obtain ⟨ar, nr, cr, rs, hvr, sr, tr, lr, vr⟩ := HNR.out
      subst hvr
      have hlr : nr ≤ 5000 := by have := HL.out; omega
      have HVR := hide vr
      have ZR := hide sr.hlen
      have DR := hide sr.hdg
      clear vr tr lr HNR
      go_wp2_with (at_builtin; refine appG 26 8 Try.underlying26 Try.infoI _ rfl (.tmp 26) (.tmp 27) rfl wr.heap.size (.slice (some ⟨wr.heap.size, 0, none⟩) 1 1) [d] rfl (OwnG.lit _ [d] _ 1 rfl rfl (Nat.le_refl _) (by decide)) ar nr cr rs rfl (sr.alloc _) (nr + 1) (by simp [ZR.out]) (.inl (by simp)) (by omega) (by omega) (by simp) ?_; intro g1 c1' w1 ho1 hb1 hl1 hc1 hm1 hg1 hk1)
      have B1 : Below wr.heap.size wr w1 := ((Below.refl _ _).alloc (Nat.le_refl _) _).grown hg1 (by simp) (by intro k hk; cases hk; exact Nat.le_refl _)
      have s1' := ho1.toSrc (B := 65536) (by intro y hy; simp at hy; rcases hy with rfl | hy; exact hx0; exact DR.out y hy)
      have S1 := hide s1'
      clear s1' ho1 hg1
      go_wp2_with fail
      refine (bare_at _ _ _ ([d] ++ rs) _ S1.out (by omega)).mono ?_
      rintro e w2 ⟨gr, cr2, rfl, sr2, B2, hgr⟩
      obtain ⟨Rn, hRn⟩ : ∃ Rn, d + 65536 * R = Rn := ⟨_, rfl⟩
      have VRn : Hid (val 65536 (trm ([d] ++ rs)) = Rn) := by unfold Hid; rw [trm_val, ← hRn, ← HVR.out]; rfl
      have HRn := hide hRn
      have TRn := hide (trm_tr ([d] ++ rs))
      have LRn : Hid ((trm ([d] ++ rs)).length ≤ 5001) := by unfold Hid; have h9 := trm_len ([d] ++ rs); rw [List.length_append, ZR.out, List.length_singleton] at h9; omega
      obtain ⟨ts, hts⟩ : ∃ ts, trm ([d] ++ rs) = ts := ⟨_, rfl⟩
      rw [hts] at sr2 VRn TRn LRn ⊢
      clear hts hRn S1
      obtain ⟨nt, hnt⟩ : ∃ n, ts.length = n := ⟨_, rfl⟩
      have ZT := hide hnt
      rw [hnt] at sr2 LRn ⊢
      clear hnt
      have B12 : Below wr.heap.size wr w2 := B1.trans (B2.mono B1.size)
      have HGR : Hid (w.heap.size < gr ∧ wr.heap.size ≤ gr) := by unfold Hid; have := HR.out.lt; have := B1.size; omega
      have NR2 : Hid (NumD w2 (.slice (some ⟨gr, 0, none⟩) nt cr2) Rn 5001) := ⟨_, _, _, ts, rfl, sr2, TRn.out, LRn.out, VRn.out⟩
      have NY2 : Hid (NumD w2 (.slice a2 n2 c2) y L2) := (KY.out.below hB).below B12
      have HR2 : Hid (RowG .i64 65536 3 w2 w.heap.size Q) := HR.out.below B12
      have hB2 : Below w.heap.size w w2 := hB.trans (B12.mono hB.size)
      have S2 := hide sr2
      have RN0 : Hid (0 ≤ Rn ∧ Rn < 65536 * y) := by unfold Hid; have := HRY.out; have := HRn.out; omega
      have i3 : (nt : Int) ≤ 5001 := by have := LRn.out; omega
      clear sr2 B1 B2 B12 hgr sr
      by_cases hlen : nt < n2
      · have hlI : (nt : Int) < (n2 : Int) := by omega
        have HM : Hid (Rn < (0 + 1) * y) := by
          unfold Hid
          have := tr_len_lt (b := 65536) (by decide) S2.out.hdg d2.out T2.out (by rw [ZT.out, z2.out]; exact hlen)
          rw [VRn.out, VY.out] at this
          omega
        go_wp2
        go_loopw [9, 10] (fun a b wr => ∃ lo hi : Int, a = .int .i64 lo ∧ b = .int .i64 hi ∧ 0 ≤ lo ∧ lo ≤ hi ∧ hi ≤ 65535 ∧ Hid (lo * y ≤ Rn) ∧ Hid (Rn < (hi + 1) * y) ∧ Below w2.heap.size w2 wr) (fun a b _ => (intOf b - intOf a).toNat)
        case atStart => exact ⟨0, 0, rfl, rfl, by omega, by omega, by omega, by unfold Hid; rw [Int.zero_mul]; exact RN0.out.1, HM, Below.refl _ _⟩
        case round =>
          clear HM hlI hlen
          obtain ⟨lo, hi, rfl, rfl, hlo, hlh, hhi, HLO, HHI, hb⟩ := hrel
          by_cases hne : lo < hi
          · obtain ⟨mid, hmid⟩ : ∃ m, (lo + hi + 1) / 2 = m := ⟨_, rfl⟩
            have td : Int.tdiv (lo + hi + 1) 2 = mid := by rw [Int.tdiv_eq_ediv_of_nonneg (by omega)]; exact hmid
            have hm0 : lo < mid ∧ mid ≤ hi := by omega
            clear hmid
            have NY := NY2.out.below hb
            have NR := NR2.out.below hb
            go_wp2_with fail
            refine (times_any _ y L2 mid _ NY (by have := HL.out; omega) (by omega) (by omega)).mono ?_
            rintro e w5 ⟨vt, rfl, Nt, Bt⟩
            have Bt2 := hb.trans (Below.mono Bt hb.size)
            obtain ⟨cm, hcm⟩ : ∃ c, cmpI (y * mid) Rn = c := ⟨_, rfl⟩
            have cr := refCompare_any _ _ _ _ _ _ _ Nt (NR.below Bt)
            rw [hcm] at cr
            have CR := hide cr
            clear cr Nt NR NY Bt
            by_cases hc : y * mid ≤ Rn
            · have hcm0 : cm ≤ 0 := by
                rw [← hcm]
                unfold cmpI
                split
                · decide
                · rw [if_neg (by omega)]; decide
              have HC : Hid (mid * y ≤ Rn) := by unfold Hid; rw [Int.mul_comm]; exact hc
              clear hc hcm
              go_wp2_with fail
              refine CR.out.mono ?_
              rintro e w6 ⟨rfl, hD⟩
              have B6 := hD.below Bt2
              go_wp2
              go_roundw
              case rel => exact ⟨mid, hi, rfl, rfl, by omega, by omega, hhi, HC, HHI, B6⟩
              case measure => simp [intOf] <;> omega
            · have hcm0 : ¬ cm ≤ 0 := by
                rw [← hcm, cmpI_gt (by omega)]; decide
              have HC : Hid (Rn < (mid - 1 + 1) * y) := by unfold Hid; rw [show mid - 1 + 1 = mid by omega, Int.mul_comm]; omega
              clear hc hcm
              go_wp2_with fail
              refine CR.out.mono ?_
              rintro e w6 ⟨rfl, hD⟩
              have B6 := hD.below Bt2
              go_wp2
              go_roundw
              case rel => exact ⟨lo, mid - 1, rfl, rfl, by omega, by omega, by omega, HLO, HC, B6⟩
              case measure => simp [intOf] <;> omega
          · obtain rfl : lo = hi := by omega
            have HRw := HR2.out.below hb
            have ec := HRw.cell j (by rw [HQ.out]; omega)
            have ef := HRw.frozen j
            have gs := gSet wr w.heap.size j (.int .i64 lo)
            have HRs : Hid (RowG .i64 65536 3 (wr.setCell ⟨w.heap.size, j, none⟩ (.int .i64 lo)) w.heap.size (Q.set j lo)) := HRw.set j lo ⟨hlo, by omega⟩
            have hBw : Below w.heap.size w wr := hB2.trans (Below.mono hb hB2.size)
            have hBs : Below w.heap.size w (wr.setCell ⟨w.heap.size, j, none⟩ (.int .i64 lo)) := hBw.grown gs hBw.size (by intro k hk; cases hk; exact Nat.le_refl _)
            have NYs : Hid (NumD (wr.setCell ⟨w.heap.size, j, none⟩ (.int .i64 lo)) (.slice a2 n2 c2) y L2) := KY.out.below hBs
            have NRs : Hid (NumD (wr.setCell ⟨w.heap.size, j, none⟩ (.int .i64 lo)) (.slice (some ⟨gr, 0, none⟩) nt cr2) Rn 5001) := ⟨_, _, _, ts, rfl, (S2.out.below hb).grown gs (by intro b' o' hb' _ h'; simp at hb' h'; have := HGR.out; omega), TRn.out, LRn.out, VRn.out⟩
            have hQl : Hid (j < Q.length) := by unfold Hid; rw [HQ.out]; omega
            have HVN : Hid (val 65536 (xs.drop j) = y * val 65536 ((Q.set j lo).drop j) + (Rn - y * lo)) := by
              unfold Hid
              rw [drop_set_at Q j lo hQl.out, ← HRn.out]
              exact divD_step d R y _ lo _ _ HV.out (by rw [val_drop 65536 xs j (by rw [z1.out]; omega), HDD.out])
            have HRY' : Hid (0 ≤ Rn - y * lo ∧ Rn - y * lo < y) := by
              unfold Hid
              have q1 := HLO.out
              have q2 := HHI.out
              have q3 : (lo + 1) * y = lo * y + y := by rw [Int.add_mul, Int.one_mul]
              rw [Int.mul_comm y lo]
              omega
            have HG := hide gs
            clear HRw gs hBw
            go_wp2_with fail
            refine (times_any _ y L2 lo _ NYs.out (by have := HL.out; omega) hlo (by omega)).mono ?_
            rintro e w5 ⟨vt, rfl, Nt, Bt⟩
            go_wp2_with fail
            refine (refSub_any _ _ _ _ _ _ _ (NRs.out.below Bt) Nt (by omega) (by have := HRY'.out; omega)).mono ?_
            rintro e w6 ⟨vR, rfl, NR6, B6⟩
            have hB6 : Below w.heap.size w w6 := (hBs.trans (Below.mono Bt hBs.size)).trans (Below.mono B6 (by have := hBs.size; have := Bt.size; omega))
            have HR6 : Hid (RowG .i64 65536 3 w6 w.heap.size (Q.set j lo)) := (HRs.out.below Bt).below B6
            have NR7 : Hid (NumD w6 vR (Rn - y * lo) L2) := NR6.rebound L2 (by have := HRY'.out; have := HYP.out; omega)
            clear Nt Bt NR6 B6
            go_wp2
            go_roundw
            case rel => exact ⟨j, Q.set j lo, Rn - y * lo, by go_num, by omega, by unfold Hid; rw [List.length_set]; exact HQ.out, HR6, NR7, HRY', HVN, hB6⟩
            case measure => simp [intOf] <;> omega
      · have hlI : ¬ (nt : Int) < (n2 : Int) := by omega
        have HM : Hid (Rn < (65535 + 1) * y) := by unfold Hid; have := RN0.out; omega
        go_wp2
        go_loopw [9, 10] (fun a b wr => ∃ lo hi : Int, a = .int .i64 lo ∧ b = .int .i64 hi ∧ 0 ≤ lo ∧ lo ≤ hi ∧ hi ≤ 65535 ∧ Hid (lo * y ≤ Rn) ∧ Hid (Rn < (hi + 1) * y) ∧ Below w2.heap.size w2 wr) (fun a b _ => (intOf b - intOf a).toNat)
        case atStart => exact ⟨0, 65535, rfl, rfl, by omega, by omega, by omega, by unfold Hid; rw [Int.zero_mul]; exact RN0.out.1, HM, Below.refl _ _⟩
        case round =>
          clear HM hlI hlen
          obtain ⟨lo, hi, rfl, rfl, hlo, hlh, hhi, HLO, HHI, hb⟩ := hrel
          by_cases hne : lo < hi
          · obtain ⟨mid, hmid⟩ : ∃ m, (lo + hi + 1) / 2 = m := ⟨_, rfl⟩
            have td : Int.tdiv (lo + hi + 1) 2 = mid := by rw [Int.tdiv_eq_ediv_of_nonneg (by omega)]; exact hmid
            have hm0 : lo < mid ∧ mid ≤ hi := by omega
            clear hmid
            have NY := NY2.out.below hb
            have NR := NR2.out.below hb
            go_wp2_with fail
            refine (times_any _ y L2 mid _ NY (by have := HL.out; omega) (by omega) (by omega)).mono ?_
            rintro e w5 ⟨vt, rfl, Nt, Bt⟩
            have Bt2 := hb.trans (Below.mono Bt hb.size)
            obtain ⟨cm, hcm⟩ : ∃ c, cmpI (y * mid) Rn = c := ⟨_, rfl⟩
            have cr := refCompare_any _ _ _ _ _ _ _ Nt (NR.below Bt)
            rw [hcm] at cr
            have CR := hide cr
            clear cr Nt NR NY Bt
            by_cases hc : y * mid ≤ Rn
            · have hcm0 : cm ≤ 0 := by
                rw [← hcm]
                unfold cmpI
                split
                · decide
                · rw [if_neg (by omega)]; decide
              have HC : Hid (mid * y ≤ Rn) := by unfold Hid; rw [Int.mul_comm]; exact hc
              clear hc hcm
              go_wp2_with fail
              refine CR.out.mono ?_
              rintro e w6 ⟨rfl, hD⟩
              have B6 := hD.below Bt2
              go_wp2
              go_roundw
              case rel => exact ⟨mid, hi, rfl, rfl, by omega, by omega, hhi, HC, HHI, B6⟩
              case measure => simp [intOf] <;> omega
            · have hcm0 : ¬ cm ≤ 0 := by
                rw [← hcm, cmpI_gt (by omega)]; decide
              have HC : Hid (Rn < (mid - 1 + 1) * y) := by unfold Hid; rw [show mid - 1 + 1 = mid by omega, Int.mul_comm]; omega
              clear hc hcm
              go_wp2_with fail
              refine CR.out.mono ?_
              rintro e w6 ⟨rfl, hD⟩
              have B6 := hD.below Bt2
              go_wp2
              go_roundw
              case rel => exact ⟨lo, mid - 1, rfl, rfl, by omega, by omega, by omega, HLO, HC, B6⟩
              case measure => simp [intOf] <;> omega
          · obtain rfl : lo = hi := by omega
            have HRw := HR2.out.below hb
            have ec := HRw.cell j (by rw [HQ.out]; omega)
            have ef := HRw.frozen j
            have gs := gSet wr w.heap.size j (.int .i64 lo)
            have HRs : Hid (RowG .i64 65536 3 (wr.setCell ⟨w.heap.size, j, none⟩ (.int .i64 lo)) w.heap.size (Q.set j lo)) := HRw.set j lo ⟨hlo, by omega⟩
            have hBw : Below w.heap.size w wr := hB2.trans (Below.mono hb hB2.size)
            have hBs : Below w.heap.size w (wr.setCell ⟨w.heap.size, j, none⟩ (.int .i64 lo)) := hBw.grown gs hBw.size (by intro k hk; cases hk; exact Nat.le_refl _)
            have NYs : Hid (NumD (wr.setCell ⟨w.heap.size, j, none⟩ (.int .i64 lo)) (.slice a2 n2 c2) y L2) := KY.out.below hBs
            have NRs : Hid (NumD (wr.setCell ⟨w.heap.size, j, none⟩ (.int .i64 lo)) (.slice (some ⟨gr, 0, none⟩) nt cr2) Rn 5001) := ⟨_, _, _, ts, rfl, (S2.out.below hb).grown gs (by intro b' o' hb' _ h'; simp at hb' h'; have := HGR.out; omega), TRn.out, LRn.out, VRn.out⟩
            have hQl : Hid (j < Q.length) := by unfold Hid; rw [HQ.out]; omega
            have HVN : Hid (val 65536 (xs.drop j) = y * val 65536 ((Q.set j lo).drop j) + (Rn - y * lo)) := by
              unfold Hid
              rw [drop_set_at Q j lo hQl.out, ← HRn.out]
              exact divD_step d R y _ lo _ _ HV.out (by rw [val_drop 65536 xs j (by rw [z1.out]; omega), HDD.out])
            have HRY' : Hid (0 ≤ Rn - y * lo ∧ Rn - y * lo < y) := by
              unfold Hid
              have q1 := HLO.out
              have q2 := HHI.out
              have q3 : (lo + 1) * y = lo * y + y := by rw [Int.add_mul, Int.one_mul]
              rw [Int.mul_comm y lo]
              omega
            have HG := hide gs
            clear HRw gs hBw
            go_wp2_with fail
            refine (times_any _ y L2 lo _ NYs.out (by have := HL.out; omega) hlo (by omega)).mono ?_
            rintro e w5 ⟨vt, rfl, Nt, Bt⟩
            go_wp2_with fail
            refine (refSub_any _ _ _ _ _ _ _ (NRs.out.below Bt) Nt (by omega) (by have := HRY'.out; omega)).mono ?_
            rintro e w6 ⟨vR, rfl, NR6, B6⟩
            have hB6 : Below w.heap.size w w6 := (hBs.trans (Below.mono Bt hBs.size)).trans (Below.mono B6 (by have := hBs.size; have := Bt.size; omega))
            have HR6 : Hid (RowG .i64 65536 3 w6 w.heap.size (Q.set j lo)) := (HRs.out.below Bt).below B6
            have NR7 : Hid (NumD w6 vR (Rn - y * lo) L2) := NR6.rebound L2 (by have := HRY'.out; have := HYP.out; omega)
            clear Nt Bt NR6 B6
            go_wp2
            go_roundw
            case rel => exact ⟨j, Q.set j lo, Rn - y * lo, by go_num, by omega, by unfold Hid; rw [List.length_set]; exact HQ.out, HR6, NR7, HRY', HVN, hB6⟩
            case measure => simp [intOf] <;> omega

end Go.Proofs.Ytobdpcmafjhnlaa
