/-
  The document's Compare, Add and Sub.
-/
import Derived.Test.YtobdpcmafjhnlaaNRefLimbs
namespace Go.Proofs.Ytobdpcmafjhnlaa
open Go.RowKit Go.IntWalk

set_option maxRecDepth 100000 in
set_option maxHeartbeats 1000000 in
theorem refCompare_any (v1 v2 : Value) (x y : Int) (L1 L2 : Nat) (w : World) (k1 : NumD w v1 x L1) (k2 : NumD w v2 y L2) :
    Calls Try.prog 27 #[v1, v2] w fun e w' => e = .returned (.int .i64 (cmpI x y)) ∧ Drew w w' := by
  obtain ⟨a1, n1, c1, xs, rfl, h1, t1, _, vx⟩ := k1
  obtain ⟨a2, n2, c2, ys, rfl, h2, t2, _, vy⟩ := k2
  rw [← vx, ← vy]
  clear vx vy
  have l1 := hide h1.hlen
  have l2 := hide h2.hlen
  have d1 := hide h1.hdg
  have d2 := hide h2.hdg
  obtain ⟨m1, _⟩ := h1.lenI
  obtain ⟨m2, _⟩ := h2.lenI
  have T1 := hide t1
  have T2 := hide t2
  clear t1 t2
  rcases Nat.lt_trichotomy n1 n2 with hn | hn | hn
  · have HV := hide (cmpI_lt (tr_len_lt (b := 65536) (by decide) d1.out d2.out T2.out (by rw [l1.out, l2.out]; exact hn)))
    have hn' : (n1 : Int) < (n2 : Int) := by omega
    go_enter Try.func27, Try.ntmps27
    go_wp2
    go_ret
    exact ⟨by rw [HV.out]; rfl, Drew.refl _⟩
  · subst hn
    go_enter Try.func27, Try.ntmps27
    go_wp2
    go_loopw [5] (fun i wr => ∃ k : Nat, k ≤ n1 ∧ i = .int .i64 ((k : Int) - 1) ∧ xs.drop k = ys.drop k ∧ Drew w wr) (fun i _ => ((intOf i) + 1).toNat)
    case atStart => exact ⟨n1, Nat.le_refl _, by go_num, by rw [List.drop_eq_nil_of_le (by rw [l1.out]; exact Nat.le_refl _), List.drop_eq_nil_of_le (by rw [l2.out]; exact Nat.le_refl _)], Drew.refl _⟩
    case round =>
      obtain ⟨k, hk, rfl, hd, hD⟩ := hrel
      have HD := hide hd
      clear hd
      have s1 := hD.src h1
      have s2 := hD.src h2
      rcases Nat.eq_zero_or_pos k with hk0 | hk0
      · subst hk0
        have HE : Hid (xs = ys) := by unfold Hid; simpa using HD.out
        go_wp2
        go_ret
        rw [HE.out, cmpI_eq]
        exact ⟨rfl, hD⟩
      · obtain ⟨j, rfl⟩ : ∃ j, k = j + 1 := ⟨k - 1, by omega⟩
        obtain ⟨b, o, rfl, e1⟩ := s1.at j (by omega)
        obtain ⟨b', o', rfl, e2⟩ := s2.at j (by omega)
        have hj1 : ((j + 1 : Nat) : Int) - 1 = (j : Int) := by omega
        rw [hj1]
        have g2 : (j : Int) < (n1 : Int) := by omega
        have A1 := hide (cmpI_top (b := 65536) (by decide) d1.out d2.out j HD.out (by rw [l1.out]; omega) (by rw [l1.out, l2.out]))
        have A2 := hide (cmpI_top (b := 65536) (by decide) d2.out d1.out j HD.out.symm (by rw [l2.out]; omega) (by rw [l1.out, l2.out]))
        have A3 := hide (drop_step j (by rw [l1.out]; omega) (by rw [l2.out]; omega) HD.out)
        obtain ⟨x, hx⟩ : ∃ x, xs.getD j 0 = x := ⟨_, rfl⟩
        obtain ⟨y, hy⟩ : ∃ y, ys.getD j 0 = y := ⟨_, rfl⟩
        rw [hx, hy] at A1 A2 A3
        rw [hx] at e1
        rw [hy] at e2
        clear hx hy
        rcases (show x < y ∨ y < x ∨ x = y by omega) with hxy | hxy | hxy
        · have HV := hide (cmpI_lt (A1.out hxy))
          go_wp2_with fail
          go_quiet (fail)
          go_wp2
          go_ret
          exact ⟨by rw [HV.out]; rfl, by first | exact hD | exact hD.more _⟩
        · have HV := hide (cmpI_gt (A2.out hxy))
          have hyx : ¬ x < y := by omega
          go_wp2_with fail
          go_quiet (fail)
          go_wp2_with fail
          go_quiet (fail)
          go_wp2
          go_ret
          exact ⟨by rw [HV.out]; rfl, by first | exact hD | exact hD.more _ | exact (hD.more _).more _⟩
        · have HN := hide (A3.out hxy)
          subst hxy
          go_wp2_with fail
          go_quiet (fail)
          go_wp2_with fail
          go_quiet (fail)
          go_wp2
          go_roundw
          case rel => exact ⟨j, by omega, by go_num, HN.out, by first | exact hD | exact hD.more _ | exact (hD.more _).more _⟩
          case measure => simp [intOf] <;> omega
  · have HV := hide (cmpI_gt (tr_len_lt (b := 65536) (by decide) d2.out d1.out T1.out (by rw [l1.out, l2.out]; exact hn)))
    have hn' : (n2 : Int) < (n1 : Int) := by omega
    have hn2 : ¬ (n1 : Int) < (n2 : Int) := by omega
    go_enter Try.func27, Try.ntmps27
    go_wp2
    go_ret
    exact ⟨by rw [HV.out]; rfl, Drew.refl _⟩

theorem sumD_step (b O P d c x y C T U : Int) (h : x + y + C = b * c + d) (hi : O + P * C = T + U) : O + P * d + b * P * c = T + x * P + (U + y * P) := by
  have e : O + P * d + b * P * c = O + P * (b * c + d) := by grind
  rw [e, ← h]
  grind

theorem difD_step (b O P d c x y C T U : Int) (h : x - y - C = d - b * c) (hi : O - P * C = T - U) : O + P * d - b * P * c = T + x * P - (U + y * P) := by
  have e : O + P * d - b * P * c = O + P * (d - b * c) := by grind
  rw [e, ← h]
  grind

theorem no_borrowD (P Z k s : Int) (hP : 0 < P) (hZ : Z < P) (hk : 0 ≤ k) (h : Z - P * k = s) (hs : 0 ≤ s) : k = 0 := by
  rcases Int.lt_or_le 0 k with h1 | h1
  · exfalso
    have := Int.mul_le_mul_of_nonneg_left (show 1 ≤ k by omega) (show 0 ≤ P by omega)
    omega
  · omega


set_option maxRecDepth 100000 in
set_option maxHeartbeats 2000000 in
theorem refAdd_any (v1 v2 : Value) (x y : Int) (L1 L2 : Nat) (w : World) (k1 : NumD w v1 x L1) (k2 : NumD w v2 y L2) (l1 : L1 ≤ 10000) (l2 : L2 ≤ 10000) :
    Calls Try.prog 42 #[v1, v2] w fun e w' => ∃ v, e = .returned v ∧ NumD w' v (x + y) 10001 ∧ Below w.heap.size w w' := by
  obtain ⟨a1, n1, c1, xs, rfl, h1, t1, k1, vx⟩ := k1
  obtain ⟨a2, n2, c2, ys, rfl, h2, t2, k2, vy⟩ := k2
  rw [← vx, ← vy]
  clear vx vy t1 t2
  have z1 := hide h1.hlen
  have z2 := hide h2.hlen
  have d1 := hide h1.hdg
  have d2 := hide h2.hdg
  obtain ⟨M, hM⟩ : ∃ M, max n1 n2 = M := ⟨_, rfl⟩
  have HM : Hid (n1 ≤ M ∧ n2 ≤ M ∧ M ≤ 10000) := by unfold Hid; omega
  have i1 : (n1 : Int) ≤ 10000 := by omega
  have i2 : (n2 : Int) ≤ 10000 := by omega
  clear hM k1 k2 l1 l2
  go_enter Try.func42, Try.ntmps42
  go_wp2
  go_loopw [5, 6, 7] (fun v cv i wr => ∃ (k : Nat) (C : Int) (O : List Int), i = .int .i64 k ∧ cv = .int .i64 C ∧ Hid (k ≤ M ∧ C ≤ 1 ∨ k = M + 1 ∧ C = 0) ∧ 0 ≤ C ∧ Hid (OwnG .i64 3 wr w.heap.size v O) ∧ Hid (Dg 65536 O) ∧ Hid (O.length = k) ∧ Hid (val 65536 O + pw 65536 k * C = val 65536 (xs.take k) + val 65536 (ys.take k)) ∧ Below w.heap.size w wr) (fun _ _ i _ => M + 1 - (intOf i).toNat)
  case atStart => exact ⟨0, 0, [], rfl, rfl, .inl ⟨Nat.zero_le _, by omega⟩, by omega, OwnG.nil _ _, by intro x hx; simp at hx, rfl, by unfold Hid; simp [val], Below.refl _ _⟩
  case round =>
    obtain ⟨k, C, O, rfl, rfl, HKC, hC0, HO, HDO, HLO, HVO, hB⟩ := hrel
    by_cases hgo : k < n1 ∨ k < n2 ∨ 0 < C
    · have hkM : k ≤ M ∧ C ≤ 1 := by
        have := HKC.out
        have := HM.out
        omega
      have hx0 := d1.out.at (by decide : (0 : Int) < 65536) k
      have hy0 := d2.out.at (by decide : (0 : Int) < 65536) k
      obtain ⟨x, hx⟩ : ∃ x, xs.getD k 0 = x := ⟨_, rfl⟩
      obtain ⟨y, hy⟩ : ∃ y, ys.getD k 0 = y := ⟨_, rfl⟩
      have HC1 : Hid (∀ W : World, SrcG .i64 65536 W a1 n1 c1 xs → Calls Try.prog 59 #[.slice a1 n1 c1, .int .i64 (k : Int)] W fun e w' => e = .returned (.int .i64 x) ∧ w' = W) := by
        intro W hW
        rw [← hx]
        exact digit_any a1 n1 c1 xs k _ rfl W hW
      have HC2 : Hid (∀ W : World, SrcG .i64 65536 W a2 n2 c2 ys → Calls Try.prog 59 #[.slice a2 n2 c2, .int .i64 (k : Int)] W fun e w' => e = .returned (.int .i64 y) ∧ w' = W) := by
        intro W hW
        rw [← hy]
        exact digit_any a2 n2 c2 ys k _ rfl W hW
      rw [hx] at hx0
      rw [hy] at hy0
      have HXX := hide hx
      have HYY := hide hy
      clear hx hy
      have s1 := h1.below hB
      have s2 := h2.below hB
      have hkI : (k : Int) ≤ 10000 := by have := HM.out; omega
      have hC1 : C ≤ 1 := hkM.2
      obtain ⟨d, hd⟩ : ∃ d, (x + y + C) % 65536 = d := ⟨_, rfl⟩
      obtain ⟨c, hc⟩ : ∃ c, (x + y + C) / 65536 = c := ⟨_, rfl⟩
      have r1 : Int.tmod (x + y + C) 65536 = d := by rw [Int.tmod_eq_emod_of_nonneg (by omega)]; exact hd
      have r2 : Int.tdiv (x + y + C) 65536 = c := by rw [Int.tdiv_eq_ediv_of_nonneg (by omega)]; exact hc
      have hsum : x + y + C = 65536 * c + d := by omega
      have hd0 : 0 ≤ d ∧ d < 65536 := by omega
      have hc0 : 0 ≤ c := by omega
      have HM' : Hid (k + 1 ≤ M ∧ c ≤ 1 ∨ k + 1 = M + 1 ∧ c = 0) := by
        unfold Hid
        have hm := HM.out
        rcases Nat.lt_or_ge k M with h | h
        · left; omega
        · right
          have e1 : x = 0 := by rw [← HXX.out, List.getD, List.getElem?_eq_none (by rw [z1.out]; omega)]; rfl
          have e2 : y = 0 := by rw [← HYY.out, List.getD, List.getElem?_eq_none (by rw [z2.out]; omega)]; rfl
          omega
      have wa : IntKind.i64.wrap (x + y) = x + y := i64_in _ (by omega)
      have wb : IntKind.i64.wrap (x + y + C) = x + y + C := i64_in _ (by omega)
      have wd : IntKind.i64.wrap d = d := i64_in _ (by omega)
      have wc : IntKind.i64.wrap c = c := i64_in _ (by omega)
      clear hd hc
      have HKM := hide hkM
      clear hkM
      have hk9 : k ≤ 10000 := by omega
      by_cases g1 : k < n1
      · have g1' : (k : Int) < (n1 : Int) := by omega
        clear hgo g1
        have HV' : Hid (val 65536 (O ++ [d]) + pw 65536 (k + 1) * c = val 65536 (xs.take (k + 1)) + val 65536 (ys.take (k + 1))) := by
          unfold Hid
          rw [val_append, HLO.out, val_take_succ, val_take_succ, HXX.out, HYY.out, show pw 65536 (k + 1) = 65536 * pw 65536 k from rfl, show val 65536 [d] = d by simp [val]]
          exact sumD_step 65536 _ _ d c x y C _ _ hsum HVO.out
        clear hsum
        go_wp2_with (first | (at_builtin; refine appG 26 8 Try.underlying26 Try.infoI _ rfl (.tmp 34) (.tmp 37) rfl w.heap.size _ O rfl (HO.out.alloc _) (some ⟨wr.heap.size, 0, none⟩) 1 1 [d] rfl (SrcG.litAt (B := 65536) [d] _ 1 _ rfl rfl (by intro x hx; simp at hx; omega) (by decide) rfl) (k + 1) (by rw [List.length_append, HLO.out]; rfl) (.inr (by simp)) (by omega) (by omega) (by have := hB.size; simp; omega) ?_; intro g1 c1 w2 ho1 hb1 hl1 hc1 hm1 hg1 hk1)| (go_at_call_of 59 (Value.slice a1 n1 c1); refine (HC1.out _ ?_).mono ?_; exact s1; rintro e w1 ⟨rfl, hw⟩; have hw2 := hw.symm; subst hw2) | (go_at_call 59; refine (HC2.out _ ?_).mono ?_; exact s2; rintro e w1 ⟨rfl, hw⟩; have hw2 := hw.symm; subst hw2))
        have hB2 : Below w.heap.size w w2 := (hB.alloc hB.size _).grown hg1 (by have := hB.size; simp; omega) (by intro k hk; exact (HO.out.lt k hk).1)
        go_roundw
        case rel => exact ⟨k + 1, c, O ++ [d], by go_num, rfl, HM', hc0, ho1, HDO.out.append (by intro x hx; simp at hx; omega), by unfold Hid; rw [List.length_append, HLO.out]; rfl, HV', hB2⟩
        case measure => have hz9 := HKM.out; simp [intOf] <;> omega
      · have g1' : ¬ (k : Int) < (n1 : Int) := by omega
        by_cases g2 : k < n2
        · have g2' : (k : Int) < (n2 : Int) := by omega
          clear hgo g1 g2
          have HV' : Hid (val 65536 (O ++ [d]) + pw 65536 (k + 1) * c = val 65536 (xs.take (k + 1)) + val 65536 (ys.take (k + 1))) := by
            unfold Hid
            rw [val_append, HLO.out, val_take_succ, val_take_succ, HXX.out, HYY.out, show pw 65536 (k + 1) = 65536 * pw 65536 k from rfl, show val 65536 [d] = d by simp [val]]
            exact sumD_step 65536 _ _ d c x y C _ _ hsum HVO.out
          clear hsum
          go_wp2_with (first | (at_builtin; refine appG 26 8 Try.underlying26 Try.infoI _ rfl (.tmp 34) (.tmp 37) rfl w.heap.size _ O rfl (HO.out.alloc _) (some ⟨wr.heap.size, 0, none⟩) 1 1 [d] rfl (SrcG.litAt (B := 65536) [d] _ 1 _ rfl rfl (by intro x hx; simp at hx; omega) (by decide) rfl) (k + 1) (by rw [List.length_append, HLO.out]; rfl) (.inr (by simp)) (by omega) (by omega) (by have := hB.size; simp; omega) ?_; intro g1 c1 w2 ho1 hb1 hl1 hc1 hm1 hg1 hk1)| (go_at_call_of 59 (Value.slice a1 n1 c1); refine (HC1.out _ ?_).mono ?_; exact s1; rintro e w1 ⟨rfl, hw⟩; have hw2 := hw.symm; subst hw2) | (go_at_call 59; refine (HC2.out _ ?_).mono ?_; exact s2; rintro e w1 ⟨rfl, hw⟩; have hw2 := hw.symm; subst hw2))
          have hB2 : Below w.heap.size w w2 := (hB.alloc hB.size _).grown hg1 (by have := hB.size; simp; omega) (by intro k hk; exact (HO.out.lt k hk).1)
          go_roundw
          case rel => exact ⟨k + 1, c, O ++ [d], by go_num, rfl, HM', hc0, ho1, HDO.out.append (by intro x hx; simp at hx; omega), by unfold Hid; rw [List.length_append, HLO.out]; rfl, HV', hB2⟩
          case measure => have hz9 := HKM.out; simp [intOf] <;> omega
        · have g2' : ¬ (k : Int) < (n2 : Int) := by omega
          have g3' : 0 < C := by omega
          clear hgo g1 g2
          have HV' : Hid (val 65536 (O ++ [d]) + pw 65536 (k + 1) * c = val 65536 (xs.take (k + 1)) + val 65536 (ys.take (k + 1))) := by
            unfold Hid
            rw [val_append, HLO.out, val_take_succ, val_take_succ, HXX.out, HYY.out, show pw 65536 (k + 1) = 65536 * pw 65536 k from rfl, show val 65536 [d] = d by simp [val]]
            exact sumD_step 65536 _ _ d c x y C _ _ hsum HVO.out
          clear hsum
          go_wp2_with (first | (at_builtin; refine appG 26 8 Try.underlying26 Try.infoI _ rfl (.tmp 34) (.tmp 37) rfl w.heap.size _ O rfl (HO.out.alloc _) (some ⟨wr.heap.size, 0, none⟩) 1 1 [d] rfl (SrcG.litAt (B := 65536) [d] _ 1 _ rfl rfl (by intro x hx; simp at hx; omega) (by decide) rfl) (k + 1) (by rw [List.length_append, HLO.out]; rfl) (.inr (by simp)) (by omega) (by omega) (by have := hB.size; simp; omega) ?_; intro g1 c1 w2 ho1 hb1 hl1 hc1 hm1 hg1 hk1)| (go_at_call_of 59 (Value.slice a1 n1 c1); refine (HC1.out _ ?_).mono ?_; exact s1; rintro e w1 ⟨rfl, hw⟩; have hw2 := hw.symm; subst hw2) | (go_at_call 59; refine (HC2.out _ ?_).mono ?_; exact s2; rintro e w1 ⟨rfl, hw⟩; have hw2 := hw.symm; subst hw2))
          have hB2 : Below w.heap.size w w2 := (hB.alloc hB.size _).grown hg1 (by have := hB.size; simp; omega) (by intro k hk; exact (HO.out.lt k hk).1)
          go_roundw
          case rel => exact ⟨k + 1, c, O ++ [d], by go_num, rfl, HM', hc0, ho1, HDO.out.append (by intro x hx; simp at hx; omega), by unfold Hid; rw [List.length_append, HLO.out]; rfl, HV', hB2⟩
          case measure => have hz9 := HKM.out; simp [intOf] <;> omega
    · have g1 : ¬ (k : Int) < (n1 : Int) := by omega
      have g2 : ¬ (k : Int) < (n2 : Int) := by omega
      have g3 : C = 0 := by omega
      have HK : Hid (n1 ≤ k ∧ n2 ≤ k ∧ k ≤ 10001) := by
        unfold Hid
        have := HKC.out
        have := HM.out
        omega
      subst g3
      clear hgo
      have hk9 : k ≤ 1000000 := by have := HK.out; omega
      obtain ⟨aO, cO, hsh⟩ := HO.out.shape
      have hsrc := (hsh ▸ HO.out : OwnG .i64 3 wr w.heap.size (.slice aO O.length cO) O).toSrc HDO.out
      rw [HLO.out] at hsh hsrc
      subst hsh
      have HSRC := hide hsrc
      clear hsrc HO
      go_wp2_with fail
      refine (bare_any _ _ _ O _ HSRC.out (by omega)).mono ?_
      rintro e w3 ⟨g, c', rfl, hs3, hB3⟩
      go_wp2
      go_ret
      refine ⟨_, rfl, ⟨_, _, _, trm O, rfl, hs3, trm_tr _, ?_, ?_⟩, hB.trans (hB3.mono hB.size)⟩
      · have := trm_len O; rw [HLO.out] at this; have := HK.out; omega
      · have e := HVO.out
        rw [List.take_of_length_le (by rw [z1.out]; exact HK.out.1), List.take_of_length_le (by rw [z2.out]; exact HK.out.2.1)] at e
        rw [trm_val]
        omega

set_option maxRecDepth 100000 in
set_option maxHeartbeats 2000000 in
theorem refSub_any (v1 v2 : Value) (x y : Int) (L1 L2 : Nat) (w : World) (k1 : NumD w v1 x L1) (k2 : NumD w v2 y L2) (l1 : L1 ≤ 20000) (hle : y ≤ x) :
    Calls Try.prog 44 #[v1, v2] w fun e w' => ∃ v, e = .returned v ∧ NumD w' v (x - y) L1 ∧ Below w.heap.size w w' := by
  obtain ⟨a1, n1, c1, xs, rfl, h1, t1, k1, vx⟩ := k1
  obtain ⟨a2, n2, c2, ys, rfl, h2, t2, k2, vy⟩ := k2
  rw [← vx, ← vy]
  rw [← vx, ← vy] at hle
  clear vx vy
  have z1 := hide h1.hlen
  have z2 := hide h2.hlen
  have d1 := hide h1.hdg
  have d2 := hide h2.hdg
  have hn21 : n2 ≤ n1 := by
    rcases Nat.lt_or_ge n1 n2 with h | h
    · exfalso
      have := tr_len_lt (b := 65536) (by decide) d1.out d2.out t2 (by rw [z1.out, z2.out]; exact h)
      omega
    · exact h
  have HLE := hide hle
  have HK1 : Hid (n1 ≤ L1 ∧ n2 ≤ n1) := ⟨k1, hn21⟩
  have i1 : (n1 : Int) ≤ 20000 := by omega
  clear hle t1 t2 k1 k2 l1 hn21
  go_enter Try.func44, Try.ntmps44
  go_wp2
  go_loopw [5, 6, 7] (fun v cv i wr => ∃ (k : Nat) (C : Int) (O : List Int), i = .int .i64 k ∧ k ≤ n1 ∧ cv = .int .i64 C ∧ 0 ≤ C ∧ C ≤ 1 ∧ Hid (OwnG .i64 3 wr w.heap.size v O) ∧ Hid (Dg 65536 O) ∧ Hid (O.length = k) ∧ Hid (val 65536 O - pw 65536 k * C = val 65536 (xs.take k) - val 65536 (ys.take k)) ∧ Below w.heap.size w wr) (fun _ _ i _ => n1 - (intOf i).toNat)
  case atStart => exact ⟨0, 0, [], rfl, Nat.zero_le _, rfl, by omega, by omega, OwnG.nil _ _, by intro x hx; simp at hx, rfl, by unfold Hid; simp [val], Below.refl _ _⟩
  case round =>
    obtain ⟨k, C, O, rfl, hkn, rfl, hC0, hC1, HO, HDO, HLO, HVO, hB⟩ := hrel
    by_cases hk : k < n1
    · have hkI : (k : Int) < (n1 : Int) := by omega
      have hx0 := d1.out.at (by decide : (0 : Int) < 65536) k
      have hy0 := d2.out.at (by decide : (0 : Int) < 65536) k
      obtain ⟨x, hx⟩ : ∃ x, xs.getD k 0 = x := ⟨_, rfl⟩
      obtain ⟨y, hy⟩ : ∃ y, ys.getD k 0 = y := ⟨_, rfl⟩
      have HC1 : Hid (∀ W : World, SrcG .i64 65536 W a1 n1 c1 xs → Calls Try.prog 59 #[.slice a1 n1 c1, .int .i64 (k : Int)] W fun e w' => e = .returned (.int .i64 x) ∧ w' = W) := by
        intro W hW
        rw [← hx]
        exact digit_any a1 n1 c1 xs k _ rfl W hW
      have HC2 : Hid (∀ W : World, SrcG .i64 65536 W a2 n2 c2 ys → Calls Try.prog 59 #[.slice a2 n2 c2, .int .i64 (k : Int)] W fun e w' => e = .returned (.int .i64 y) ∧ w' = W) := by
        intro W hW
        rw [← hy]
        exact digit_any a2 n2 c2 ys k _ rfl W hW
      rw [hx] at hx0
      rw [hy] at hy0
      have HXX := hide hx
      have HYY := hide hy
      clear hx hy
      have s1 := h1.below hB
      have s2 := h2.below hB
      obtain ⟨b, o, ha, e1⟩ := s1.at k hk
      rw [HXX.out] at e1
      have HC1' := hide ha
      clear HC1 s1
      subst ha
      have wa : IntKind.i64.wrap (x - y) = x - y := i64_in _ (by omega)
      have wb : IntKind.i64.wrap (x - y - C) = x - y - C := i64_in _ (by omega)
      by_cases hneg : x - y - C < 0
      · obtain ⟨d, hd⟩ : ∃ d, x - y - C + 65536 = d := ⟨_, rfl⟩
        have wd : IntKind.i64.wrap (x - y - C + 65536) = d := by rw [hd]; exact i64_in _ (by omega)
        have hsum : x - y - C = d - 65536 * 1 := by omega
        have hd0 : 0 ≤ d ∧ d < 65536 := by omega
        clear hd
        have HV' : Hid (val 65536 (O ++ [d]) - pw 65536 (k + 1) * 1 = val 65536 (xs.take (k + 1)) - val 65536 (ys.take (k + 1))) := by
          unfold Hid
          rw [val_append, HLO.out, val_take_succ, val_take_succ, HXX.out, HYY.out, show pw 65536 (k + 1) = 65536 * pw 65536 k from rfl, show val 65536 [d] = d by simp [val]]
          exact difD_step 65536 _ _ d 1 x y C _ _ hsum HVO.out
        clear hsum
        go_wp2_with fail
        go_quiet ((go_at_call 59; exact Calls.quiet_of_same (HC2.out _ (by exact s2.heap rfl))))
        go_wp2_with (at_builtin; refine appG 26 8 Try.underlying26 Try.infoI _ rfl (.tmp 29) (.tmp 31) rfl w.heap.size _ O rfl (HO.out.below (w' := (wr.drewN nq).alloc _) (D := wr.heap.size) (((Drew.refl wr).more nq).below (Below.refl _ _) |>.alloc (Nat.le_refl _) _) (fun k hk => (HO.out.lt k hk).2)) (some ⟨wr.heap.size, 0, none⟩) 1 1 [d] rfl (SrcG.litAt (B := 65536) [d] _ 1 _ rfl rfl (by intro x hx; simp at hx; omega) (by decide) rfl) (k + 1) (by rw [List.length_append, HLO.out]; rfl) (.inr (by simp)) (by omega) (by omega) (by have := hB.size; simp; omega) ?_; intro g1 c1 w2 ho1 hb1 hl1 hc1 hm1 hg1 hk1)
        have hBq : Below w.heap.size w (wr.drewN nq) := ((Drew.refl wr).more nq).below hB
        have hB2 : Below w.heap.size w w2 := (hBq.alloc hBq.size _).grown hg1 (by have := hB.size; simp; omega) (by intro k hk; exact (HO.out.lt k hk).1)
        go_roundw
        case rel => exact ⟨k + 1, 1, O ++ [d], by go_num, by omega, rfl, by omega, by omega, ho1, HDO.out.append (by intro x hx; simp at hx; omega), by unfold Hid; rw [List.length_append, HLO.out]; rfl, HV', hB2⟩
        case measure => simp [intOf] <;> omega
      · have hsum : x - y - C = x - y - C - 65536 * 0 := by omega
        have hd0 : 0 ≤ x - y - C ∧ x - y - C < 65536 := by omega
        have HV' : Hid (val 65536 (O ++ [(x - y - C)]) - pw 65536 (k + 1) * 0 = val 65536 (xs.take (k + 1)) - val 65536 (ys.take (k + 1))) := by
          unfold Hid
          rw [val_append, HLO.out, val_take_succ, val_take_succ, HXX.out, HYY.out, show pw 65536 (k + 1) = 65536 * pw 65536 k from rfl, show val 65536 [(x - y - C)] = (x - y - C) by simp [val]]
          exact difD_step 65536 _ _ (x - y - C) 0 x y C _ _ hsum HVO.out
        clear hsum
        go_wp2_with fail
        go_quiet ((go_at_call 59; exact Calls.quiet_of_same (HC2.out _ (by exact s2.heap rfl))))
        go_wp2_with (at_builtin; refine appG 26 8 Try.underlying26 Try.infoI _ rfl (.tmp 29) (.tmp 31) rfl w.heap.size _ O rfl (HO.out.below (w' := (wr.drewN nq).alloc _) (D := wr.heap.size) (((Drew.refl wr).more nq).below (Below.refl _ _) |>.alloc (Nat.le_refl _) _) (fun k hk => (HO.out.lt k hk).2)) (some ⟨wr.heap.size, 0, none⟩) 1 1 [(x - y - C)] rfl (SrcG.litAt (B := 65536) [(x - y - C)] _ 1 _ rfl rfl (by intro x hx; simp at hx; omega) (by decide) rfl) (k + 1) (by rw [List.length_append, HLO.out]; rfl) (.inr (by simp)) (by omega) (by omega) (by have := hB.size; simp; omega) ?_; intro g1 c1 w2 ho1 hb1 hl1 hc1 hm1 hg1 hk1)
        have hBq : Below w.heap.size w (wr.drewN nq) := ((Drew.refl wr).more nq).below hB
        have hB2 : Below w.heap.size w w2 := (hBq.alloc hBq.size _).grown hg1 (by have := hB.size; simp; omega) (by intro k hk; exact (HO.out.lt k hk).1)
        go_roundw
        case rel => exact ⟨k + 1, 0, O ++ [(x - y - C)], by go_num, by omega, rfl, by omega, by omega, ho1, HDO.out.append (by intro x hx; simp at hx; omega), by unfold Hid; rw [List.length_append, HLO.out]; rfl, HV', hB2⟩
        case measure => simp [intOf] <;> omega
    · have g1 : ¬ (k : Int) < (n1 : Int) := by omega
      obtain rfl : k = n1 := by omega
      obtain ⟨aO, cO, hsh⟩ := HO.out.shape
      have hsrc := (hsh ▸ HO.out : OwnG .i64 3 wr w.heap.size (.slice aO O.length cO) O).toSrc HDO.out
      rw [HLO.out] at hsh hsrc
      subst hsh
      have HSRC := hide hsrc
      clear hsrc HO
      go_wp2_with fail
      refine (bare_any _ _ _ O _ HSRC.out (by omega)).mono ?_
      rintro e w3 ⟨g, c', rfl, hs3, hB3⟩
      go_wp2
      go_ret
      refine ⟨_, rfl, ⟨_, _, _, trm O, rfl, hs3, trm_tr _, ?_, ?_⟩, hB.trans (hB3.mono hB.size)⟩
      · have := trm_len O; rw [HLO.out] at this; have := HK1.out; omega
      · have e := HVO.out
        rw [List.take_of_length_le (by rw [z1.out]; exact Nat.le_refl _), List.take_of_length_le (by rw [z2.out]; exact HK1.out.2)] at e
        have q := val_lt (b := 65536) (by decide) HDO.out
        rw [HLO.out] at q
        have hC := no_borrowD _ _ _ _ (pw_pos (b := 65536) (by decide) k) q hC0 e (by have := HLE.out; omega)
        rw [hC] at e
        rw [trm_val]
        omega

end Go.Proofs.Ytobdpcmafjhnlaa
