/-
  The document's Some, as a call.
-/
import Derived.Deep.RegionHeld3
import Derived.Test.YtklchpdpooikdaaGreatDoorYHoRGenToWiRAll
namespace Go.Proofs.YtklchpdpooikdaaGreatDoor
open Go.RowKit Go.Shelf Go.IntWalk

theorem som_no {k : Int} {b : List UInt8} {gk : Int} {s : List UInt8} (hA : allW k b gk s = false) (hc : ¬ (k = 2 ∧ gk = 2 ∧ mayW k b = true ∧ wildL s = true)) : somW k b gk s = false := by
  cases h : somW k b gk s with
  | false => rfl
  | true =>
    obtain ⟨_, h2, h3⟩ := both_some (k := k) (b := b) (gk := gk) (s := s)
    obtain ⟨m1, m2, _⟩ := h2 h
    have hw := h3 hA h
    unfold somW meeL at h
    simp only [Bool.and_eq_true, Bool.or_eq_true, decide_eq_true_eq] at h
    rcases h.2.2 with h5 | ⟨h5, h6, _⟩
    · unfold allW at hA
      rw [m1, m2, h5] at hA
      cases hA
    · exact absurd ⟨h5, h6, m1, hw⟩ hc
theorem som_yes {b r : List UInt8} (hA : allW 2 b 2 (42 :: 46 :: r) = false) (hM : mayW 2 b = true) (hw : wildL (42 :: 46 :: r) = true) : somW 2 b 2 (42 :: 46 :: r) = oneB b r := by
  have hG : mayG 2 (42 :: 46 :: r) = true := by
    have h9 : mayG 2 (42 :: 46 :: r) = (dnsL (42 :: 46 :: r) || wildL (42 :: 46 :: r)) := rfl
    rw [h9, hw, Bool.or_true]
  have hH : holL 2 b 2 (42 :: 46 :: r) = false := by
    unfold allW at hA
    rw [hM, hG] at hA
    simpa using hA
  rw [one_match hw hM]
  unfold somW meeL
  rw [hM, hG, hH]
  simp
set_option maxRecDepth 100000 in
set_option maxHeartbeats 2000000 in
theorem rsome_any (k : Int) (b : List UInt8) (gk : Int) (s : List UInt8) (hb : b.length ≤ 1048576) (hs : s.length ≤ 1048576) (w : World) :
    Calls Tryz.prog 27 #[.agg #[.int .i64 k, .string (tx b)], .agg #[.int .i64 gk, .string (tx s)]] w fun e w' => e = .returned (.bool (somW k b gk s)) ∧ Below w.heap.size w w' := by
  have D0 := hide (fun W => rall_any k b gk s hb hs W)
  have D1 : Hid (∀ W, Calls Tryz.prog 25 #[.agg #[.int .i64 k, .string (tx b)]] W fun e w' => e = .returned (.bool (mayW k b)) ∧ Below W.heap.size W w') := fun W => rmayT_any k b hb W
  have D2 := hide (fun W => refWild_any s hs W)
  cases hA : allW k b gk s with
  | true =>
    have HR : Hid (somW k b gk s = true) := both_some.1 hA
    rw [hA] at D0
    generalize somW k b gk s = R at *
    clear hA D1 D2
    have BX := (nbelowW w (boxS k b)).trans ((nbelowW (w.alloc (boxS k b)) (boxG gk s)).mono (by simp))
    have T0 := two_new w k gk b s
    unfold boxS boxG at T0 BX
    have HBX := hide BX
    clear BX
    go_enter Tryz.func27, Tryz.ntmps27
    have t0 := T0.s0
    have t1 := T0.s1
    have t2 := T0.g0
    have t3 := T0.g1
    go_wp2_with fail
    refine (D0.out _).mono ?_
    rintro e w1 ⟨rfl, BQ⟩
    have T1 := T0.below BQ
    have HB1 := hide (HBX.out.trans (BQ.mono HBX.out.size))
    clear t0 t1 t2 t3 T0 BQ HBX
    have t0 := T1.s0
    have t1 := T1.s1
    have t2 := T1.g0
    have t3 := T1.g1
    go_wp2
    go_ret
    exact ⟨by rw [HR.out]; rfl, HB1.out⟩
  | false =>
    rw [hA] at D0
    by_cases c1 : k = 2
    · have hk2 : (k != 2) = false := by rw [c1]; rfl
      by_cases c2 : gk = 2
      · have hg2 : (gk != 2) = false := by rw [c2]; rfl
        cases hM : mayW k b with
        | false =>
          have HR : Hid (somW k b gk s = false) := som_no hA (fun h => by rw [h.2.2.1] at hM; cases hM)
          rw [hM] at D1
          generalize somW k b gk s = R at *
          clear hA hM c1 c2 D2
          have BX := (nbelowW w (boxS k b)).trans ((nbelowW (w.alloc (boxS k b)) (boxG gk s)).mono (by simp))
          have T0 := two_new w k gk b s
          unfold boxS boxG at T0 BX
          have HBX := hide BX
          clear BX
          go_enter Tryz.func27, Tryz.ntmps27
          have t0 := T0.s0
          have t1 := T0.s1
          have t2 := T0.g0
          have t3 := T0.g1
          go_wp2_with fail
          refine (D0.out _).mono ?_
          rintro e w1 ⟨rfl, BQ⟩
          have T1 := T0.below BQ
          have HB1 := hide (HBX.out.trans (BQ.mono HBX.out.size))
          clear t0 t1 t2 t3 T0 BQ HBX
          have t0 := T1.s0
          have t1 := T1.s1
          have t2 := T1.g0
          have t3 := T1.g1
          go_wp2_with fail
          refine (D1.out _).mono ?_
          rintro e w2 ⟨rfl, BQ⟩
          have T2 := T1.below BQ
          have HB2 := hide (HB1.out.trans (BQ.mono HB1.out.size))
          clear t0 t1 t2 t3 T1 BQ HB1
          have t0 := T2.s0
          have t1 := T2.s1
          have t2 := T2.g0
          have t3 := T2.g1
          go_wp2
          go_ret
          exact ⟨by rw [HR.out]; rfl, HB2.out⟩
        | true =>
          cases hw : wildL s with
          | false =>
            have HR : Hid (somW k b gk s = false) := som_no hA (fun h => by rw [h.2.2.2] at hw; cases hw)
            rw [hM] at D1
            rw [hw] at D2
            generalize somW k b gk s = R at *
            clear hA hM hw c1 c2
            have BX := (nbelowW w (boxS k b)).trans ((nbelowW (w.alloc (boxS k b)) (boxG gk s)).mono (by simp))
            have T0 := two_new w k gk b s
            unfold boxS boxG at T0 BX
            have HBX := hide BX
            clear BX
            go_enter Tryz.func27, Tryz.ntmps27
            have t0 := T0.s0
            have t1 := T0.s1
            have t2 := T0.g0
            have t3 := T0.g1
            go_wp2_with fail
            refine (D0.out _).mono ?_
            rintro e w1 ⟨rfl, BQ⟩
            have T1 := T0.below BQ
            have HB1 := hide (HBX.out.trans (BQ.mono HBX.out.size))
            clear t0 t1 t2 t3 T0 BQ HBX
            have t0 := T1.s0
            have t1 := T1.s1
            have t2 := T1.g0
            have t3 := T1.g1
            go_wp2_with fail
            refine (D1.out _).mono ?_
            rintro e w2 ⟨rfl, BQ⟩
            have T2 := T1.below BQ
            have HB2 := hide (HB1.out.trans (BQ.mono HB1.out.size))
            clear t0 t1 t2 t3 T1 BQ HB1
            have t0 := T2.s0
            have t1 := T2.s1
            have t2 := T2.g0
            have t3 := T2.g1
            go_wp2_with fail
            refine (D2.out _).mono ?_
            rintro e w3 ⟨rfl, BQ⟩
            have T3 := T2.below BQ
            have HB3 := hide (HB2.out.trans (BQ.mono HB2.out.size))
            clear t0 t1 t2 t3 T2 BQ HB2
            have t0 := T3.s0
            have t1 := T3.s1
            have t2 := T3.g0
            have t3 := T3.g1
            go_wp2
            go_ret
            exact ⟨by rw [HR.out]; rfl, HB3.out⟩
          | true =>
            obtain ⟨r, hsr, _⟩ := wild_split hw
            have hrl : s.length = r.length + 2 := by rw [hsr]; rfl
            have s1 : ∀ X, (Instr.slice 9 (.string (tx s)) (some (.int .i64 2)) none none).run Tryz.prog X = .ok (.string (tx r)) X := fun X => by
              have h := sl_tx s 2 (by omega) X
              rw [show s.drop 2 = r by rw [hsr]; rfl] at h
              exact h
            have hR : somW k b gk s = oneB b r := by
              rw [c1, c2, hsr] at hA ⊢
              rw [hsr] at hw
              rw [c1] at hM
              exact som_yes hA hM hw
            unfold oneB at hR
            rw [hM] at D1
            rw [hw] at D2
            have D3 := hide (fun W => refLabels_any (tx b) (by rw [tx_size]; exact hb) W)
            have D4 := hide (fun W => refLabels_any (tx r) (by rw [tx_size]; omega) W)
            rw [tx_list] at D3 D4
            have D5 := hide (fun W => refBelow_any b r hb (by omega) W)
            have hl1 : (labs b).length ≤ 1048577 := by have := labsG_len b []; unfold labs; omega
            have hl2 : (labs r).length ≤ 1048577 := by have := labsG_len r []; unfold labs; omega
            generalize somW k b gk s = R at *
            generalize belB b r = D at *
            generalize labs b = LA at *
            generalize labs r = LB at *
            generalize hna : LA.length = na at *
            generalize hnb : LB.length = nb at *
            clear hA hM hw c1 c2 hsr hrl hna hnb
            have hwr : IntKind.i64.wrap ((nb : Int) + 1) = (nb : Int) + 1 := i64_in _ (by omega)
            by_cases hq : na = nb + 1
            · have hqI : (na : Int) = (nb : Int) + 1 := by omega
              have hqB : ((na : Int) == (nb : Int) + 1) = true := by rw [hqI]; simp
              rw [decide_eq_true hq, Bool.true_and] at hR
              have HR := hide hR
              clear hR hq hqI
              have BX := (nbelowW w (boxS k b)).trans ((nbelowW (w.alloc (boxS k b)) (boxG gk s)).mono (by simp))
              have T0 := two_new w k gk b s
              unfold boxS boxG at T0 BX
              have HBX := hide BX
              clear BX
              go_enter Tryz.func27, Tryz.ntmps27
              have t0 := T0.s0
              have t1 := T0.s1
              have t2 := T0.g0
              have t3 := T0.g1
              go_wp2_with fail
              refine (D0.out _).mono ?_
              rintro e w1 ⟨rfl, BQ⟩
              have T1 := T0.below BQ
              have HB1 := hide (HBX.out.trans (BQ.mono HBX.out.size))
              clear t0 t1 t2 t3 T0 BQ HBX
              have t0 := T1.s0
              have t1 := T1.s1
              have t2 := T1.g0
              have t3 := T1.g1
              go_wp2_with fail
              refine (D1.out _).mono ?_
              rintro e w2 ⟨rfl, BQ⟩
              have T2 := T1.below BQ
              have HB2 := hide (HB1.out.trans (BQ.mono HB1.out.size))
              clear t0 t1 t2 t3 T1 BQ HB1
              have t0 := T2.s0
              have t1 := T2.s1
              have t2 := T2.g0
              have t3 := T2.g1
              go_wp2_with fail
              refine (D2.out _).mono ?_
              rintro e w3 ⟨rfl, BQ⟩
              have T3 := T2.below BQ
              have HB3 := hide (HB2.out.trans (BQ.mono HB2.out.size))
              clear t0 t1 t2 t3 T2 BQ HB2
              have t0 := T3.s0
              have t1 := T3.s1
              have t2 := T3.g0
              have t3 := T3.g1
              go_wp2_with fail
              refine (D3.out _).mono ?_
              rintro e w4 ⟨ao4, cc4, rfl, _, BQ⟩
              have T4 := T3.below BQ
              have HB4 := hide (HB3.out.trans (BQ.mono HB3.out.size))
              clear t0 t1 t2 t3 T3 BQ HB3
              have t0 := T4.s0
              have t1 := T4.s1
              have t2 := T4.g0
              have t3 := T4.g1
              go_wp2_with fail
              refine (D4.out _).mono ?_
              rintro e w5 ⟨ao5, cc5, rfl, _, BQ⟩
              have T5 := T4.below BQ
              have HB5 := hide (HB4.out.trans (BQ.mono HB4.out.size))
              clear t0 t1 t2 t3 T4 BQ HB4
              have t0 := T5.s0
              have t1 := T5.s1
              have t2 := T5.g0
              have t3 := T5.g1
              go_wp2_with fail
              refine wp_region_held_drew (S := Two w.heap.size k b gk s) (by kernel_rfl) (T5.below (Below.refl _ _).drew) (fun hS => ?_)
              have HX := hide (HB5.out.drew)
              clear t0 t1 t2 t3 T5 HB5
              generalize w5.drew = X0 at *
              refine wpAnyH_take (i := 0) (v := ?_) rfl (by kernel_rfl) (by kernel_rfl) (by kernel_rfl) (fun _ _ _ h => h) (Or.inl ⟨by rfl, ?_⟩) (by assumption) ?_
              rotate_left
              · intro wq hSq
                go_simp
                try with_reducible rfl
              simp only [List.getElem_toArray, List.getElem_cons_zero, Act.put, List.setIfInBounds_toArray, List.set_cons_zero, List.set_cons_succ]
              refine wpAnyH_take (i := 1) (v := ?_) rfl (by kernel_rfl) (by kernel_rfl) (by kernel_rfl) (fun _ _ _ h => h) (Or.inl ⟨by rfl, ?_⟩) (by assumption) ?_
              rotate_left
              · intro wq hSq
                have r0 := hSq.s0
                have r1 := hSq.s1
                have r2 := hSq.g0
                have r3 := hSq.g1
                go_simp
                try with_reducible rfl
              simp only [List.getElem_toArray, List.getElem_cons_succ, List.getElem_cons_zero, Act.put, List.setIfInBounds_toArray, List.set_cons_zero, List.set_cons_succ]
              refine wpAnyH_take (i := 2) (v := ?_) rfl (by kernel_rfl) (by kernel_rfl) (by kernel_rfl) (fun _ _ _ h => h) (Or.inl ⟨by rfl, ?_⟩) (by assumption) ?_
              rotate_left
              · intro wq hSq
                have r0 := hSq.s0
                have r1 := hSq.s1
                have r2 := hSq.g0
                have r3 := hSq.g1
                go_simp
                try with_reducible rfl
              simp only [List.getElem_toArray, List.getElem_cons_succ, List.getElem_cons_zero, Act.put, List.setIfInBounds_toArray, List.set_cons_zero, List.set_cons_succ]
              refine wpAnyH_take (i := 3) (v := ?_) rfl (by kernel_rfl) (by kernel_rfl) (by kernel_rfl) (fun _ _ _ h => h) (Or.inl ⟨by rfl, ?_⟩) (by assumption) ?_
              rotate_left
              · intro wq hSq
                have r0 := hSq.s0
                have r1 := hSq.s1
                have r2 := hSq.g0
                have r3 := hSq.g1
                go_simp
                try with_reducible rfl
              simp only [List.getElem_toArray, List.getElem_cons_succ, List.getElem_cons_zero, Act.put, List.setIfInBounds_toArray, List.set_cons_zero, List.set_cons_succ]
              refine wpAnyH_take (i := 4) (v := ?_) rfl (by kernel_rfl) (by kernel_rfl) (by kernel_rfl) (fun _ _ _ h => h) (Or.inl ⟨by rfl, ?_⟩) (by assumption) ?_
              rotate_left
              · intro wq hSq
                have r0 := hSq.s0
                have r1 := hSq.s1
                have r2 := hSq.g0
                have r3 := hSq.g1
                go_simp
                try with_reducible rfl
              simp only [List.getElem_toArray, List.getElem_cons_succ, List.getElem_cons_zero, Act.put, List.setIfInBounds_toArray, List.set_cons_zero, List.set_cons_succ]
              refine wpAnyH_take (i := 5) (v := ?_) rfl (by kernel_rfl) (by kernel_rfl) (by kernel_rfl) (fun _ _ _ h => h) (Or.inl ⟨by rfl, ?_⟩) (by assumption) ?_
              rotate_left
              · intro wq hSq
                have r0 := hSq.s0
                have r1 := hSq.s1
                have r2 := hSq.g0
                have r3 := hSq.g1
                go_simp
                try with_reducible rfl
              simp only [List.getElem_toArray, List.getElem_cons_succ, List.getElem_cons_zero, Act.put, List.setIfInBounds_toArray, List.set_cons_zero, List.set_cons_succ]
              refine wpAnyH_take (i := 6) (v := ?_) rfl (by kernel_rfl) (by kernel_rfl) (by kernel_rfl) (fun _ _ _ h => h) (Or.inl ⟨by rfl, ?_⟩) (by assumption) ?_
              rotate_left
              · intro wq hSq
                have r0 := hSq.s0
                have r1 := hSq.s1
                have r2 := hSq.g0
                have r3 := hSq.g1
                go_simp
                try with_reducible rfl
              simp only [List.getElem_toArray, List.getElem_cons_succ, List.getElem_cons_zero, Act.put, List.setIfInBounds_toArray, List.set_cons_zero, List.set_cons_succ]
              refine wpAnyH_take (i := 7) (v := ?_) rfl (by kernel_rfl) (by kernel_rfl) (by kernel_rfl) (fun _ _ _ h => h) (Or.inl ⟨by rfl, ?_⟩) (by assumption) ?_
              rotate_left
              · intro wq hSq
                have r0 := hSq.s0
                have r1 := hSq.s1
                have r2 := hSq.g0
                have r3 := hSq.g1
                go_simp
                try with_reducible rfl
              simp only [List.getElem_toArray, List.getElem_cons_succ, List.getElem_cons_zero, Act.put, List.setIfInBounds_toArray, List.set_cons_zero, List.set_cons_succ]
              refine wpAnyH_take (i := 8) (v := ?_) rfl (by kernel_rfl) (by kernel_rfl) (by kernel_rfl) (fun _ _ _ h => h) (Or.inl ⟨by rfl, ?_⟩) (by assumption) ?_
              rotate_left
              · intro wq hSq
                have r0 := hSq.s0
                have r1 := hSq.s1
                have r2 := hSq.g0
                have r3 := hSq.g1
                go_simp
                try with_reducible rfl
              simp only [List.getElem_toArray, List.getElem_cons_succ, List.getElem_cons_zero, Act.put, List.setIfInBounds_toArray, List.set_cons_zero, List.set_cons_succ]
              refine wpAnyH_take (i := 9) (v := ?_) rfl (by kernel_rfl) (by kernel_rfl) (by kernel_rfl) (fun _ _ _ h => h) (Or.inl ⟨by rfl, ?_⟩) (by assumption) ?_
              rotate_left
              · intro wq hSq
                have r0 := hSq.s0
                have r1 := hSq.s1
                have r2 := hSq.g0
                have r3 := hSq.g1
                go_simp
                try with_reducible rfl
              simp only [List.getElem_toArray, List.getElem_cons_succ, List.getElem_cons_zero, Act.put, List.setIfInBounds_toArray, List.set_cons_zero, List.set_cons_succ]
              refine wpAnyH_take (i := 10) (v := ?_) rfl (by kernel_rfl) (by kernel_rfl) (by kernel_rfl) (fun _ _ _ h => h) (Or.inl ⟨by rfl, ?_⟩) (by assumption) ?_
              rotate_left
              · intro wq hSq
                have r0 := hSq.s0
                have r1 := hSq.s1
                have r2 := hSq.g0
                have r3 := hSq.g1
                go_simp
                try with_reducible rfl
              simp only [List.getElem_toArray, List.getElem_cons_succ, List.getElem_cons_zero, Act.put, List.setIfInBounds_toArray, List.set_cons_zero, List.set_cons_succ]
              refine wpAnyH_take (i := 11) (v := ?_) rfl (by kernel_rfl) (by kernel_rfl) (by kernel_rfl) (fun _ _ _ h => h) (Or.inl ⟨by rfl, ?_⟩) (by assumption) ?_
              rotate_left
              · intro wq hSq
                have r0 := hSq.s0
                have r1 := hSq.s1
                have r2 := hSq.g0
                have r3 := hSq.g1
                go_simp
                try with_reducible rfl
              simp only [List.getElem_toArray, List.getElem_cons_succ, List.getElem_cons_zero, Act.put, List.setIfInBounds_toArray, List.set_cons_zero, List.set_cons_succ]
              refine wpAnyH_ready (rs := [12]) (by kernel_rfl) (by simp) ?_
              refine AllReadyH.cons rfl (fun Kq hKq => ?_) AllReadyH.nil
              go_simp
              refine (D5.out _).mono ?_
              rintro e w6 ⟨rfl, BQ⟩
              have T6 := hS.below BQ
              refine hKq.out _ _ T6 (fun _ => ?_)
              clear hKq Kq hS
              have HB6 := hide (HX.out.trans (BQ.mono HX.out.size))
              refine wpAnyH_take (i := 13) (v := ?_) rfl (by kernel_rfl) (by kernel_rfl) (by kernel_rfl) (fun _ _ _ h => h) (Or.inl ⟨by rfl, ?_⟩) (by assumption) ?_
              rotate_left
              · intro wq hSq
                have r0 := hSq.s0
                have r1 := hSq.s1
                have r2 := hSq.g0
                have r3 := hSq.g1
                go_simp
                try with_reducible rfl
              simp only [List.getElem_toArray, List.getElem_cons_succ, List.getElem_cons_zero, Act.put, List.setIfInBounds_toArray, List.set_cons_zero, List.set_cons_succ]
              refine wpAnyH_take (i := 14) (v := ?_) rfl (by kernel_rfl) (by kernel_rfl) (by kernel_rfl) (fun _ _ _ h => h) (Or.inl ⟨by rfl, ?_⟩) (by assumption) ?_
              rotate_left
              · intro wq hSq
                have r0 := hSq.s0
                have r1 := hSq.s1
                have r2 := hSq.g0
                have r3 := hSq.g1
                go_simp
                try with_reducible rfl
              simp only [List.getElem_toArray, List.getElem_cons_succ, List.getElem_cons_zero, Act.put, List.setIfInBounds_toArray, List.set_cons_zero, List.set_cons_succ]
              refine wpAnyH_done (by kernel_rfl) ?_ _
              have t0 := T6.s0
              have t1 := T6.s1
              have t2 := T6.g0
              have t3 := T6.g1
              go_wp2
              go_ret
              exact ⟨by rw [HR.out]; rfl, HB6.out⟩
            · have hqI : ¬ (na : Int) = (nb : Int) + 1 := by omega
              have hqB : ((na : Int) == (nb : Int) + 1) = false := by simpa using hqI
              rw [decide_eq_false hq, Bool.false_and] at hR
              have HR := hide hR
              clear hR hq hqI
              have BX := (nbelowW w (boxS k b)).trans ((nbelowW (w.alloc (boxS k b)) (boxG gk s)).mono (by simp))
              have T0 := two_new w k gk b s
              unfold boxS boxG at T0 BX
              have HBX := hide BX
              clear BX
              go_enter Tryz.func27, Tryz.ntmps27
              have t0 := T0.s0
              have t1 := T0.s1
              have t2 := T0.g0
              have t3 := T0.g1
              go_wp2_with fail
              refine (D0.out _).mono ?_
              rintro e w1 ⟨rfl, BQ⟩
              have T1 := T0.below BQ
              have HB1 := hide (HBX.out.trans (BQ.mono HBX.out.size))
              clear t0 t1 t2 t3 T0 BQ HBX
              have t0 := T1.s0
              have t1 := T1.s1
              have t2 := T1.g0
              have t3 := T1.g1
              go_wp2_with fail
              refine (D1.out _).mono ?_
              rintro e w2 ⟨rfl, BQ⟩
              have T2 := T1.below BQ
              have HB2 := hide (HB1.out.trans (BQ.mono HB1.out.size))
              clear t0 t1 t2 t3 T1 BQ HB1
              have t0 := T2.s0
              have t1 := T2.s1
              have t2 := T2.g0
              have t3 := T2.g1
              go_wp2_with fail
              refine (D2.out _).mono ?_
              rintro e w3 ⟨rfl, BQ⟩
              have T3 := T2.below BQ
              have HB3 := hide (HB2.out.trans (BQ.mono HB2.out.size))
              clear t0 t1 t2 t3 T2 BQ HB2
              have t0 := T3.s0
              have t1 := T3.s1
              have t2 := T3.g0
              have t3 := T3.g1
              go_wp2_with fail
              refine (D3.out _).mono ?_
              rintro e w4 ⟨ao4, cc4, rfl, _, BQ⟩
              have T4 := T3.below BQ
              have HB4 := hide (HB3.out.trans (BQ.mono HB3.out.size))
              clear t0 t1 t2 t3 T3 BQ HB3
              have t0 := T4.s0
              have t1 := T4.s1
              have t2 := T4.g0
              have t3 := T4.g1
              go_wp2_with fail
              refine (D4.out _).mono ?_
              rintro e w5 ⟨ao5, cc5, rfl, _, BQ⟩
              have T5 := T4.below BQ
              have HB5 := hide (HB4.out.trans (BQ.mono HB4.out.size))
              clear t0 t1 t2 t3 T4 BQ HB4
              have t0 := T5.s0
              have t1 := T5.s1
              have t2 := T5.g0
              have t3 := T5.g1
              go_wp2_with fail
              refine wp_region_held_drew (S := Two w.heap.size k b gk s) (by kernel_rfl) (T5.below (Below.refl _ _).drew) (fun hS => ?_)
              have HX := hide (HB5.out.drew)
              clear t0 t1 t2 t3 T5 HB5
              generalize w5.drew = X0 at *
              refine wpAnyH_take (i := 0) (v := ?_) rfl (by kernel_rfl) (by kernel_rfl) (by kernel_rfl) (fun _ _ _ h => h) (Or.inl ⟨by rfl, ?_⟩) (by assumption) ?_
              rotate_left
              · intro wq hSq
                go_simp
                try with_reducible rfl
              simp only [List.getElem_toArray, List.getElem_cons_zero, Act.put, List.setIfInBounds_toArray, List.set_cons_zero, List.set_cons_succ]
              refine wpAnyH_take (i := 1) (v := ?_) rfl (by kernel_rfl) (by kernel_rfl) (by kernel_rfl) (fun _ _ _ h => h) (Or.inl ⟨by rfl, ?_⟩) (by assumption) ?_
              rotate_left
              · intro wq hSq
                have r0 := hSq.s0
                have r1 := hSq.s1
                have r2 := hSq.g0
                have r3 := hSq.g1
                go_simp
                try with_reducible rfl
              simp only [List.getElem_toArray, List.getElem_cons_succ, List.getElem_cons_zero, Act.put, List.setIfInBounds_toArray, List.set_cons_zero, List.set_cons_succ]
              refine wpAnyH_take (i := 2) (v := ?_) rfl (by kernel_rfl) (by kernel_rfl) (by kernel_rfl) (fun _ _ _ h => h) (Or.inl ⟨by rfl, ?_⟩) (by assumption) ?_
              rotate_left
              · intro wq hSq
                have r0 := hSq.s0
                have r1 := hSq.s1
                have r2 := hSq.g0
                have r3 := hSq.g1
                go_simp
                try with_reducible rfl
              simp only [List.getElem_toArray, List.getElem_cons_succ, List.getElem_cons_zero, Act.put, List.setIfInBounds_toArray, List.set_cons_zero, List.set_cons_succ]
              refine wpAnyH_take (i := 3) (v := ?_) rfl (by kernel_rfl) (by kernel_rfl) (by kernel_rfl) (fun _ _ _ h => h) (Or.inl ⟨by rfl, ?_⟩) (by assumption) ?_
              rotate_left
              · intro wq hSq
                have r0 := hSq.s0
                have r1 := hSq.s1
                have r2 := hSq.g0
                have r3 := hSq.g1
                go_simp
                try with_reducible rfl
              simp only [List.getElem_toArray, List.getElem_cons_succ, List.getElem_cons_zero, Act.put, List.setIfInBounds_toArray, List.set_cons_zero, List.set_cons_succ]
              refine wpAnyH_take (i := 4) (v := ?_) rfl (by kernel_rfl) (by kernel_rfl) (by kernel_rfl) (fun _ _ _ h => h) (Or.inl ⟨by rfl, ?_⟩) (by assumption) ?_
              rotate_left
              · intro wq hSq
                have r0 := hSq.s0
                have r1 := hSq.s1
                have r2 := hSq.g0
                have r3 := hSq.g1
                go_simp
                try with_reducible rfl
              simp only [List.getElem_toArray, List.getElem_cons_succ, List.getElem_cons_zero, Act.put, List.setIfInBounds_toArray, List.set_cons_zero, List.set_cons_succ]
              refine wpAnyH_take (i := 5) (v := ?_) rfl (by kernel_rfl) (by kernel_rfl) (by kernel_rfl) (fun _ _ _ h => h) (Or.inl ⟨by rfl, ?_⟩) (by assumption) ?_
              rotate_left
              · intro wq hSq
                have r0 := hSq.s0
                have r1 := hSq.s1
                have r2 := hSq.g0
                have r3 := hSq.g1
                go_simp
                try with_reducible rfl
              simp only [List.getElem_toArray, List.getElem_cons_succ, List.getElem_cons_zero, Act.put, List.setIfInBounds_toArray, List.set_cons_zero, List.set_cons_succ]
              refine wpAnyH_take (i := 6) (v := ?_) rfl (by kernel_rfl) (by kernel_rfl) (by kernel_rfl) (fun _ _ _ h => h) (Or.inl ⟨by rfl, ?_⟩) (by assumption) ?_
              rotate_left
              · intro wq hSq
                have r0 := hSq.s0
                have r1 := hSq.s1
                have r2 := hSq.g0
                have r3 := hSq.g1
                go_simp
                try with_reducible rfl
              simp only [List.getElem_toArray, List.getElem_cons_succ, List.getElem_cons_zero, Act.put, List.setIfInBounds_toArray, List.set_cons_zero, List.set_cons_succ]
              refine wpAnyH_take (i := 7) (v := undef) rfl (by kernel_rfl) (by kernel_rfl) (by kernel_rfl) (fun _ _ _ h => h) (Or.inr ⟨by rfl, rfl⟩) (by assumption) ?_
              simp only [List.getElem_toArray, List.getElem_cons_succ, List.getElem_cons_zero, Act.put, List.setIfInBounds_toArray, List.set_cons_zero, List.set_cons_succ]
              refine wpAnyH_take (i := 8) (v := undef) rfl (by kernel_rfl) (by kernel_rfl) (by kernel_rfl) (fun _ _ _ h => h) (Or.inr ⟨by rfl, rfl⟩) (by assumption) ?_
              simp only [List.getElem_toArray, List.getElem_cons_succ, List.getElem_cons_zero, Act.put, List.setIfInBounds_toArray, List.set_cons_zero, List.set_cons_succ]
              refine wpAnyH_take (i := 9) (v := undef) rfl (by kernel_rfl) (by kernel_rfl) (by kernel_rfl) (fun _ _ _ h => h) (Or.inr ⟨by rfl, rfl⟩) (by assumption) ?_
              simp only [List.getElem_toArray, List.getElem_cons_succ, List.getElem_cons_zero, Act.put, List.setIfInBounds_toArray, List.set_cons_zero, List.set_cons_succ]
              refine wpAnyH_take (i := 10) (v := undef) rfl (by kernel_rfl) (by kernel_rfl) (by kernel_rfl) (fun _ _ _ h => h) (Or.inr ⟨by rfl, rfl⟩) (by assumption) ?_
              simp only [List.getElem_toArray, List.getElem_cons_succ, List.getElem_cons_zero, Act.put, List.setIfInBounds_toArray, List.set_cons_zero, List.set_cons_succ]
              refine wpAnyH_take (i := 11) (v := undef) rfl (by kernel_rfl) (by kernel_rfl) (by kernel_rfl) (fun _ _ _ h => h) (Or.inr ⟨by rfl, rfl⟩) (by assumption) ?_
              simp only [List.getElem_toArray, List.getElem_cons_succ, List.getElem_cons_zero, Act.put, List.setIfInBounds_toArray, List.set_cons_zero, List.set_cons_succ]
              refine wpAnyH_take (i := 12) (v := undef) rfl (by kernel_rfl) (by kernel_rfl) (by kernel_rfl) (fun _ _ _ h => h) (Or.inr ⟨by rfl, rfl⟩) (by assumption) ?_
              simp only [List.getElem_toArray, List.getElem_cons_succ, List.getElem_cons_zero, Act.put, List.setIfInBounds_toArray, List.set_cons_zero, List.set_cons_succ]
              refine wpAnyH_take (i := 13) (v := ?_) rfl (by kernel_rfl) (by kernel_rfl) (by kernel_rfl) (fun _ _ _ h => h) (Or.inl ⟨by rfl, ?_⟩) (by assumption) ?_
              rotate_left
              · intro wq hSq
                have r0 := hSq.s0
                have r1 := hSq.s1
                have r2 := hSq.g0
                have r3 := hSq.g1
                go_simp
                try with_reducible rfl
              simp only [List.getElem_toArray, List.getElem_cons_succ, List.getElem_cons_zero, Act.put, List.setIfInBounds_toArray, List.set_cons_zero, List.set_cons_succ]
              refine wpAnyH_take (i := 14) (v := ?_) rfl (by kernel_rfl) (by kernel_rfl) (by kernel_rfl) (fun _ _ _ h => h) (Or.inl ⟨by rfl, ?_⟩) (by assumption) ?_
              rotate_left
              · intro wq hSq
                have r0 := hSq.s0
                have r1 := hSq.s1
                have r2 := hSq.g0
                have r3 := hSq.g1
                go_simp
                try with_reducible rfl
              simp only [List.getElem_toArray, List.getElem_cons_succ, List.getElem_cons_zero, Act.put, List.setIfInBounds_toArray, List.set_cons_zero, List.set_cons_succ]
              refine wpAnyH_done (by kernel_rfl) ?_ _
              have t0 := hS.s0
              have t1 := hS.s1
              have t2 := hS.g0
              have t3 := hS.g1
              go_wp2
              go_ret
              exact ⟨by rw [HR.out]; rfl, HX.out⟩
      · have hg2 : (gk != 2) = true := by simpa using c2
        have HR : Hid (somW k b gk s = false) := som_no hA (fun h => c2 h.2.1)
        generalize somW k b gk s = R at *
        clear hA c1 c2 D1 D2
        have BX := (nbelowW w (boxS k b)).trans ((nbelowW (w.alloc (boxS k b)) (boxG gk s)).mono (by simp))
        have T0 := two_new w k gk b s
        unfold boxS boxG at T0 BX
        have HBX := hide BX
        clear BX
        go_enter Tryz.func27, Tryz.ntmps27
        have t0 := T0.s0
        have t1 := T0.s1
        have t2 := T0.g0
        have t3 := T0.g1
        go_wp2_with fail
        refine (D0.out _).mono ?_
        rintro e w1 ⟨rfl, BQ⟩
        have T1 := T0.below BQ
        have HB1 := hide (HBX.out.trans (BQ.mono HBX.out.size))
        clear t0 t1 t2 t3 T0 BQ HBX
        have t0 := T1.s0
        have t1 := T1.s1
        have t2 := T1.g0
        have t3 := T1.g1
        go_wp2
        go_ret
        exact ⟨by rw [HR.out]; rfl, HB1.out⟩
    · have hk2 : (k != 2) = true := by simpa using c1
      have HR : Hid (somW k b gk s = false) := som_no hA (fun h => c1 h.1)
      generalize somW k b gk s = R at *
      clear hA c1 D1 D2
      have BX := (nbelowW w (boxS k b)).trans ((nbelowW (w.alloc (boxS k b)) (boxG gk s)).mono (by simp))
      have T0 := two_new w k gk b s
      unfold boxS boxG at T0 BX
      have HBX := hide BX
      clear BX
      go_enter Tryz.func27, Tryz.ntmps27
      have t0 := T0.s0
      have t1 := T0.s1
      have t2 := T0.g0
      have t3 := T0.g1
      go_wp2_with fail
      refine (D0.out _).mono ?_
      rintro e w1 ⟨rfl, BQ⟩
      have T1 := T0.below BQ
      have HB1 := hide (HBX.out.trans (BQ.mono HBX.out.size))
      clear t0 t1 t2 t3 T0 BQ HBX
      have t0 := T1.s0
      have t1 := T1.s1
      have t2 := T1.g0
      have t3 := T1.g1
      go_wp2
      go_ret
      exact ⟨by rw [HR.out]; rfl, HB1.out⟩

end Go.Proofs.YtklchpdpooikdaaGreatDoor
