/-
  The document's May of a general name, as a call.
  The document's May of a general name, as a call (HoRGen), and of a subtree.
  The document's All and Some, as calls.
-/
import Derived.Test.YtklchpdpooikdaaGreatDoorYHoNmToWiChkW
import Derived.Test.YtklchpdpooikdaaGreatDoorYNmGueToNmDec
import Derived.Test.YtklchpdpooikdaaGreatDoorYWiRBitToHoR4
import Derived.Test.YtklchpdpooikdaaGreatDoorYHoR5ToWiRMay
import Derived.Deep.RegionHeld3
import Derived.Test.YtklchpdpooikdaaGreatDoorYWiRLie
namespace Go.Proofs.YtklchpdpooikdaaGreatDoor
open Go.RowKit Go.Shelf Go.IntWalk

def genP (k : Int) (b : List UInt8) (w : World) : Prop := Calls Tryz.prog 24 #[.agg #[.int .i64 k, .string (tx b)]] w fun e w' => e = .returned (.bool (mayG k b)) ∧ Below w.heap.size w w'
set_option maxRecDepth 100000 in
theorem rgen_mail (b : List UInt8) (hb : b.length ≤ 1048576) (w : World) : genP 1 b w := by
  have d1 := hide (fun W => refEmail_any (tx b) (by rw [tx_size]; exact hb) W)
  rw [tx_list] at d1
  have hF : Hid (mayG 1 b = mailL b) := rfl
  generalize mailL b = D at *
  unfold genP
  have BX := nbelowW w (.cells #[.int .i64 1, .string (tx b)] 32)
  have c1 : (w.alloc (.cells #[.int .i64 1, .string (tx b)] 32)).cell? ⟨w.heap.size, 1, none⟩ = some (.string (tx b)) := by simp
  go_enter Tryz.func24, Tryz.ntmps24
  go_wp2_with fail
  refine (d1.out _).mono ?_
  rintro e w1 ⟨rfl, B1⟩
  go_wp2
  go_ret
  exact ⟨by rw [hF.out]; rfl, BX.trans (B1.mono BX.size)⟩
set_option maxRecDepth 100000 in
theorem rgen_dns (b : List UInt8) (hb : b.length ≤ 1048576) (w : World) : genP 2 b w := by
  have d1 := hide (fun W => refDNS_any (tx b) (by rw [tx_size]; exact hb) W)
  have d2 := hide (fun W => refWild_any b hb W)
  rw [tx_list] at d1
  have hF : mayG 2 b = (dnsL b || wildL b) := rfl
  generalize wildL b = D at *
  cases hm : dnsL b with
  | true =>
    rw [hm] at d1 hF
    have HF := hide hF
    clear hF hm d2
    unfold genP
    have BX := nbelowW w (.cells #[.int .i64 2, .string (tx b)] 32)
    have c1 : (w.alloc (.cells #[.int .i64 2, .string (tx b)] 32)).cell? ⟨w.heap.size, 1, none⟩ = some (.string (tx b)) := by simp
    go_enter Tryz.func24, Tryz.ntmps24
    go_wp2_with fail
    refine (d1.out _).mono ?_
    rintro e w1 ⟨rfl, B1⟩
    go_wp2
    go_ret
    exact ⟨by rw [HF.out]; rfl, BX.trans (B1.mono BX.size)⟩
  | false =>
    rw [hm] at d1 hF
    have HF := hide hF
    clear hF hm
    unfold genP
    have BX := nbelowW w (.cells #[.int .i64 2, .string (tx b)] 32)
    have c1 : (w.alloc (.cells #[.int .i64 2, .string (tx b)] 32)).cell? ⟨w.heap.size, 1, none⟩ = some (.string (tx b)) := by simp
    go_enter Tryz.func24, Tryz.ntmps24
    go_wp2_with fail
    refine (d1.out _).mono ?_
    rintro e w1 ⟨rfl, B1⟩
    have k1 := (B1.cell (p := ⟨w.heap.size, 1, none⟩) (lt_of_cell c1)).trans c1
    go_wp2_with fail
    refine (d2.out _).mono ?_
    rintro e w2 ⟨rfl, B2⟩
    go_wp2
    go_ret
    exact ⟨by rw [HF.out]; rfl, (BX.trans (B1.mono BX.size)).trans (B2.mono (BX.trans (B1.mono BX.size)).size)⟩
set_option maxRecDepth 100000 in
theorem rgen_name (b : List UInt8) (hb : b.length ≤ 1048576) (w : World) : genP 4 b w := by
  obtain ⟨cap, w1, hcv, s1, B1⟩ := conv_any (tx b) (by rw [tx_size]; exact hb) (w.alloc (.cells #[.int .i64 4, .string (tx b)] 32))
  have hz : (w.alloc (.cells #[.int .i64 4, .string (tx b)] 32)).heap.size = w.heap.size + 1 := by simp
  rw [hz] at hcv s1
  have d1 := hide (rdecode_any _ _ _ _ w1 s1 (by rw [tx_size]; exact hb))
  rw [tx_list] at d1
  have HW : Hid (mayG 4 b = decide (ansE (nums b) = 0)) := rfl
  have HB := hide ((nbelowW w (.cells #[.int .i64 4, .string (tx b)] 32)).trans (B1.mono (nbelowW w (.cells #[.int .i64 4, .string (tx b)] 32)).size))
  clear B1 s1
  generalize ansE (nums b) = E at *
  generalize ansN (nums b) = A at *
  unfold genP
  have BX := nbelowW w (.cells #[.int .i64 4, .string (tx b)] 32)
  have c1 : (w.alloc (.cells #[.int .i64 4, .string (tx b)] 32)).cell? ⟨w.heap.size, 1, none⟩ = some (.string (tx b)) := by simp
  go_enter Tryz.func24, Tryz.ntmps24
  go_wp2_with fail
  refine d1.out.mono ?_
  rintro e w2 ⟨a2, m2, c2, rfl, _, B2⟩
  have hq : (E == 0) = decide (E = 0) := by by_cases h : E = 0 <;> simp [h]
  have HB2 := hide (HB.out.trans (B2.mono HB.out.size))
  clear d1 B2 HB
  go_wp2
  go_ret
  exact ⟨by rw [HW.out, ← hq]; rfl, HB2.out⟩
set_option maxRecDepth 100000 in
theorem rgen_ip (b : List UInt8) (w : World) : genP 7 b w := by
  have d1 := hide (fun W => refIP_any b W)
  have hF : Hid (mayG 7 b = ipL b) := rfl
  generalize ipL b = D at *
  unfold genP
  have BX := nbelowW w (.cells #[.int .i64 7, .string (tx b)] 32)
  have c1 : (w.alloc (.cells #[.int .i64 7, .string (tx b)] 32)).cell? ⟨w.heap.size, 1, none⟩ = some (.string (tx b)) := by simp
  go_enter Tryz.func24, Tryz.ntmps24
  go_wp2_with fail
  refine (d1.out _).mono ?_
  rintro e w1 ⟨rfl, rfl⟩
  go_wp2
  go_ret
  exact ⟨by rw [hF.out]; rfl, BX⟩
set_option maxRecDepth 100000 in
theorem rgen_else {k : Int} (h1 : k ≠ 1) (h2 : k ≠ 2) (h3 : k ≠ 4) (h4 : k ≠ 7) (b : List UInt8) (w : World) : genP k b w := by
  have hF : Hid (mayG k b = false) := by unfold Hid mayG hmay; rw [if_neg h1, if_neg h2, if_neg h3, if_neg h4]
  have e1 : (k == 1) = false := by simpa using h1
  have e2 : (k == 2) = false := by simpa using h2
  have e3 : (k == 4) = false := by simpa using h3
  have e4 : (k == 7) = false := by simpa using h4
  unfold genP
  have BX := nbelowW w (.cells #[.int .i64 k, .string (tx b)] 32)
  have c1 : (w.alloc (.cells #[.int .i64 k, .string (tx b)] 32)).cell? ⟨w.heap.size, 1, none⟩ = some (.string (tx b)) := by simp
  go_enter Tryz.func24, Tryz.ntmps24
  go_wp2
  go_ret
  exact ⟨by rw [hF.out]; rfl, BX⟩
theorem rgen_any (k : Int) (b : List UInt8) (hb : b.length ≤ 1048576) (w : World) : genP k b w := by
  by_cases h1 : k = 1
  · subst h1; exact rgen_mail b hb w
  by_cases h2 : k = 2
  · subst h2; exact rgen_dns b hb w
  by_cases h3 : k = 4
  · subst h3; exact rgen_name b hb w
  by_cases h4 : k = 7
  · subst h4; exact rgen_ip b w
  exact rgen_else h1 h2 h3 h4 b w

end Go.Proofs.YtklchpdpooikdaaGreatDoor

namespace Go.Proofs.YtklchpdpooikdaaGreatDoor
open Go.RowKit Go.Shelf Go.IntWalk

theorem mail_cut {s : List UInt8} (h : mailL s = true) : (cutD 64 s).2.2 = true := by
  cases hq : (cutD 64 s).2.2 with
  | true => rfl
  | false =>
    unfold mailL at h
    rw [cutD_no 64 s hq, dnsL_nil, Bool.and_false] at h
    cases h
theorem lie_hF {k : Int} {b s : List UInt8} (hM : mayW k b = true) (h2 : k ≠ 2) : lieL k b s = hF (rAt k) b s := by
  by_cases h1 : k = 1
  · subst h1; rfl
  by_cases h3 : k = 4
  · subst h3; rfl
  by_cases h4 : k = 7
  · subst h4; rfl
  rw [mayW_else h1 h2 h3 h4] at hM
  cases hM

set_option maxRecDepth 100000 in
set_option maxHeartbeats 1000000 in
theorem rall_same (k : Int) (b s : List UInt8) (hb : b.length ≤ 1048576) (hs : s.length ≤ 1048576) (w : World) :
    Calls Tryz.prog 26 #[.agg #[.int .i64 k, .string (tx b)], .agg #[.int .i64 k, .string (tx s)]] w fun e w' => e = .returned (.bool (allW k b k s)) ∧ Below w.heap.size w w' := by
  have hne : (k != k) = false := by simp
  have D1 : Hid (∀ W, Calls Tryz.prog 25 #[.agg #[.int .i64 k, .string (tx b)]] W fun e w' => e = .returned (.bool (mayW k b)) ∧ Below W.heap.size W w') := fun W => rmayT_any k b hb W
  have D2 : Hid (∀ W, Calls Tryz.prog 24 #[.agg #[.int .i64 k, .string (tx s)]] W fun e w' => e = .returned (.bool (mayG k s)) ∧ Below W.heap.size W w') := fun W => rgen_any k s hs W
  cases hA : mayW k b with
  | false =>
    have HR : Hid (allW k b k s = false) := by unfold Hid allW; rw [hA]; rfl
    rw [hA] at D1
    generalize allW k b k s = R at *
    clear hA D2
    have BX := (nbelowW w (boxS k b)).trans ((nbelowW (w.alloc (boxS k b)) (boxG k s)).mono (by simp))
    have T0 := two_new w k k b s
    unfold boxS boxG at T0 BX
    have HBX := hide BX
    clear BX
    go_enter Tryz.func26, Tryz.ntmps26
    have t0 := T0.s0
    have t1 := T0.s1
    have t2 := T0.g0
    have t3 := T0.g1
    go_wp2_with fail
    refine (D1.out _).mono ?_
    rintro e w1 ⟨rfl, BQ⟩
    have T1 := T0.below BQ
    have HB1 := hide (HBX.out.trans (BQ.mono HBX.out.size))
    clear t0 t1 t2 t3 T0 BQ HBX
    have t0 := T1.s0
    have t1 := T1.s1
    have t2 := T1.g0
    have t3 := T1.g1
    go_wp2
    go_ret
    exact ⟨by rw [HR.out]; rfl, HB1.out⟩
  | true =>
    cases hG : mayG k s with
    | false =>
      have HR : Hid (allW k b k s = false) := by unfold Hid allW; rw [hA, hG]; rfl
      rw [hA] at D1
      rw [hG] at D2
      generalize allW k b k s = R at *
      clear hA hG
      have BX := (nbelowW w (boxS k b)).trans ((nbelowW (w.alloc (boxS k b)) (boxG k s)).mono (by simp))
      have T0 := two_new w k k b s
      unfold boxS boxG at T0 BX
      have HBX := hide BX
      clear BX
      go_enter Tryz.func26, Tryz.ntmps26
      have t0 := T0.s0
      have t1 := T0.s1
      have t2 := T0.g0
      have t3 := T0.g1
      go_wp2_with fail
      refine (D1.out _).mono ?_
      rintro e w1 ⟨rfl, BQ⟩
      have T1 := T0.below BQ
      have HB1 := hide (HBX.out.trans (BQ.mono HBX.out.size))
      clear t0 t1 t2 t3 T0 BQ HBX
      have t0 := T1.s0
      have t1 := T1.s1
      have t2 := T1.g0
      have t3 := T1.g1
      go_wp2_with fail
      refine (D2.out _).mono ?_
      rintro e w2 ⟨rfl, BQ⟩
      have T2 := T1.below BQ
      have HB2 := hide (HB1.out.trans (BQ.mono HB1.out.size))
      clear t0 t1 t2 t3 T1 BQ HB1
      have t0 := T2.s0
      have t1 := T2.s1
      have t2 := T2.g0
      have t3 := T2.g1
      go_wp2
      go_ret
      exact ⟨by rw [HR.out]; rfl, HB2.out⟩
    | true =>
      have hRh : allW k b k s = hF (rAt k) b s := by unfold allW holL; rw [hA, hG]; simp
      rw [hA] at D1
      rw [hG] at D2
      by_cases h2 : k = 2
      · subst h2
        have D3 := hide (fun W => refWild_any s hs W)
        have hh : hF (rAt 2) b s = belB (trimW s) b := rfl
        rw [hh] at hRh
        cases hw : wildL s with
        | true =>
          rw [hw] at D3
          obtain ⟨r, hsr, hr, _⟩ := wild_split hw
          have hrl : s.length = r.length + 2 := by rw [hsr]; rfl
          have s1 : ∀ X, (Instr.slice 9 (.string (tx s)) (some (.int .i64 2)) none none).run Tryz.prog X = .ok (.string (tx r)) X := fun X => by
            have h := sl_tx s 2 (by omega) X
            rw [show s.drop 2 = r by rw [hsr]; rfl] at h
            exact h
          have D4 : Hid (∀ W, Calls Tryz.prog 40 #[.agg #[.int .i64 2, .string (tx b)], .string (tx r)] W fun e w' => e = .returned (.bool (belB r b)) ∧ Below W.heap.size W w') := fun W => rlie_dns b r hb (by omega) W
          rw [show trimW s = r by rw [hsr, trim_star]] at hRh
          have HR := hide hRh
          generalize allW 2 b 2 s = R at *
          generalize belB r b = D at *
          clear hA hG hRh hh hw hsr hr hrl
          obtain ⟨k, hk⟩ : ∃ k : Int, k = 2 := ⟨_, rfl⟩
          rw [← hk] at D1 D2 D4 hne ⊢
          have hk2 : (k == 2) = true := by rw [hk]; rfl
          clear hk
          have BX := (nbelowW w (boxS k b)).trans ((nbelowW (w.alloc (boxS k b)) (boxG k s)).mono (by simp))
          have T0 := two_new w k k b s
          unfold boxS boxG at T0 BX
          have HBX := hide BX
          clear BX
          go_enter Tryz.func26, Tryz.ntmps26
          have t0 := T0.s0
          have t1 := T0.s1
          have t2 := T0.g0
          have t3 := T0.g1
          go_wp2_with fail
          refine (D1.out _).mono ?_
          rintro e w1 ⟨rfl, BQ⟩
          have T1 := T0.below BQ
          have HB1 := hide (HBX.out.trans (BQ.mono HBX.out.size))
          clear t0 t1 t2 t3 T0 BQ HBX
          have t0 := T1.s0
          have t1 := T1.s1
          have t2 := T1.g0
          have t3 := T1.g1
          go_wp2_with fail
          refine (D2.out _).mono ?_
          rintro e w2 ⟨rfl, BQ⟩
          have T2 := T1.below BQ
          have HB2 := hide (HB1.out.trans (BQ.mono HB1.out.size))
          clear t0 t1 t2 t3 T1 BQ HB1
          have t0 := T2.s0
          have t1 := T2.s1
          have t2 := T2.g0
          have t3 := T2.g1
          go_wp2_with fail
          refine (D3.out _).mono ?_
          rintro e w3 ⟨rfl, BQ⟩
          have T3 := T2.below BQ
          have HB3 := hide (HB2.out.trans (BQ.mono HB2.out.size))
          clear t0 t1 t2 t3 T2 BQ HB2
          have t0 := T3.s0
          have t1 := T3.s1
          have t2 := T3.g0
          have t3 := T3.g1
          go_wp2_with fail
          refine wp_region_held_drew (S := Two w.heap.size k b k s) (by kernel_rfl) (T3.below (Below.refl _ _).drew) (fun hS => ?_)
          have HX := hide (HB3.out.drew)
          clear t0 t1 t2 t3 T3 HB3
          generalize w3.drew = X0 at *
          refine wpAnyH_take (i := 0) (v := ?_) rfl (by kernel_rfl) (by kernel_rfl) (by kernel_rfl) (fun _ _ _ h => h) (Or.inl ⟨by rfl, ?_⟩) (by assumption) ?_
          rotate_left
          · intro wq hSq
            have r0 := hSq.s0
            have r1 := hSq.s1
            go_simp
            try with_reducible rfl
          simp only [List.getElem_toArray, List.getElem_cons_zero, Act.put, List.setIfInBounds_toArray, List.set_cons_zero, List.set_cons_succ]
          refine wpAnyH_take (i := 1) (v := ?_) rfl (by kernel_rfl) (by kernel_rfl) (by kernel_rfl) (fun _ _ _ h => h) (Or.inl ⟨by rfl, ?_⟩) (by assumption) ?_
          rotate_left
          · intro wq hSq
            have r0 := hSq.s0
            have r1 := hSq.s1
            have r2 := hSq.g0
            have r3 := hSq.g1
            go_simp
            try with_reducible rfl
          simp only [List.getElem_toArray, List.getElem_cons_succ, List.getElem_cons_zero, Act.put, List.setIfInBounds_toArray, List.set_cons_zero, List.set_cons_succ]
          refine wpAnyH_take (i := 2) (v := ?_) rfl (by kernel_rfl) (by kernel_rfl) (by kernel_rfl) (fun _ _ _ h => h) (Or.inl ⟨by rfl, ?_⟩) (by assumption) ?_
          rotate_left
          · intro wq hSq
            have r0 := hSq.s0
            have r1 := hSq.s1
            have r2 := hSq.g0
            have r3 := hSq.g1
            go_simp
            try with_reducible rfl
          simp only [List.getElem_toArray, List.getElem_cons_succ, List.getElem_cons_zero, Act.put, List.setIfInBounds_toArray, List.set_cons_zero, List.set_cons_succ]
          refine wpAnyH_take (i := 3) (v := ?_) rfl (by kernel_rfl) (by kernel_rfl) (by kernel_rfl) (fun _ _ _ h => h) (Or.inl ⟨by rfl, ?_⟩) (by assumption) ?_
          rotate_left
          · intro wq hSq
            have r0 := hSq.s0
            have r1 := hSq.s1
            have r2 := hSq.g0
            have r3 := hSq.g1
            go_simp
            try with_reducible rfl
          simp only [List.getElem_toArray, List.getElem_cons_succ, List.getElem_cons_zero, Act.put, List.setIfInBounds_toArray, List.set_cons_zero, List.set_cons_succ]
          refine wpAnyH_ready (rs := [4]) (by kernel_rfl) (by simp) ?_
          refine AllReadyH.cons rfl (fun Kq hKq => ?_) AllReadyH.nil
          go_simp
          refine (D4.out _).mono ?_
          rintro e w4 ⟨rfl, BQ⟩
          have T4 := hS.below BQ
          refine hKq.out _ _ T4 (fun _ => ?_)
          clear hKq Kq hS
          have HB4 := hide (HX.out.trans (BQ.mono HX.out.size))
          refine wpAnyH_take (i := 5) (v := ?_) rfl (by kernel_rfl) (by kernel_rfl) (by kernel_rfl) (fun _ _ _ h => h) (Or.inl ⟨by rfl, ?_⟩) (by assumption) ?_
          rotate_left
          · intro wq hSq
            have r0 := hSq.s0
            have r1 := hSq.s1
            have r2 := hSq.g0
            have r3 := hSq.g1
            go_simp
            try with_reducible rfl
          simp only [List.getElem_toArray, List.getElem_cons_succ, List.getElem_cons_zero, Act.put, List.setIfInBounds_toArray, List.set_cons_zero, List.set_cons_succ]
          refine wpAnyH_done (by kernel_rfl) ?_ _
          have t0 := T4.s0
          have t1 := T4.s1
          have t2 := T4.g0
          have t3 := T4.g1
          go_wp2
          go_ret
          exact ⟨by rw [HR.out]; rfl, HB4.out⟩
        | false =>
          rw [hw] at D3
          have hd : dnsL s = true := by
            have h9 : mayG 2 s = (dnsL s || wildL s) := rfl
            rw [h9, hw, Bool.or_false] at hG
            exact hG
          have D4 : Hid (∀ W, Calls Tryz.prog 40 #[.agg #[.int .i64 2, .string (tx b)], .string (tx s)] W fun e w' => e = .returned (.bool (belB s b)) ∧ Below W.heap.size W w') := fun W => rlie_dns b s hb hs W
          rw [trim_dns hd] at hRh
          have HR := hide hRh
          generalize allW 2 b 2 s = R at *
          generalize belB s b = D at *
          clear hA hG hRh hh hw hd
          obtain ⟨k, hk⟩ : ∃ k : Int, k = 2 := ⟨_, rfl⟩
          rw [← hk] at D1 D2 D4 hne ⊢
          have hk2 : (k == 2) = true := by rw [hk]; rfl
          clear hk
          have BX := (nbelowW w (boxS k b)).trans ((nbelowW (w.alloc (boxS k b)) (boxG k s)).mono (by simp))
          have T0 := two_new w k k b s
          unfold boxS boxG at T0 BX
          have HBX := hide BX
          clear BX
          go_enter Tryz.func26, Tryz.ntmps26
          have t0 := T0.s0
          have t1 := T0.s1
          have t2 := T0.g0
          have t3 := T0.g1
          go_wp2_with fail
          refine (D1.out _).mono ?_
          rintro e w1 ⟨rfl, BQ⟩
          have T1 := T0.below BQ
          have HB1 := hide (HBX.out.trans (BQ.mono HBX.out.size))
          clear t0 t1 t2 t3 T0 BQ HBX
          have t0 := T1.s0
          have t1 := T1.s1
          have t2 := T1.g0
          have t3 := T1.g1
          go_wp2_with fail
          refine (D2.out _).mono ?_
          rintro e w2 ⟨rfl, BQ⟩
          have T2 := T1.below BQ
          have HB2 := hide (HB1.out.trans (BQ.mono HB1.out.size))
          clear t0 t1 t2 t3 T1 BQ HB1
          have t0 := T2.s0
          have t1 := T2.s1
          have t2 := T2.g0
          have t3 := T2.g1
          go_wp2_with fail
          refine (D3.out _).mono ?_
          rintro e w3 ⟨rfl, BQ⟩
          have T3 := T2.below BQ
          have HB3 := hide (HB2.out.trans (BQ.mono HB2.out.size))
          clear t0 t1 t2 t3 T2 BQ HB2
          have t0 := T3.s0
          have t1 := T3.s1
          have t2 := T3.g0
          have t3 := T3.g1
          go_wp2_with fail
          refine (D4.out _).mono ?_
          rintro e w4 ⟨rfl, BQ⟩
          have T4 := T3.below BQ
          have HB4 := hide (HB3.out.trans (BQ.mono HB3.out.size))
          clear t0 t1 t2 t3 T3 BQ HB3
          have t0 := T4.s0
          have t1 := T4.s1
          have t2 := T4.g0
          have t3 := T4.g1
          go_wp2
          go_ret
          exact ⟨by rw [HR.out]; rfl, HB4.out⟩
      · have D4 : Hid (∀ W, Calls Tryz.prog 40 #[.agg #[.int .i64 k, .string (tx b)], .string (tx s)] W fun e w' => e = .returned (.bool (lieL k b s)) ∧ Below W.heap.size W w') := fun W => rlie_any k b s hb hs hA (fun h1 => by subst h1; exact mail_cut hG) W
        rw [← lie_hF hA h2] at hRh
        have HR := hide hRh
        have hk2 : (k == 2) = false := by simpa using h2
        generalize allW k b k s = R at *
        generalize lieL k b s = D at *
        clear hA hG hRh h2
        have BX := (nbelowW w (boxS k b)).trans ((nbelowW (w.alloc (boxS k b)) (boxG k s)).mono (by simp))
        have T0 := two_new w k k b s
        unfold boxS boxG at T0 BX
        have HBX := hide BX
        clear BX
        go_enter Tryz.func26, Tryz.ntmps26
        have t0 := T0.s0
        have t1 := T0.s1
        have t2 := T0.g0
        have t3 := T0.g1
        go_wp2_with fail
        refine (D1.out _).mono ?_
        rintro e w1 ⟨rfl, BQ⟩
        have T1 := T0.below BQ
        have HB1 := hide (HBX.out.trans (BQ.mono HBX.out.size))
        clear t0 t1 t2 t3 T0 BQ HBX
        have t0 := T1.s0
        have t1 := T1.s1
        have t2 := T1.g0
        have t3 := T1.g1
        go_wp2_with fail
        refine (D2.out _).mono ?_
        rintro e w2 ⟨rfl, BQ⟩
        have T2 := T1.below BQ
        have HB2 := hide (HB1.out.trans (BQ.mono HB1.out.size))
        clear t0 t1 t2 t3 T1 BQ HB1
        have t0 := T2.s0
        have t1 := T2.s1
        have t2 := T2.g0
        have t3 := T2.g1
        go_wp2_with fail
        refine (D4.out _).mono ?_
        rintro e w4 ⟨rfl, BQ⟩
        have T4 := T2.below BQ
        have HB4 := hide (HB2.out.trans (BQ.mono HB2.out.size))
        clear t0 t1 t2 t3 T2 BQ HB2
        have t0 := T4.s0
        have t1 := T4.s1
        have t2 := T4.g0
        have t3 := T4.g1
        go_wp2
        go_ret
        exact ⟨by rw [HR.out]; rfl, HB4.out⟩
set_option maxRecDepth 100000 in
set_option maxHeartbeats 1000000 in
theorem rall_any (k : Int) (b : List UInt8) (gk : Int) (s : List UInt8) (hb : b.length ≤ 1048576) (hs : s.length ≤ 1048576) (w : World) :
    Calls Tryz.prog 26 #[.agg #[.int .i64 k, .string (tx b)], .agg #[.int .i64 gk, .string (tx s)]] w fun e w' => e = .returned (.bool (allW k b gk s)) ∧ Below w.heap.size w w' := by
  by_cases he : k = gk
  · subst he
    exact rall_same k b s hb hs w
  · have hne : (k != gk) = true := by simpa using he
    have HR : Hid (allW k b gk s = false) := by unfold Hid allW holL; rw [decide_eq_false he]; simp
    generalize allW k b gk s = R at *
    clear he
    have BX := (nbelowW w (boxS k b)).trans ((nbelowW (w.alloc (boxS k b)) (boxG gk s)).mono (by simp))
    have T0 := two_new w k gk b s
    unfold boxS boxG at T0 BX
    have HBX := hide BX
    clear BX
    go_enter Tryz.func26, Tryz.ntmps26
    have t0 := T0.s0
    have t1 := T0.s1
    have t2 := T0.g0
    have t3 := T0.g1
    go_wp2
    go_ret
    exact ⟨by rw [HR.out]; rfl, HBX.out⟩

end Go.Proofs.YtklchpdpooikdaaGreatDoor
