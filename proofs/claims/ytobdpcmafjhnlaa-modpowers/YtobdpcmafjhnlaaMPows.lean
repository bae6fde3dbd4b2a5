/-
  ModPowers answers true at any modulus, any number and any exponent, and writes nothing that was there.
-/
import Derived.Test.YtobdpcmafjhnlaaMRefExp
namespace Go.Proofs.Ytobdpcmafjhnlaa
open Go.RowKit Go.IntWalk

set_option maxRecDepth 100000 in
set_option maxHeartbeats 4000000 in
theorem powers_walk (a0 : Option Addr) (n0 c0 : Nat) (ls : List Int) (a1 : Option Addr) (n1 c1 : Nat) (xs : List Int) (a2 : Option Addr) (n2 c2 : Nat) (ys : List Int) (w : World) (SL : SrcG .u64 18446744073709551616 w a0 n0 c0 ls) (SA : SrcG .u64 18446744073709551616 w a1 n1 c1 xs) (SB : SrcG .u64 18446744073709551616 w a2 n2 c2 ys) (hn0 : n0 ≤ 17592186043904) (hn1 : n1 ≤ 17592186043904) (hn2 : n2 ≤ 17592186043904) :
    Calls Try.prog 4 #[.slice a0 n0 c0, .slice a1 n1 c1, .slice a2 n2 c2] w fun e w' => e = .returned (.bool true) ∧ Below w.heap.size w w' := by
  have HC := hide (made_arg a0 n0 c0 ls w SL hn0)
  go_enter Try.func4, Try.ntmps4
  go_wp2_with fail
  refine HC.out.mono ?_
  rintro e w1 (⟨rfl, LB⟩ | ⟨mv, nv, M, rfl, HM, NM, LB⟩)
  · go_wp2
    go_ret
    exact ⟨rfl, LB⟩
  · have SA := SA.below LB
    have SB := SB.below LB
    have hM := HM.gt.1
    obtain ⟨gm, hmv⟩ : ∃ gm, mv = .pointer (some ⟨gm, 0, none⟩) := by obtain ⟨gm, _, h, _⟩ := HM; exact ⟨gm, h⟩
    subst hmv
    clear SL HC
    obtain ⟨x, hx⟩ : ∃ x, argX xs = x := ⟨_, rfl⟩
    obtain ⟨E, hEE⟩ : ∃ x, argE xs = x := ⟨_, rfl⟩
    have PA : Hid (∀ (W : World) ao n c, SrcG .u64 18446744073709551616 W ao n c xs → Arg W (.slice ao n c) x E) := by unfold Hid; intro W ao n c h; rw [← hx, ← hEE]; exact Arg.at h
    have hE : E = 0 ∨ E = 3 := by rw [← hEE]; unfold argE; split <;> simp
    clear hx hEE
    have HD := hide SB.hdg
    go_wp2_with fail
    refine (of_arg _ x E _ (PA.out _ _ _ _ SA)).mono ?_
    rintro e w2 ⟨vx, rfl, NX, hB⟩
    have HM := HM.below hB
    have NM := NM.below hB
    have SA := SA.below hB
    have SB := SB.below hB
    have LB := LB.trans (hB.mono LB.size)
    clear hB
    by_cases hl : 64 < (trm ys).length
    · have HF : Hid (expE ys = 3) := if_pos (by omega)
      go_wp2_with fail
      refine (of_long _ _ _ ys _ SB hl).mono ?_
      rintro e wq ⟨rfl, hw⟩
      have hw2 := hw.symm
      subst hw2
      clear hw
      have NY := NumD.nil w2 0
      go_wp2_with fail
      refine (lent7 _ _ _ xs _ SA hn1).mono ?_
      rintro e w4 ⟨g1, d1, rfl, LA, hB⟩
      have HM := HM.below hB
      have NM := NM.below hB
      have SA := SA.below hB
      have SB := SB.below hB
      have LB := LB.trans (hB.mono LB.size)
      have NX := NX.below hB
      have NY := NY.below hB
      clear hB
      go_wp2_with fail
      refine (lent7 _ _ _ ys _ SB hn2).mono ?_
      rintro e w5 ⟨g2, d2, rfl, LC, hB⟩
      have HM := HM.below hB
      have NM := NM.below hB
      have SA := SA.below hB
      have SB := SB.below hB
      have LB := LB.trans (hB.mono LB.size)
      have NX := NX.below hB
      have NY := NY.below hB
      have LA := LA.below hB
      clear hB
      have HX := exp_arg _ _ M x E _ _ _ ys _ HM (PA.out _ _ _ _ LA.src) LC.src
      rw [HF.out] at HX
      have hG : max E 3 = 3 := by rcases hE with rfl | rfl <;> decide
      rw [hG] at HX
      have HX := hide HX
      go_wp2_with fail
      refine HX.out.mono ?_
      rintro e w6 ⟨vp, rfl, AA, hB⟩
      have LB := LB.trans (hB.mono LB.size)
      rcases AA with ⟨h, _⟩ | ⟨_, hv⟩
      · exact absurd h (by decide)
      · subst hv
        clear HX
        go_wp2_with fail
        refine (is_bad 3 _ _ (by decide)).mono ?_
        rintro e wq ⟨rfl, hw⟩
        have hw2 := hw.symm
        subst hw2
        clear hw
        go_wp2
        go_ret
        exact ⟨rfl, LB⟩
    · have HO := hide (of_ok _ _ _ ys _ SB (by omega))
      go_wp2_with fail
      refine HO.out.mono ?_
      rintro e w3 ⟨vy, rfl, NY, hB⟩
      have HM := HM.below hB
      have NM := NM.below hB
      have SA := SA.below hB
      have SB := SB.below hB
      have LB := LB.trans (hB.mono LB.size)
      have NX := NX.below hB
      clear hB HO
      by_cases hl8 : 8 < (trm ys).length
      · have HF : Hid (expE ys = 3) := if_pos hl8
        have HS := hide (refBits_any vy (val 18446744073709551616 ys) 256 _ NY (by omega))
        have HL2 : Hid (∀ S : Nat, BL (val 18446744073709551616 ys) S → 512 < (S : Int)) := by
          unfold Hid
          intro S hS
          have := bl_limbs HD.out hS
          split at this <;> omega
        go_wp2_with fail
        refine HS.out.mono ?_
        rintro e wz ⟨S, rfl, hS, hw⟩
        have hw2 := hw.symm
        subst hw2
        clear hw
        have k1 := HL2.out S hS
        clear hS HL2 HS
        obtain ⟨I, hI⟩ : ∃ I : Int, (S : Int) = I := ⟨_, rfl⟩
        rw [hI] at k1 ⊢
        clear hI
        clear hl hl8
        go_wp2_with fail
        refine (lent7 _ _ _ xs _ SA hn1).mono ?_
        rintro e w4 ⟨g1, d1, rfl, LA, hB⟩
        have HM := HM.below hB
        have NM := NM.below hB
        have SA := SA.below hB
        have SB := SB.below hB
        have LB := LB.trans (hB.mono LB.size)
        have NX := NX.below hB
        have NY := NY.below hB
        clear hB
        go_wp2_with fail
        refine (lent7 _ _ _ ys _ SB hn2).mono ?_
        rintro e w5 ⟨g2, d2, rfl, LC, hB⟩
        have HM := HM.below hB
        have NM := NM.below hB
        have SA := SA.below hB
        have SB := SB.below hB
        have LB := LB.trans (hB.mono LB.size)
        have NX := NX.below hB
        have NY := NY.below hB
        have LA := LA.below hB
        clear hB
        have HX := exp_arg _ _ M x E _ _ _ ys _ HM (PA.out _ _ _ _ LA.src) LC.src
        rw [HF.out] at HX
        have hG : max E 3 = 3 := by rcases hE with rfl | rfl <;> decide
        rw [hG] at HX
        have HX := hide HX
        go_wp2_with fail
        refine HX.out.mono ?_
        rintro e w6 ⟨vp, rfl, AA, hB⟩
        have LB := LB.trans (hB.mono LB.size)
        rcases AA with ⟨h, _⟩ | ⟨_, hv⟩
        · exact absurd h (by decide)
        · subst hv
          clear HX
          go_wp2_with fail
          refine (is_bad 3 _ _ (by decide)).mono ?_
          rintro e wq ⟨rfl, hw⟩
          have hw2 := hw.symm
          subst hw2
          clear hw
          go_wp2
          go_ret
          exact ⟨rfl, LB⟩
      · have HF : Hid (expE ys = 0) := if_neg hl8
        have HS := hide (refBits_any vy (val 18446744073709551616 ys) 256 _ NY (by omega))
        have HL2 : Hid (∀ S : Nat, BL (val 18446744073709551616 ys) S → ¬ 512 < (S : Int)) := by
          unfold Hid
          intro S hS
          have := bl_limbs HD.out hS
          split at this <;> omega
        go_wp2_with fail
        refine HS.out.mono ?_
        rintro e wz ⟨S, rfl, hS, hw⟩
        have hw2 := hw.symm
        subst hw2
        clear hw
        have k1 := HL2.out S hS
        clear hS HL2 HS
        obtain ⟨I, hI⟩ : ∃ I : Int, (S : Int) = I := ⟨_, rfl⟩
        rw [hI] at k1 ⊢
        clear hI
        clear hl hl8
        rcases hE with rfl | rfl
        · go_wp2_with fail
          refine (lent7 _ _ _ xs _ SA hn1).mono ?_
          rintro e w4 ⟨g1, d1, rfl, LA, hB⟩
          have HM := HM.below hB
          have NM := NM.below hB
          have SA := SA.below hB
          have SB := SB.below hB
          have LB := LB.trans (hB.mono LB.size)
          have NX := NX.below hB
          have NY := NY.below hB
          clear hB
          go_wp2_with fail
          refine (lent7 _ _ _ ys _ SB hn2).mono ?_
          rintro e w5 ⟨g2, d2, rfl, LC, hB⟩
          have HM := HM.below hB
          have NM := NM.below hB
          have SA := SA.below hB
          have SB := SB.below hB
          have LB := LB.trans (hB.mono LB.size)
          have NX := NX.below hB
          have NY := NY.below hB
          have LA := LA.below hB
          clear hB
          have HX := exp_arg _ _ M x 0 _ _ _ ys _ HM (PA.out _ _ _ _ LA.src) LC.src
          rw [HF.out] at HX
          rw [show max 0 0 = (0 : Int) by decide] at HX
          have HX := hide HX
          go_wp2_with fail
          refine HX.out.mono ?_
          rintro e w6 ⟨vp, rfl, AA, hB⟩
          clear HX
          rcases AA with ⟨_, NP⟩ | ⟨h, _⟩
          · have HM := HM.below hB
            have NM := NM.below hB
            have SA := SA.below hB
            have SB := SB.below hB
            have LB := LB.trans (hB.mono LB.size)
            have NX := NX.below hB
            have NY := NY.below hB
            have LA := LA.below hB
            have LC := LC.below hB
            clear hB
            go_wp2_with fail
            refine (refExp _ _ _ M x (val 18446744073709551616 ys) 256 256 _ NM NX NY (by omega) (by omega) hM).mono ?_
            rintro e w7 ⟨vr, rfl, NR, hB⟩
            have HM := HM.below hB
            have NM := NM.below hB
            have SA := SA.below hB
            have SB := SB.below hB
            have LB := LB.trans (hB.mono LB.size)
            have NX := NX.below hB
            have NY := NY.below hB
            have LA := LA.below hB
            have LC := LC.below hB
            have NP := NP.below hB
            clear hB
            go_wp2_with fail
            refine (is_ok _ _ _ 8 32 _ NP NR (by omega)).mono ?_
            rintro e w8 ⟨rfl, hB⟩
            have HM := HM.below hB
            have NM := NM.below hB
            have SA := SA.below hB
            have SB := SB.below hB
            have LB := LB.trans (hB.mono LB.size)
            have NX := NX.below hB
            have NY := NY.below hB
            have LA := LA.below hB
            have LC := LC.below hB
            clear hB
            go_wp2_with fail
            refine (kept7 _ _ _ _ _ _ xs _ LA SA hn1).mono ?_
            rintro e wk ⟨rfl, hD⟩
            have LC := LC.drew hD
            have SB := hD.src SB
            have LB := hD.below LB
            go_wp2_with fail
            refine (kept7 _ _ _ _ _ _ ys _ LC SB hn2).mono ?_
            rintro e wl ⟨rfl, hD⟩
            have LB := hD.below LB
            go_wp2
            go_ret
            exact ⟨rfl, LB⟩
          · exact absurd rfl h
        · go_wp2_with fail
          refine (lent7 _ _ _ xs _ SA hn1).mono ?_
          rintro e w4 ⟨g1, d1, rfl, LA, hB⟩
          have HM := HM.below hB
          have NM := NM.below hB
          have SA := SA.below hB
          have SB := SB.below hB
          have LB := LB.trans (hB.mono LB.size)
          have NX := NX.below hB
          have NY := NY.below hB
          clear hB
          go_wp2_with fail
          refine (lent7 _ _ _ ys _ SB hn2).mono ?_
          rintro e w5 ⟨g2, d2, rfl, LC, hB⟩
          have HM := HM.below hB
          have NM := NM.below hB
          have SA := SA.below hB
          have SB := SB.below hB
          have LB := LB.trans (hB.mono LB.size)
          have NX := NX.below hB
          have NY := NY.below hB
          have LA := LA.below hB
          clear hB
          have HX := exp_arg _ _ M x 3 _ _ _ ys _ HM (PA.out _ _ _ _ LA.src) LC.src
          rw [HF.out] at HX
          rw [show max 3 0 = (3 : Int) by decide] at HX
          have HX := hide HX
          go_wp2_with fail
          refine HX.out.mono ?_
          rintro e w6 ⟨vp, rfl, AA, hB⟩
          have LB := LB.trans (hB.mono LB.size)
          rcases AA with ⟨h, _⟩ | ⟨_, hv⟩
          · exact absurd h (by decide)
          · subst hv
            clear HX
            go_wp2_with fail
            refine (is_bad 3 _ _ (by decide)).mono ?_
            rintro e wq ⟨rfl, hw⟩
            have hw2 := hw.symm
            subst hw2
            clear hw
            go_wp2
            go_ret
            exact ⟨rfl, LB⟩

end Go.Proofs.Ytobdpcmafjhnlaa
