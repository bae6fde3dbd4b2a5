/-
  ModInverses answers true at any modulus and any number, and writes nothing that was there.
-/
import Derived.Test.YtobdpcmafjhnlaaMRefGcd
namespace Go.Proofs.Ytobdpcmafjhnlaa
open Go.RowKit Go.IntWalk

set_option maxRecDepth 100000 in
set_option maxHeartbeats 4000000 in
theorem inverses_walk (a0 : Option Addr) (n0 c0 : Nat) (ls : List Int) (a1 : Option Addr) (n1 c1 : Nat) (xs : List Int) (w : World) (SL : SrcG .u64 18446744073709551616 w a0 n0 c0 ls) (SA : SrcG .u64 18446744073709551616 w a1 n1 c1 xs) (hn0 : n0 ≤ 17592186043904) (hn1 : n1 ≤ 17592186043904) :
    Calls Try.prog 5 #[.slice a0 n0 c0, .slice a1 n1 c1] w fun e w' => e = .returned (.bool true) ∧ Below w.heap.size w w' := by
  have HC := hide (made_arg a0 n0 c0 ls w SL hn0)
  go_enter Try.func5, Try.ntmps5
  go_wp2_with fail
  refine HC.out.mono ?_
  rintro e w1 (⟨rfl, LB⟩ | ⟨mv, nv, M, rfl, HM, NM, LB⟩)
  · go_wp2
    go_ret
    exact ⟨rfl, LB⟩
  · have SA := SA.below LB
    have hM := HM.gt.1
    have hM0 : 0 < M := by omega
    obtain ⟨gm, hmv⟩ : ∃ gm, mv = .pointer (some ⟨gm, 0, none⟩) := by obtain ⟨gm, _, h, _⟩ := HM; exact ⟨gm, h⟩
    subst hmv
    clear SL HC
    obtain ⟨x, hx⟩ : ∃ x, argX xs = x := ⟨_, rfl⟩
    obtain ⟨E, hEE⟩ : ∃ x, argE xs = x := ⟨_, rfl⟩
    have PA : Hid (∀ (W : World) ao n c, SrcG .u64 18446744073709551616 W ao n c xs → Arg W (.slice ao n c) x E) := by unfold Hid; intro W ao n c h; rw [← hx, ← hEE]; exact Arg.at h
    have hE : E = 0 ∨ E = 3 := by rw [← hEE]; unfold argE; split <;> simp
    clear hx hEE
    go_wp2_with fail
    refine (of_arg _ x E _ (PA.out _ _ _ _ SA)).mono ?_
    rintro e w2 ⟨vx, rfl, NX, hB⟩
    have HM := HM.below hB
    have NM := NM.below hB
    have SA := SA.below hB
    have LB := LB.trans (hB.mono LB.size)
    clear hB
    go_wp2_with fail
    refine (lent7 _ _ _ xs _ SA hn1).mono ?_
    rintro e w4 ⟨g1, d1, rfl, LA, hB⟩
    have HM := HM.below hB
    have NM := NM.below hB
    have SA := SA.below hB
    have LB := LB.trans (hB.mono LB.size)
    have NX := NX.below hB
    clear hB
    have AA := PA.out _ _ _ _ LA.src
    rcases hE with rfl | rfl
    · by_cases hg : Int.gcd M (x % M) = 1
      · have HI := hide (inverse_ok _ _ M x _ HM AA hg)
        go_wp2_with fail
        refine HI.out.mono ?_
        rintro e w5 ⟨vi, F, rfl, NI, hF, hxF, hB⟩
        have HXF := hide hxF
        have HM := HM.below hB
        have NM := NM.below hB
        have SA := SA.below hB
        have LB := LB.trans (hB.mono LB.size)
        have NX := NX.below hB
        have LA := LA.below hB
        clear hB AA HI hxF
        go_wp2_with fail
        refine (refReduce _ _ M x 256 _ NM NX (by omega) hM0).mono ?_
        rintro e w6 ⟨vr, rfl, NR, hB⟩
        have HM := HM.below hB
        have NM := NM.below hB
        have SA := SA.below hB
        have LB := LB.trans (hB.mono LB.size)
        have NX := NX.below hB
        have LA := LA.below hB
        have NI := NI.below hB
        clear hB
        go_wp2_with fail
        refine (refDivisor _ _ M _ _ NM NR hM0).mono ?_
        rintro e w7 ⟨vd, rfl, ND, hB⟩
        have HM := HM.below hB
        have NM := NM.below hB
        have SA := SA.below hB
        have LB := LB.trans (hB.mono LB.size)
        have NX := NX.below hB
        have LA := LA.below hB
        have NI := NI.below hB
        clear hB NR
        have BO : Below w7.heap.size w7 (w7.alloc (.cells #[.int .i64 1] 3)) := (Below.refl _ _).alloc (Nat.le_refl _) _
        have HCM := refCompare_any _ _ _ _ _ _ _ (ND.below BO) (NumD.one w7)
        rw [hg, show cmpI ((1 : Nat) : Int) 1 = 0 by decide] at HCM
        have HCM := hide HCM
        go_wp2_with fail
        refine HCM.out.mono ?_
        rintro e w8 ⟨rfl, hD⟩
        have hB := BO.trans (hD.toBelow _)
        have HM := HM.below hB
        have NM := NM.below hB
        have SA := SA.below hB
        have LB := LB.trans (hB.mono LB.size)
        have NX := NX.below hB
        have LA := LA.below hB
        have NI := NI.below hB
        clear hB hD HCM BO ND
        have AI := hide (of_arg vi F 0 w8 (Arg.num NI.num (by omega)))
        go_wp2_with fail
        refine AI.out.mono ?_
        rintro e w9 ⟨vy, rfl, NY, hB⟩
        have HM := HM.below hB
        have NM := NM.below hB
        have SA := SA.below hB
        have LB := LB.trans (hB.mono LB.size)
        have NX := NX.below hB
        have LA := LA.below hB
        have NI := NI.below hB
        clear hB AI
        go_wp2_with fail
        refine (is_ok _ _ _ 8 256 _ NI NY (by omega)).mono ?_
        rintro e w10 ⟨rfl, hB⟩
        have HM := HM.below hB
        have NM := NM.below hB
        have SA := SA.below hB
        have LB := LB.trans (hB.mono LB.size)
        have NX := NX.below hB
        have LA := LA.below hB
        have NY := NY.below hB
        clear hB NI
        have HC2 := refCompare_any _ _ _ _ _ _ _ NY NM
        rw [cmpI_lt hF] at HC2
        have HC2 := hide HC2
        go_wp2_with fail
        refine HC2.out.mono ?_
        rintro e w11 ⟨rfl, hD⟩
        have hB := hD.toBelow w10.heap.size
        have HM := HM.below hB
        have NM := NM.below hB
        have SA := SA.below hB
        have LB := LB.trans (hB.mono LB.size)
        have NX := NX.below hB
        have LA := LA.below hB
        have NY := NY.below hB
        clear hB hD HC2
        go_wp2_with fail
        refine (refMul7 _ _ _ M x F 256 256 _ NM NX NY (by omega) (by omega) hM0).mono ?_
        rintro e w12 ⟨vm, rfl, NP, hB⟩
        rw [HXF.out] at NP
        have HM := HM.below hB
        have NM := NM.below hB
        have SA := SA.below hB
        have LB := LB.trans (hB.mono LB.size)
        have NX := NX.below hB
        have LA := LA.below hB
        clear hB NY
        have BO : Below w12.heap.size w12 (w12.alloc (.cells #[.int .i64 1] 3)) := (Below.refl _ _).alloc (Nat.le_refl _) _
        have HC3 := refCompare_any _ _ _ _ _ _ _ (NP.below BO) (NumD.one w12)
        rw [show cmpI 1 1 = 0 by decide] at HC3
        have HC3 := hide HC3
        go_wp2_with fail
        refine HC3.out.mono ?_
        rintro e w13 ⟨rfl, hD⟩
        have hB := BO.trans (hD.toBelow _)
        have HM := HM.below hB
        have NM := NM.below hB
        have SA := SA.below hB
        have LB := LB.trans (hB.mono LB.size)
        have NX := NX.below hB
        have LA := LA.below hB
        clear hB hD HC3 BO NP
        go_wp2_with fail
        refine (kept7 _ _ _ _ _ _ xs _ LA SA hn1).mono ?_
        rintro e wk ⟨rfl, hD⟩
        have LB := hD.below LB
        go_wp2
        go_ret
        exact ⟨rfl, LB⟩
      · have HI := hide (inverse_no _ _ M x _ HM AA hg)
        go_wp2_with fail
        refine HI.out.mono ?_
        rintro e w5 ⟨rfl, hB⟩
        have HM := HM.below hB
        have NM := NM.below hB
        have SA := SA.below hB
        have LB := LB.trans (hB.mono LB.size)
        have NX := NX.below hB
        have LA := LA.below hB
        clear hB AA HI
        go_wp2_with fail
        refine (refReduce _ _ M x 256 _ NM NX (by omega) hM0).mono ?_
        rintro e w6 ⟨vr, rfl, NR, hB⟩
        have HM := HM.below hB
        have NM := NM.below hB
        have SA := SA.below hB
        have LB := LB.trans (hB.mono LB.size)
        have NX := NX.below hB
        have LA := LA.below hB
        skip
        clear hB
        go_wp2_with fail
        refine (refDivisor _ _ M _ _ NM NR hM0).mono ?_
        rintro e w7 ⟨vd, rfl, ND, hB⟩
        have HM := HM.below hB
        have NM := NM.below hB
        have SA := SA.below hB
        have LB := LB.trans (hB.mono LB.size)
        have NX := NX.below hB
        have LA := LA.below hB
        skip
        clear hB NR
        have BO : Below w7.heap.size w7 (w7.alloc (.cells #[.int .i64 1] 3)) := (Below.refl _ _).alloc (Nat.le_refl _) _
        have HCM := refCompare_any _ _ _ _ _ _ _ (ND.below BO) (NumD.one w7)
        obtain ⟨r, hr⟩ : ∃ r, cmpI (Int.gcd M (x % M) : Int) 1 = r := ⟨_, rfl⟩
        have hrz : (r == 0) = false := by
          rw [← hr]
          unfold cmpI
          (repeat' split) <;> first | decide | (exfalso; omega)
        rw [hr] at HCM
        have HCM := hide HCM
        clear hr
        go_wp2_with fail
        refine HCM.out.mono ?_
        rintro e w8 ⟨rfl, hD⟩
        have hB := BO.trans (hD.toBelow _)
        have HM := HM.below hB
        have NM := NM.below hB
        have SA := SA.below hB
        have LB := LB.trans (hB.mono LB.size)
        have NX := NX.below hB
        have LA := LA.below hB
        clear hB hD HCM BO ND
        go_wp2_with fail
        refine (is_bad 70 _ _ (by decide)).mono ?_
        rintro e wq ⟨rfl, hw⟩
        have hw2 := hw.symm
        subst hw2
        clear hw
        go_wp2_with fail
        refine (kept7 _ _ _ _ _ _ xs _ LA SA hn1).mono ?_
        rintro e wk ⟨rfl, hD⟩
        have LB := hD.below LB
        go_wp2
        go_ret
        exact ⟨rfl, LB⟩
    · have HI := hide (inverse_long _ _ M x _ HM AA)
      go_wp2_with fail
      refine HI.out.mono ?_
      rintro e w5 ⟨rfl, hB⟩
      have LB := LB.trans (hB.mono LB.size)
      clear HI
      go_wp2_with fail
      refine (is_bad 3 _ _ (by decide)).mono ?_
      rintro e wq ⟨rfl, hw⟩
      have hw2 := hw.symm
      subst hw2
      clear hw
      go_wp2
      go_ret
      exact ⟨rfl, LB⟩

end Go.Proofs.Ytobdpcmafjhnlaa
