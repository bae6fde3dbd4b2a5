/-
  ModGroup answers true at any modulus and any two numbers, and writes nothing that was there.
-/
import Derived.Test.YtobdpcmafjhnlaaMInv
import Derived.Test.YtobdpcmafjhnlaaMPow
namespace Go.Proofs.Ytobdpcmafjhnlaa
open Go.RowKit Go.IntWalk

theorem gcd_mod (z M : Int) (hz : 0 ≤ z) (hM : 0 < M) : Int.gcd M (z % M) = Int.gcd z M := gcd_step z M hz (by omega)

theorem gcd_prod (x y M : Int) : Int.gcd (x * y) M = 1 ↔ Int.gcd x M = 1 ∧ Int.gcd y M = 1 := by
  unfold Int.gcd
  rw [Int.natAbs_mul]
  exact Nat.coprime_mul_iff_left

theorem gcd_of_inv (u v M : Int) (hu : 0 ≤ u) (hM : 1 < M) (h : (u * v) % M = 1) : Int.gcd M (u % M) = 1 := by
  rw [gcd_mod u M hu (by omega)]
  have d1 : (Int.gcd u M : Int) ∣ u := Int.gcd_dvd_left ..
  have d2 : (Int.gcd u M : Int) ∣ M := Int.gcd_dvd_right ..
  have e := Int.mul_ediv_add_emod (u * v) M
  rw [h] at e
  have d3 : (Int.gcd u M : Int) ∣ u * v := Int.dvd_mul_of_dvd_left d1
  have d4 : (Int.gcd u M : Int) ∣ M * (u * v / M) := Int.dvd_mul_of_dvd_left d2
  have d5 := Int.dvd_sub d3 d4
  rw [show u * v - M * (u * v / M) = 1 by omega] at d5
  have := Int.eq_one_of_dvd_one (by omega) d5
  omega

theorem inv_unique (u v z M : Int) (h : (u * v) % M = 1) (k : (u * z) % M = 1) : z % M = v % M := by
  have e1 : (z * (u * v)) % M = z % M := by rw [← mm2, h, Int.mul_one]
  have e2 : (u * z * v) % M = v % M := by rw [← mm1, k, Int.one_mul]
  rw [← e1, ← e2]
  congr 1
  grind

theorem inv_prod (a b X Y M : Int) (hM : 1 < M) (h : (a * X) % M = 1) (k : (b * Y) % M = 1) : (a * b % M * (X * Y)) % M = 1 := by
  rw [mm1, show a * b * (X * Y) = (a * X) * (b * Y) by grind, Int.mul_emod, h, k]
  exact Int.emod_eq_of_lt (by omega) hM

set_option maxRecDepth 100000 in
theorem exp_lit (mv v1 : Value) (M x : Int) (L : Nat) (i : Int) (w : World) (hm : ModU w mv M) (h1 : NumU w v1 x L) (hL : L ≤ 64) (i0 : 0 ≤ i) (i1 : i < 18446744073709551616) :
    Calls Try.prog 23 #[mv, v1, .slice (some ⟨w.heap.size, 0, none⟩) 1 1] (w.alloc (.cells #[.int .u64 i] 52)) fun e w' => ∃ v, e = .returned (.tuple #[v, .int .i64 0]) ∧ NumT w' v (pm x M i) 8 ∧ Below w.heap.size w w' := by
  have B0 : Below w.heap.size w (w.alloc (.cells #[.int .u64 i] 52)) := (Below.refl _ _).alloc (Nat.le_refl _) _
  have hE : expE [i] = 0 := if_neg (by have := trm_len [i]; simp at this; omega)
  have HX := exp_arg mv v1 M x 0 (some ⟨w.heap.size, 0, none⟩) 1 1 [i] _ (hm.below B0) (Arg.num (h1.below B0) hL) (SrcG.litAt [i] #[.int .u64 i] 1 _ rfl rfl (by intro y hy; simp at hy; omega) (by decide) rfl)
  rw [hE, show max 0 0 = (0 : Int) by decide, show val 18446744073709551616 [i] = i by simp [val]] at HX
  refine HX.mono ?_
  rintro e w1 ⟨v, rfl, A, hB⟩
  rcases A with ⟨_, N⟩ | ⟨h, _⟩
  · exact ⟨v, rfl, N, B0.trans (hB.mono (by simp))⟩
  · exact absurd rfl h

set_option maxRecDepth 100000 in
set_option maxHeartbeats 8000000 in
theorem group_walk (a1 : Option Addr) (n1 c1 : Nat) (xs : List Int) (a2 : Option Addr) (n2 c2 : Nat) (ys : List Int) (a3 : Option Addr) (n3 c3 : Nat) (zs : List Int) (w : World) (h1 : SrcG .u64 18446744073709551616 w a1 n1 c1 xs) (h2 : SrcG .u64 18446744073709551616 w a2 n2 c2 ys) (h3 : SrcG .u64 18446744073709551616 w a3 n3 c3 zs) :
    Calls Try.prog 8 #[.slice a1 n1 c1, .slice a2 n2 c2, .slice a3 n3 c3] w fun e w' => e = .returned (.bool true) ∧ Below w.heap.size w w' := by
  have C1 := hide (odd_any a1 n1 c1 xs w h1 4 4 rfl (by omega) (by omega))
  go_enter Try.func8, Try.ntmps8
  go_wp2_with fail
  refine C1.out.mono ?_
  rintro e w1 ⟨g, m, c', us, rfl, hu, hm, hv, hB1⟩
  have C2 := hide (new_ok _ m c' us w1 hu (by have := trm_len us; have := hu.hlen; omega) (by omega) (by omega))
  have h2 := h2.below hB1
  have h3 := h3.below hB1
  clear hv hu
  generalize val 18446744073709551616 us = M at C2
  go_wp2_with fail
  refine C2.out.mono ?_
  rintro e w2 ⟨mv, rfl, HO, hB2⟩
  have HM := HO.mod
  have h2 := h2.below hB2
  have h3 := h3.below hB2
  have LB := hB1.trans (hB2.mono hB1.size)
  obtain ⟨gm, sm, hmv, _⟩ := HM
  subst hmv
  have HM := HO.mod
  clear HO hB1 hB2 C1 C2 h1
  have hM := HM.gt.1
  have C3 := hide (short7 a2 n2 c2 ys w2 h2 8 8 rfl)
  have C4 := hide (short7 a3 n3 c3 zs w2 h3 8 8 rfl)
  have S2 := short_src h2 8
  have S3 := short_src h3 8
  have q2 : min n2 8 ≤ 8 := by omega
  have q3 : min n3 8 ≤ 8 := by omega
  have Na := src_num S2 8 q2
  have Nb := src_num S3 8 q3
  generalize val 18446744073709551616 (ys.take (min n2 8)) = xA at Na
  generalize val 18446744073709551616 (zs.take (min n3 8)) = xB at Nb
  generalize ys.take (min n2 8) = ys' at S2
  generalize zs.take (min n3 8) = zs' at S3
  generalize min n2 8 = k2 at Na C3 S2 q2
  generalize min n3 8 = k3 at Nb C4 S3 q3
  clear h2 h3
  go_wp2_with fail
  refine C3.out.mono ?_
  rintro e wq ⟨rfl, hw⟩
  have hw2 := hw.symm
  subst hw2
  clear hw
  go_wp2_with fail
  refine C4.out.mono ?_
  rintro e wq ⟨rfl, hw⟩
  have hw2 := hw.symm
  subst hw2
  clear hw
  have i2 : (k2 : Int) ≤ 8 := by omega
  have i3 : (k3 : Int) ≤ 8 := by omega
  clear C3 C4
  by_cases hk : 0 < k2 ∧ 0 < k3
  · obtain ⟨hk2, hk3⟩ := hk
    obtain ⟨b2, o2, ha2, e2⟩ := S2.at 0 hk2
    obtain ⟨b3, o3, ha3, e3⟩ := S3.at 0 hk3
    have d2 := S2.hdg.at (by decide : (0 : Int) < 18446744073709551616) 0
    have d3 := S3.hdg.at (by decide : (0 : Int) < 18446744073709551616) 0
    generalize ys'.getD 0 0 = y0 at e2 d2
    generalize zs'.getD 0 0 = z0 at e3 d3
    rw [Nat.add_zero] at e2 e3
    obtain ⟨i, hi⟩ : ∃ i, y0 / 2 = i := ⟨_, rfl⟩
    obtain ⟨j, hj⟩ : ∃ j, z0 / 2 = j := ⟨_, rfl⟩
    have bi : 0 ≤ i ∧ i ≤ 9223372036854775807 := by omega
    have bj : 0 ≤ j ∧ j ≤ 9223372036854775807 := by omega
    have wij : IntKind.u64.wrap (i + j) = i + j := by rw [IntKind.wrap_u64]; omega
    have j2 : (0 : Int) < (k2 : Int) := by omega
    have j3 : (0 : Int) < (k3 : Int) := by omega
    subst ha2 ha3
    clear S2 S3 d2 d3
    go_wp2_with fail
    go_quiet (fail)
    have hB : Below w2.heap.size w2 (w2.drewN nq) := ((Drew.refl w2).more nq).toBelow _
    have HM := HM.below hB
    have Na := Na.below hB
    have Nb := Nb.below hB
    have LB := LB.trans (hB.mono LB.size)
    clear hB hi hj e2 e3
    go_wp2_with fail
    refine (exp_lit _ _ M xA 8 i _ HM Na (by omega) (by omega) (by omega)).mono ?_
    rintro e w3 ⟨vp, rfl, Np, hB⟩
    have HM := HM.below hB
    have Na := Na.below hB
    have Nb := Nb.below hB
    have LB := LB.trans (hB.mono LB.size)
    clear hB
    go_wp2_with fail
    refine (exp_lit _ _ M xA 8 j _ HM Na (by omega) (by omega) (by omega)).mono ?_
    rintro e w4 ⟨vq, rfl, Nq, hB⟩
    have HM := HM.below hB
    have Na := Na.below hB
    have Nb := Nb.below hB
    have LB := LB.trans (hB.mono LB.size)
    have Np := Np.below hB
    clear hB
    go_wp2_with fail
    refine (exp_lit _ _ M xA 8 (i + j) _ HM Na (by omega) (by omega) (by omega)).mono ?_
    rintro e w5 ⟨vr, rfl, Nr, hB⟩
    have HM := HM.below hB
    have Na := Na.below hB
    have Nb := Nb.below hB
    have LB := LB.trans (hB.mono LB.size)
    have Np := Np.below hB
    have Nq := Nq.below hB
    clear hB
    go_wp2_with fail
    refine (mul_7 _ _ _ _ _ _ _ _ _ HM Np.num Nq.num (by omega) (by omega)).mono ?_
    rintro e w6 ⟨vs, rfl, Ns, hB⟩
    have HM := HM.below hB
    have Na := Na.below hB
    have Nb := Nb.below hB
    have LB := LB.trans (hB.mono LB.size)
    have Nr := Nr.below hB
    clear hB Np Nq
    go_wp2_with fail
    refine (sameT _ _ _ _ _ _ _ Nr Ns (pm_add xA M i j bi.1 bj.1)).mono ?_
    rintro e w7 ⟨rfl, hD⟩
    have hB := hD.toBelow w6.heap.size
    have HM := HM.below hB
    have Na := Na.below hB
    have Nb := Nb.below hB
    have LB := LB.trans (hB.mono LB.size)
    clear hB hD Nr Ns
    have xa0 := Na.nonneg.1
    have xb0 := Nb.nonneg.1
    have HPR := hide (gcd_prod xA xB M)
    have hgA := hide (gcd_mod xA M xa0 (by omega))
    have hgB := hide (gcd_mod xB M xb0 (by omega))
    have hgC : Hid (Int.gcd M ((xA * xB) % M % M) = Int.gcd (xA * xB) M) := by unfold Hid; rw [Int.emod_emod]; exact gcd_mod _ M (Int.mul_nonneg xa0 xb0) (by omega)
    by_cases gA : Int.gcd xA M = 1
    · have HIA := hide (inverse_ok _ _ M xA _ HM (Arg.num Na (by omega)) (hgA.out.trans gA))
      go_wp2_with fail
      refine HIA.out.mono ?_
      rintro e w8 ⟨vX, iX, rfl, NX, hlX, hiX, hB⟩
      have HiX := hide hiX
      clear hiX HIA
      have HM := HM.below hB
      have Na := Na.below hB
      have Nb := Nb.below hB
      have LB := LB.trans (hB.mono LB.size)
      by_cases gB : Int.gcd xB M = 1
      · have HIB := hide (inverse_ok _ _ M xB _ HM (Arg.num Nb (by omega)) (hgB.out.trans gB))
        go_wp2_with fail
        refine HIB.out.mono ?_
        rintro e w8 ⟨vY, iY, rfl, NY, hlY, hiY, hB⟩
        have HiY := hide hiY
        clear hiY HIB
        have HM := HM.below hB
        have Na := Na.below hB
        have Nb := Nb.below hB
        have LB := LB.trans (hB.mono LB.size)
        have NX := NX.below hB
        clear hB
        go_wp2_with fail
        refine (mul_7 _ _ _ _ _ _ _ _ _ HM Na Nb (by omega) (by omega)).mono ?_
        rintro e w9 ⟨vc, rfl, Nc, hB⟩
        have HM := HM.below hB
        have Na := Na.below hB
        have Nb := Nb.below hB
        have LB := LB.trans (hB.mono LB.size)
        have NX := NX.below hB
        have NY := NY.below hB
        clear hB
        have HIC := hide (inverse_ok _ _ M ((xA * xB) % M) _ HM (Arg.num Nc.num (by omega)) (hgC.out.trans (HPR.out.2 ⟨gA, gB⟩)))
        go_wp2_with fail
        refine HIC.out.mono ?_
        rintro e w8 ⟨vZ, iZ, rfl, NZ, hlZ, hiZ, hB⟩
        have HiZ := hide hiZ
        clear hiZ HIC
        have HM := HM.below hB
        have Na := Na.below hB
        have Nb := Nb.below hB
        have LB := LB.trans (hB.mono LB.size)
        have NX := NX.below hB
        have NY := NY.below hB
        clear hB Nc
        go_wp2_with fail
        refine (mul_7 _ _ _ _ _ _ _ _ _ HM Na NX.num (by omega) (by omega)).mono ?_
        rintro e w10 ⟨vo, rfl, No, hB⟩
        rw [HiX.out] at No
        have HM := HM.below hB
        have Na := Na.below hB
        have Nb := Nb.below hB
        have LB := LB.trans (hB.mono LB.size)
        have NX := NX.below hB
        have NY := NY.below hB
        have NZ := NZ.below hB
        clear hB
        have hX0 := NX.nonneg.1
        have HIX := hide (inverse_ok _ _ M iX _ HM (Arg.num NX.num (by omega)) (gcd_of_inv iX xA M hX0 hM (by rw [Int.mul_comm]; exact HiX.out)))
        go_wp2_with fail
        refine HIX.out.mono ?_
        rintro e w11 ⟨vbk, iB, rfl, NB, hlB, hiB, hB⟩
        have HiB := hide hiB
        clear hiB HIX
        have HM := HM.below hB
        have Na := Na.below hB
        have Nb := Nb.below hB
        have LB := LB.trans (hB.mono LB.size)
        have NX := NX.below hB
        have No := No.below hB
        have NY := NY.below hB; have NZ := NZ.below hB
        clear hB
        go_wp2_with fail
        refine (reduce_7 _ _ _ _ _ _ HM Na (by omega)).mono ?_
        rintro e w12 ⟨vow, rfl, Nw2, hB⟩
        have HM := HM.below hB
        have Na := Na.below hB
        have Nb := Nb.below hB
        have LB := LB.trans (hB.mono LB.size)
        have NX := NX.below hB
        have No := No.below hB
        have NB := NB.below hB
        have NY := NY.below hB; have NZ := NZ.below hB
        clear hB
        have BO : Below w12.heap.size w12 (w12.alloc (.cells #[.int .u64 1] 52)) := (Below.refl _ _).alloc (Nat.le_refl _) _
        go_wp2_with fail
        refine (sameT _ _ 1 1 8 1 _ (No.below BO) (NumT.lit 1 _ _ rfl (by decide) (by decide) rfl 1 (by omega)) rfl).mono ?_
        rintro e w13 ⟨rfl, hD⟩
        have hB := BO.trans (hD.toBelow _)
        have HM := HM.below hB
        have Na := Na.below hB
        have Nb := Nb.below hB
        have LB := LB.trans (hB.mono LB.size)
        have NX := NX.below hB
        have NB := NB.below hB
        have Nw2 := Nw2.below hB
        have NY := NY.below hB; have NZ := NZ.below hB
        clear hB hD BO No
        have hB0 := NB.nonneg.1
        have HBK : Hid (iB = xA % M) := by
          unfold Hid
          have := inv_unique iX xA iB M (by rw [Int.mul_comm]; exact HiX.out) HiB.out
          rw [← this]
          exact (Int.emod_eq_of_lt hB0 hlB).symm
        go_wp2_with fail
        refine (sameT _ _ _ _ _ _ _ NB Nw2 HBK.out).mono ?_
        rintro e w14 ⟨rfl, hD⟩
        have hB := hD.toBelow w13.heap.size
        have HM := HM.below hB
        have Na := Na.below hB
        have Nb := Nb.below hB
        have LB := LB.trans (hB.mono LB.size)
        have NX := NX.below hB
        have NY := NY.below hB; have NZ := NZ.below hB
        clear hB hD NB Nw2 HBK
        go_wp2_with fail
        refine (mul_7 _ _ _ _ _ _ _ _ _ HM NX.num NY.num (by omega) (by omega)).mono ?_
        rintro e w20 ⟨vw, rfl, Nw, hB⟩
        have HM := HM.below hB
        have Na := Na.below hB
        have Nb := Nb.below hB
        have LB := LB.trans (hB.mono LB.size)
        have NZ := NZ.below hB
        clear hB
        have hZ0 := NZ.nonneg.1
        have HZ : Hid ((iX * iY) % M = iZ) := by
          unfold Hid
          have := inv_unique ((xA * xB) % M) (iX * iY) iZ M (inv_prod xA xB iX iY M hM HiX.out HiY.out) HiZ.out
          rw [← this]
          exact Int.emod_eq_of_lt hZ0 hlZ
        go_wp2_with fail
        refine (sameT _ _ _ _ _ _ _ Nw NZ HZ.out).mono ?_
        rintro e w21 ⟨rfl, hD⟩
        have LB := hD.below LB
        go_wp2
        go_ret
        exact ⟨rfl, LB⟩
      · have HIB := hide (inverse_no _ _ M xB _ HM (Arg.num Nb (by omega)) (by rw [hgB.out]; exact gB))
        go_wp2_with fail
        refine HIB.out.mono ?_
        rintro e w8 ⟨rfl, hB⟩
        clear HIB
        have HM := HM.below hB
        have Na := Na.below hB
        have Nb := Nb.below hB
        have LB := LB.trans (hB.mono LB.size)
        have NX := NX.below hB
        clear hB
        go_wp2_with fail
        refine (mul_7 _ _ _ _ _ _ _ _ _ HM Na Nb (by omega) (by omega)).mono ?_
        rintro e w9 ⟨vc, rfl, Nc, hB⟩
        have HM := HM.below hB
        have Na := Na.below hB
        have Nb := Nb.below hB
        have LB := LB.trans (hB.mono LB.size)
        have NX := NX.below hB
        clear hB
        have HIC := hide (inverse_no _ _ M ((xA * xB) % M) _ HM (Arg.num Nc.num (by omega)) (by rw [hgC.out]; exact (fun h => gB (HPR.out.1 h).2)))
        go_wp2_with fail
        refine HIC.out.mono ?_
        rintro e w8 ⟨rfl, hB⟩
        clear HIC
        have HM := HM.below hB
        have Na := Na.below hB
        have Nb := Nb.below hB
        have LB := LB.trans (hB.mono LB.size)
        have NX := NX.below hB
        clear hB Nc
        go_wp2_with fail
        refine (mul_7 _ _ _ _ _ _ _ _ _ HM Na NX.num (by omega) (by omega)).mono ?_
        rintro e w10 ⟨vo, rfl, No, hB⟩
        rw [HiX.out] at No
        have HM := HM.below hB
        have Na := Na.below hB
        have Nb := Nb.below hB
        have LB := LB.trans (hB.mono LB.size)
        have NX := NX.below hB
        clear hB
        have hX0 := NX.nonneg.1
        have HIX := hide (inverse_ok _ _ M iX _ HM (Arg.num NX.num (by omega)) (gcd_of_inv iX xA M hX0 hM (by rw [Int.mul_comm]; exact HiX.out)))
        go_wp2_with fail
        refine HIX.out.mono ?_
        rintro e w11 ⟨vbk, iB, rfl, NB, hlB, hiB, hB⟩
        have HiB := hide hiB
        clear hiB HIX
        have HM := HM.below hB
        have Na := Na.below hB
        have Nb := Nb.below hB
        have LB := LB.trans (hB.mono LB.size)
        have NX := NX.below hB
        have No := No.below hB
        skip
        clear hB
        go_wp2_with fail
        refine (reduce_7 _ _ _ _ _ _ HM Na (by omega)).mono ?_
        rintro e w12 ⟨vow, rfl, Nw2, hB⟩
        have HM := HM.below hB
        have Na := Na.below hB
        have Nb := Nb.below hB
        have LB := LB.trans (hB.mono LB.size)
        have NX := NX.below hB
        have No := No.below hB
        have NB := NB.below hB
        skip
        clear hB
        have BO : Below w12.heap.size w12 (w12.alloc (.cells #[.int .u64 1] 52)) := (Below.refl _ _).alloc (Nat.le_refl _) _
        go_wp2_with fail
        refine (sameT _ _ 1 1 8 1 _ (No.below BO) (NumT.lit 1 _ _ rfl (by decide) (by decide) rfl 1 (by omega)) rfl).mono ?_
        rintro e w13 ⟨rfl, hD⟩
        have hB := BO.trans (hD.toBelow _)
        have HM := HM.below hB
        have Na := Na.below hB
        have Nb := Nb.below hB
        have LB := LB.trans (hB.mono LB.size)
        have NX := NX.below hB
        have NB := NB.below hB
        have Nw2 := Nw2.below hB
        skip
        clear hB hD BO No
        have hB0 := NB.nonneg.1
        have HBK : Hid (iB = xA % M) := by
          unfold Hid
          have := inv_unique iX xA iB M (by rw [Int.mul_comm]; exact HiX.out) HiB.out
          rw [← this]
          exact (Int.emod_eq_of_lt hB0 hlB).symm
        go_wp2_with fail
        refine (sameT _ _ _ _ _ _ _ NB Nw2 HBK.out).mono ?_
        rintro e w14 ⟨rfl, hD⟩
        have hB := hD.toBelow w13.heap.size
        have HM := HM.below hB
        have Na := Na.below hB
        have Nb := Nb.below hB
        have LB := LB.trans (hB.mono LB.size)
        have NX := NX.below hB
        skip
        clear hB hD NB Nw2 HBK
        go_wp2
        go_ret
        exact ⟨rfl, LB⟩
    · have HIA := hide (inverse_no _ _ M xA _ HM (Arg.num Na (by omega)) (by rw [hgA.out]; exact gA))
      go_wp2_with fail
      refine HIA.out.mono ?_
      rintro e w8 ⟨rfl, hB⟩
      clear HIA
      have HM := HM.below hB
      have Na := Na.below hB
      have Nb := Nb.below hB
      have LB := LB.trans (hB.mono LB.size)
      clear hB
      by_cases gB : Int.gcd xB M = 1
      · have HIB := hide (inverse_ok _ _ M xB _ HM (Arg.num Nb (by omega)) (hgB.out.trans gB))
        go_wp2_with fail
        refine HIB.out.mono ?_
        rintro e w8 ⟨vY, iY, rfl, NY, hlY, hiY, hB⟩
        have HiY := hide hiY
        clear hiY HIB
        have HM := HM.below hB
        have Na := Na.below hB
        have Nb := Nb.below hB
        have LB := LB.trans (hB.mono LB.size)
        clear hB
        go_wp2_with fail
        refine (mul_7 _ _ _ _ _ _ _ _ _ HM Na Nb (by omega) (by omega)).mono ?_
        rintro e w9 ⟨vc, rfl, Nc, hB⟩
        have HM := HM.below hB
        have Na := Na.below hB
        have Nb := Nb.below hB
        have LB := LB.trans (hB.mono LB.size)
        clear hB
        have HIC := hide (inverse_no _ _ M ((xA * xB) % M) _ HM (Arg.num Nc.num (by omega)) (by rw [hgC.out]; exact (fun h => gA (HPR.out.1 h).1)))
        go_wp2_with fail
        refine HIC.out.mono ?_
        rintro e w8 ⟨rfl, hB⟩
        clear HIC
        have HM := HM.below hB
        have Na := Na.below hB
        have Nb := Nb.below hB
        have LB := LB.trans (hB.mono LB.size)
        go_wp2
        go_ret
        exact ⟨rfl, LB⟩
      · have HIB := hide (inverse_no _ _ M xB _ HM (Arg.num Nb (by omega)) (by rw [hgB.out]; exact gB))
        go_wp2_with fail
        refine HIB.out.mono ?_
        rintro e w8 ⟨rfl, hB⟩
        clear HIB
        have HM := HM.below hB
        have Na := Na.below hB
        have Nb := Nb.below hB
        have LB := LB.trans (hB.mono LB.size)
        clear hB
        go_wp2_with fail
        refine (mul_7 _ _ _ _ _ _ _ _ _ HM Na Nb (by omega) (by omega)).mono ?_
        rintro e w9 ⟨vc, rfl, Nc, hB⟩
        have HM := HM.below hB
        have Na := Na.below hB
        have Nb := Nb.below hB
        have LB := LB.trans (hB.mono LB.size)
        clear hB
        have HIC := hide (inverse_no _ _ M ((xA * xB) % M) _ HM (Arg.num Nc.num (by omega)) (by rw [hgC.out]; exact (fun h => gA (HPR.out.1 h).1)))
        go_wp2_with fail
        refine HIC.out.mono ?_
        rintro e w8 ⟨rfl, hB⟩
        clear HIC
        have HM := HM.below hB
        have Na := Na.below hB
        have Nb := Nb.below hB
        have LB := LB.trans (hB.mono LB.size)
        go_wp2
        go_ret
        exact ⟨rfl, LB⟩
  · clear S2 S3
    rcases Nat.eq_zero_or_pos k2 with h0 | h0
    · subst h0
      go_wp2_with fail
      refine (exp_lit _ _ M xA 8 0 _ HM Na (by omega) (by omega) (by omega)).mono ?_
      rintro e w3 ⟨vp, rfl, Np, hB⟩
      have HM := HM.below hB
      have Na := Na.below hB
      have Nb := Nb.below hB
      have LB := LB.trans (hB.mono LB.size)
      clear hB
      go_wp2_with fail
      refine (exp_lit _ _ M xA 8 0 _ HM Na (by omega) (by omega) (by omega)).mono ?_
      rintro e w4 ⟨vq, rfl, Nq, hB⟩
      have HM := HM.below hB
      have Na := Na.below hB
      have Nb := Nb.below hB
      have LB := LB.trans (hB.mono LB.size)
      have Np := Np.below hB
      clear hB
      go_wp2_with fail
      refine (exp_lit _ _ M xA 8 0 _ HM Na (by omega) (by omega) (by omega)).mono ?_
      rintro e w5 ⟨vr, rfl, Nr, hB⟩
      have HM := HM.below hB
      have Na := Na.below hB
      have Nb := Nb.below hB
      have LB := LB.trans (hB.mono LB.size)
      have Np := Np.below hB
      have Nq := Nq.below hB
      clear hB
      go_wp2_with fail
      refine (mul_7 _ _ _ _ _ _ _ _ _ HM Np.num Nq.num (by omega) (by omega)).mono ?_
      rintro e w6 ⟨vs, rfl, Ns, hB⟩
      have HM := HM.below hB
      have Na := Na.below hB
      have Nb := Nb.below hB
      have LB := LB.trans (hB.mono LB.size)
      have Nr := Nr.below hB
      clear hB Np Nq
      go_wp2_with fail
      refine (sameT _ _ _ _ _ _ _ Nr Ns (pm_add xA M 0 0 (by omega) (by omega))).mono ?_
      rintro e w7 ⟨rfl, hD⟩
      have hB := hD.toBelow w6.heap.size
      have HM := HM.below hB
      have Na := Na.below hB
      have Nb := Nb.below hB
      have LB := LB.trans (hB.mono LB.size)
      clear hB hD Nr Ns
      have xa0 := Na.nonneg.1
      have xb0 := Nb.nonneg.1
      have HPR := hide (gcd_prod xA xB M)
      have hgA := hide (gcd_mod xA M xa0 (by omega))
      have hgB := hide (gcd_mod xB M xb0 (by omega))
      have hgC : Hid (Int.gcd M ((xA * xB) % M % M) = Int.gcd (xA * xB) M) := by unfold Hid; rw [Int.emod_emod]; exact gcd_mod _ M (Int.mul_nonneg xa0 xb0) (by omega)
      by_cases gA : Int.gcd xA M = 1
      · have HIA := hide (inverse_ok _ _ M xA _ HM (Arg.num Na (by omega)) (hgA.out.trans gA))
        go_wp2_with fail
        refine HIA.out.mono ?_
        rintro e w8 ⟨vX, iX, rfl, NX, hlX, hiX, hB⟩
        have HiX := hide hiX
        clear hiX HIA
        have HM := HM.below hB
        have Na := Na.below hB
        have Nb := Nb.below hB
        have LB := LB.trans (hB.mono LB.size)
        by_cases gB : Int.gcd xB M = 1
        · have HIB := hide (inverse_ok _ _ M xB _ HM (Arg.num Nb (by omega)) (hgB.out.trans gB))
          go_wp2_with fail
          refine HIB.out.mono ?_
          rintro e w8 ⟨vY, iY, rfl, NY, hlY, hiY, hB⟩
          have HiY := hide hiY
          clear hiY HIB
          have HM := HM.below hB
          have Na := Na.below hB
          have Nb := Nb.below hB
          have LB := LB.trans (hB.mono LB.size)
          have NX := NX.below hB
          clear hB
          go_wp2_with fail
          refine (mul_7 _ _ _ _ _ _ _ _ _ HM Na Nb (by omega) (by omega)).mono ?_
          rintro e w9 ⟨vc, rfl, Nc, hB⟩
          have HM := HM.below hB
          have Na := Na.below hB
          have Nb := Nb.below hB
          have LB := LB.trans (hB.mono LB.size)
          have NX := NX.below hB
          have NY := NY.below hB
          clear hB
          have HIC := hide (inverse_ok _ _ M ((xA * xB) % M) _ HM (Arg.num Nc.num (by omega)) (hgC.out.trans (HPR.out.2 ⟨gA, gB⟩)))
          go_wp2_with fail
          refine HIC.out.mono ?_
          rintro e w8 ⟨vZ, iZ, rfl, NZ, hlZ, hiZ, hB⟩
          have HiZ := hide hiZ
          clear hiZ HIC
          have HM := HM.below hB
          have Na := Na.below hB
          have Nb := Nb.below hB
          have LB := LB.trans (hB.mono LB.size)
          have NX := NX.below hB
          have NY := NY.below hB
          clear hB Nc
          go_wp2_with fail
          refine (mul_7 _ _ _ _ _ _ _ _ _ HM Na NX.num (by omega) (by omega)).mono ?_
          rintro e w10 ⟨vo, rfl, No, hB⟩
          rw [HiX.out] at No
          have HM := HM.below hB
          have Na := Na.below hB
          have Nb := Nb.below hB
          have LB := LB.trans (hB.mono LB.size)
          have NX := NX.below hB
          have NY := NY.below hB
          have NZ := NZ.below hB
          clear hB
          have hX0 := NX.nonneg.1
          have HIX := hide (inverse_ok _ _ M iX _ HM (Arg.num NX.num (by omega)) (gcd_of_inv iX xA M hX0 hM (by rw [Int.mul_comm]; exact HiX.out)))
          go_wp2_with fail
          refine HIX.out.mono ?_
          rintro e w11 ⟨vbk, iB, rfl, NB, hlB, hiB, hB⟩
          have HiB := hide hiB
          clear hiB HIX
          have HM := HM.below hB
          have Na := Na.below hB
          have Nb := Nb.below hB
          have LB := LB.trans (hB.mono LB.size)
          have NX := NX.below hB
          have No := No.below hB
          have NY := NY.below hB; have NZ := NZ.below hB
          clear hB
          go_wp2_with fail
          refine (reduce_7 _ _ _ _ _ _ HM Na (by omega)).mono ?_
          rintro e w12 ⟨vow, rfl, Nw2, hB⟩
          have HM := HM.below hB
          have Na := Na.below hB
          have Nb := Nb.below hB
          have LB := LB.trans (hB.mono LB.size)
          have NX := NX.below hB
          have No := No.below hB
          have NB := NB.below hB
          have NY := NY.below hB; have NZ := NZ.below hB
          clear hB
          have BO : Below w12.heap.size w12 (w12.alloc (.cells #[.int .u64 1] 52)) := (Below.refl _ _).alloc (Nat.le_refl _) _
          go_wp2_with fail
          refine (sameT _ _ 1 1 8 1 _ (No.below BO) (NumT.lit 1 _ _ rfl (by decide) (by decide) rfl 1 (by omega)) rfl).mono ?_
          rintro e w13 ⟨rfl, hD⟩
          have hB := BO.trans (hD.toBelow _)
          have HM := HM.below hB
          have Na := Na.below hB
          have Nb := Nb.below hB
          have LB := LB.trans (hB.mono LB.size)
          have NX := NX.below hB
          have NB := NB.below hB
          have Nw2 := Nw2.below hB
          have NY := NY.below hB; have NZ := NZ.below hB
          clear hB hD BO No
          have hB0 := NB.nonneg.1
          have HBK : Hid (iB = xA % M) := by
            unfold Hid
            have := inv_unique iX xA iB M (by rw [Int.mul_comm]; exact HiX.out) HiB.out
            rw [← this]
            exact (Int.emod_eq_of_lt hB0 hlB).symm
          go_wp2_with fail
          refine (sameT _ _ _ _ _ _ _ NB Nw2 HBK.out).mono ?_
          rintro e w14 ⟨rfl, hD⟩
          have hB := hD.toBelow w13.heap.size
          have HM := HM.below hB
          have Na := Na.below hB
          have Nb := Nb.below hB
          have LB := LB.trans (hB.mono LB.size)
          have NX := NX.below hB
          have NY := NY.below hB; have NZ := NZ.below hB
          clear hB hD NB Nw2 HBK
          go_wp2_with fail
          refine (mul_7 _ _ _ _ _ _ _ _ _ HM NX.num NY.num (by omega) (by omega)).mono ?_
          rintro e w20 ⟨vw, rfl, Nw, hB⟩
          have HM := HM.below hB
          have Na := Na.below hB
          have Nb := Nb.below hB
          have LB := LB.trans (hB.mono LB.size)
          have NZ := NZ.below hB
          clear hB
          have hZ0 := NZ.nonneg.1
          have HZ : Hid ((iX * iY) % M = iZ) := by
            unfold Hid
            have := inv_unique ((xA * xB) % M) (iX * iY) iZ M (inv_prod xA xB iX iY M hM HiX.out HiY.out) HiZ.out
            rw [← this]
            exact Int.emod_eq_of_lt hZ0 hlZ
          go_wp2_with fail
          refine (sameT _ _ _ _ _ _ _ Nw NZ HZ.out).mono ?_
          rintro e w21 ⟨rfl, hD⟩
          have LB := hD.below LB
          go_wp2
          go_ret
          exact ⟨rfl, LB⟩
        · have HIB := hide (inverse_no _ _ M xB _ HM (Arg.num Nb (by omega)) (by rw [hgB.out]; exact gB))
          go_wp2_with fail
          refine HIB.out.mono ?_
          rintro e w8 ⟨rfl, hB⟩
          clear HIB
          have HM := HM.below hB
          have Na := Na.below hB
          have Nb := Nb.below hB
          have LB := LB.trans (hB.mono LB.size)
          have NX := NX.below hB
          clear hB
          go_wp2_with fail
          refine (mul_7 _ _ _ _ _ _ _ _ _ HM Na Nb (by omega) (by omega)).mono ?_
          rintro e w9 ⟨vc, rfl, Nc, hB⟩
          have HM := HM.below hB
          have Na := Na.below hB
          have Nb := Nb.below hB
          have LB := LB.trans (hB.mono LB.size)
          have NX := NX.below hB
          clear hB
          have HIC := hide (inverse_no _ _ M ((xA * xB) % M) _ HM (Arg.num Nc.num (by omega)) (by rw [hgC.out]; exact (fun h => gB (HPR.out.1 h).2)))
          go_wp2_with fail
          refine HIC.out.mono ?_
          rintro e w8 ⟨rfl, hB⟩
          clear HIC
          have HM := HM.below hB
          have Na := Na.below hB
          have Nb := Nb.below hB
          have LB := LB.trans (hB.mono LB.size)
          have NX := NX.below hB
          clear hB Nc
          go_wp2_with fail
          refine (mul_7 _ _ _ _ _ _ _ _ _ HM Na NX.num (by omega) (by omega)).mono ?_
          rintro e w10 ⟨vo, rfl, No, hB⟩
          rw [HiX.out] at No
          have HM := HM.below hB
          have Na := Na.below hB
          have Nb := Nb.below hB
          have LB := LB.trans (hB.mono LB.size)
          have NX := NX.below hB
          clear hB
          have hX0 := NX.nonneg.1
          have HIX := hide (inverse_ok _ _ M iX _ HM (Arg.num NX.num (by omega)) (gcd_of_inv iX xA M hX0 hM (by rw [Int.mul_comm]; exact HiX.out)))
          go_wp2_with fail
          refine HIX.out.mono ?_
          rintro e w11 ⟨vbk, iB, rfl, NB, hlB, hiB, hB⟩
          have HiB := hide hiB
          clear hiB HIX
          have HM := HM.below hB
          have Na := Na.below hB
          have Nb := Nb.below hB
          have LB := LB.trans (hB.mono LB.size)
          have NX := NX.below hB
          have No := No.below hB
          skip
          clear hB
          go_wp2_with fail
          refine (reduce_7 _ _ _ _ _ _ HM Na (by omega)).mono ?_
          rintro e w12 ⟨vow, rfl, Nw2, hB⟩
          have HM := HM.below hB
          have Na := Na.below hB
          have Nb := Nb.below hB
          have LB := LB.trans (hB.mono LB.size)
          have NX := NX.below hB
          have No := No.below hB
          have NB := NB.below hB
          skip
          clear hB
          have BO : Below w12.heap.size w12 (w12.alloc (.cells #[.int .u64 1] 52)) := (Below.refl _ _).alloc (Nat.le_refl _) _
          go_wp2_with fail
          refine (sameT _ _ 1 1 8 1 _ (No.below BO) (NumT.lit 1 _ _ rfl (by decide) (by decide) rfl 1 (by omega)) rfl).mono ?_
          rintro e w13 ⟨rfl, hD⟩
          have hB := BO.trans (hD.toBelow _)
          have HM := HM.below hB
          have Na := Na.below hB
          have Nb := Nb.below hB
          have LB := LB.trans (hB.mono LB.size)
          have NX := NX.below hB
          have NB := NB.below hB
          have Nw2 := Nw2.below hB
          skip
          clear hB hD BO No
          have hB0 := NB.nonneg.1
          have HBK : Hid (iB = xA % M) := by
            unfold Hid
            have := inv_unique iX xA iB M (by rw [Int.mul_comm]; exact HiX.out) HiB.out
            rw [← this]
            exact (Int.emod_eq_of_lt hB0 hlB).symm
          go_wp2_with fail
          refine (sameT _ _ _ _ _ _ _ NB Nw2 HBK.out).mono ?_
          rintro e w14 ⟨rfl, hD⟩
          have hB := hD.toBelow w13.heap.size
          have HM := HM.below hB
          have Na := Na.below hB
          have Nb := Nb.below hB
          have LB := LB.trans (hB.mono LB.size)
          have NX := NX.below hB
          skip
          clear hB hD NB Nw2 HBK
          go_wp2
          go_ret
          exact ⟨rfl, LB⟩
      · have HIA := hide (inverse_no _ _ M xA _ HM (Arg.num Na (by omega)) (by rw [hgA.out]; exact gA))
        go_wp2_with fail
        refine HIA.out.mono ?_
        rintro e w8 ⟨rfl, hB⟩
        clear HIA
        have HM := HM.below hB
        have Na := Na.below hB
        have Nb := Nb.below hB
        have LB := LB.trans (hB.mono LB.size)
        clear hB
        by_cases gB : Int.gcd xB M = 1
        · have HIB := hide (inverse_ok _ _ M xB _ HM (Arg.num Nb (by omega)) (hgB.out.trans gB))
          go_wp2_with fail
          refine HIB.out.mono ?_
          rintro e w8 ⟨vY, iY, rfl, NY, hlY, hiY, hB⟩
          have HiY := hide hiY
          clear hiY HIB
          have HM := HM.below hB
          have Na := Na.below hB
          have Nb := Nb.below hB
          have LB := LB.trans (hB.mono LB.size)
          clear hB
          go_wp2_with fail
          refine (mul_7 _ _ _ _ _ _ _ _ _ HM Na Nb (by omega) (by omega)).mono ?_
          rintro e w9 ⟨vc, rfl, Nc, hB⟩
          have HM := HM.below hB
          have Na := Na.below hB
          have Nb := Nb.below hB
          have LB := LB.trans (hB.mono LB.size)
          clear hB
          have HIC := hide (inverse_no _ _ M ((xA * xB) % M) _ HM (Arg.num Nc.num (by omega)) (by rw [hgC.out]; exact (fun h => gA (HPR.out.1 h).1)))
          go_wp2_with fail
          refine HIC.out.mono ?_
          rintro e w8 ⟨rfl, hB⟩
          clear HIC
          have HM := HM.below hB
          have Na := Na.below hB
          have Nb := Nb.below hB
          have LB := LB.trans (hB.mono LB.size)
          go_wp2
          go_ret
          exact ⟨rfl, LB⟩
        · have HIB := hide (inverse_no _ _ M xB _ HM (Arg.num Nb (by omega)) (by rw [hgB.out]; exact gB))
          go_wp2_with fail
          refine HIB.out.mono ?_
          rintro e w8 ⟨rfl, hB⟩
          clear HIB
          have HM := HM.below hB
          have Na := Na.below hB
          have Nb := Nb.below hB
          have LB := LB.trans (hB.mono LB.size)
          clear hB
          go_wp2_with fail
          refine (mul_7 _ _ _ _ _ _ _ _ _ HM Na Nb (by omega) (by omega)).mono ?_
          rintro e w9 ⟨vc, rfl, Nc, hB⟩
          have HM := HM.below hB
          have Na := Na.below hB
          have Nb := Nb.below hB
          have LB := LB.trans (hB.mono LB.size)
          clear hB
          have HIC := hide (inverse_no _ _ M ((xA * xB) % M) _ HM (Arg.num Nc.num (by omega)) (by rw [hgC.out]; exact (fun h => gA (HPR.out.1 h).1)))
          go_wp2_with fail
          refine HIC.out.mono ?_
          rintro e w8 ⟨rfl, hB⟩
          clear HIC
          have HM := HM.below hB
          have Na := Na.below hB
          have Nb := Nb.below hB
          have LB := LB.trans (hB.mono LB.size)
          go_wp2
          go_ret
          exact ⟨rfl, LB⟩
    · obtain rfl : k3 = 0 := by omega
      have j2 : (0 : Int) < (k2 : Int) := by omega
      go_wp2_with fail
      refine (exp_lit _ _ M xA 8 0 _ HM Na (by omega) (by omega) (by omega)).mono ?_
      rintro e w3 ⟨vp, rfl, Np, hB⟩
      have HM := HM.below hB
      have Na := Na.below hB
      have Nb := Nb.below hB
      have LB := LB.trans (hB.mono LB.size)
      clear hB
      go_wp2_with fail
      refine (exp_lit _ _ M xA 8 0 _ HM Na (by omega) (by omega) (by omega)).mono ?_
      rintro e w4 ⟨vq, rfl, Nq, hB⟩
      have HM := HM.below hB
      have Na := Na.below hB
      have Nb := Nb.below hB
      have LB := LB.trans (hB.mono LB.size)
      have Np := Np.below hB
      clear hB
      go_wp2_with fail
      refine (exp_lit _ _ M xA 8 0 _ HM Na (by omega) (by omega) (by omega)).mono ?_
      rintro e w5 ⟨vr, rfl, Nr, hB⟩
      have HM := HM.below hB
      have Na := Na.below hB
      have Nb := Nb.below hB
      have LB := LB.trans (hB.mono LB.size)
      have Np := Np.below hB
      have Nq := Nq.below hB
      clear hB
      go_wp2_with fail
      refine (mul_7 _ _ _ _ _ _ _ _ _ HM Np.num Nq.num (by omega) (by omega)).mono ?_
      rintro e w6 ⟨vs, rfl, Ns, hB⟩
      have HM := HM.below hB
      have Na := Na.below hB
      have Nb := Nb.below hB
      have LB := LB.trans (hB.mono LB.size)
      have Nr := Nr.below hB
      clear hB Np Nq
      go_wp2_with fail
      refine (sameT _ _ _ _ _ _ _ Nr Ns (pm_add xA M 0 0 (by omega) (by omega))).mono ?_
      rintro e w7 ⟨rfl, hD⟩
      have hB := hD.toBelow w6.heap.size
      have HM := HM.below hB
      have Na := Na.below hB
      have Nb := Nb.below hB
      have LB := LB.trans (hB.mono LB.size)
      clear hB hD Nr Ns
      have xa0 := Na.nonneg.1
      have xb0 := Nb.nonneg.1
      have HPR := hide (gcd_prod xA xB M)
      have hgA := hide (gcd_mod xA M xa0 (by omega))
      have hgB := hide (gcd_mod xB M xb0 (by omega))
      have hgC : Hid (Int.gcd M ((xA * xB) % M % M) = Int.gcd (xA * xB) M) := by unfold Hid; rw [Int.emod_emod]; exact gcd_mod _ M (Int.mul_nonneg xa0 xb0) (by omega)
      by_cases gA : Int.gcd xA M = 1
      · have HIA := hide (inverse_ok _ _ M xA _ HM (Arg.num Na (by omega)) (hgA.out.trans gA))
        go_wp2_with fail
        refine HIA.out.mono ?_
        rintro e w8 ⟨vX, iX, rfl, NX, hlX, hiX, hB⟩
        have HiX := hide hiX
        clear hiX HIA
        have HM := HM.below hB
        have Na := Na.below hB
        have Nb := Nb.below hB
        have LB := LB.trans (hB.mono LB.size)
        by_cases gB : Int.gcd xB M = 1
        · have HIB := hide (inverse_ok _ _ M xB _ HM (Arg.num Nb (by omega)) (hgB.out.trans gB))
          go_wp2_with fail
          refine HIB.out.mono ?_
          rintro e w8 ⟨vY, iY, rfl, NY, hlY, hiY, hB⟩
          have HiY := hide hiY
          clear hiY HIB
          have HM := HM.below hB
          have Na := Na.below hB
          have Nb := Nb.below hB
          have LB := LB.trans (hB.mono LB.size)
          have NX := NX.below hB
          clear hB
          go_wp2_with fail
          refine (mul_7 _ _ _ _ _ _ _ _ _ HM Na Nb (by omega) (by omega)).mono ?_
          rintro e w9 ⟨vc, rfl, Nc, hB⟩
          have HM := HM.below hB
          have Na := Na.below hB
          have Nb := Nb.below hB
          have LB := LB.trans (hB.mono LB.size)
          have NX := NX.below hB
          have NY := NY.below hB
          clear hB
          have HIC := hide (inverse_ok _ _ M ((xA * xB) % M) _ HM (Arg.num Nc.num (by omega)) (hgC.out.trans (HPR.out.2 ⟨gA, gB⟩)))
          go_wp2_with fail
          refine HIC.out.mono ?_
          rintro e w8 ⟨vZ, iZ, rfl, NZ, hlZ, hiZ, hB⟩
          have HiZ := hide hiZ
          clear hiZ HIC
          have HM := HM.below hB
          have Na := Na.below hB
          have Nb := Nb.below hB
          have LB := LB.trans (hB.mono LB.size)
          have NX := NX.below hB
          have NY := NY.below hB
          clear hB Nc
          go_wp2_with fail
          refine (mul_7 _ _ _ _ _ _ _ _ _ HM Na NX.num (by omega) (by omega)).mono ?_
          rintro e w10 ⟨vo, rfl, No, hB⟩
          rw [HiX.out] at No
          have HM := HM.below hB
          have Na := Na.below hB
          have Nb := Nb.below hB
          have LB := LB.trans (hB.mono LB.size)
          have NX := NX.below hB
          have NY := NY.below hB
          have NZ := NZ.below hB
          clear hB
          have hX0 := NX.nonneg.1
          have HIX := hide (inverse_ok _ _ M iX _ HM (Arg.num NX.num (by omega)) (gcd_of_inv iX xA M hX0 hM (by rw [Int.mul_comm]; exact HiX.out)))
          go_wp2_with fail
          refine HIX.out.mono ?_
          rintro e w11 ⟨vbk, iB, rfl, NB, hlB, hiB, hB⟩
          have HiB := hide hiB
          clear hiB HIX
          have HM := HM.below hB
          have Na := Na.below hB
          have Nb := Nb.below hB
          have LB := LB.trans (hB.mono LB.size)
          have NX := NX.below hB
          have No := No.below hB
          have NY := NY.below hB; have NZ := NZ.below hB
          clear hB
          go_wp2_with fail
          refine (reduce_7 _ _ _ _ _ _ HM Na (by omega)).mono ?_
          rintro e w12 ⟨vow, rfl, Nw2, hB⟩
          have HM := HM.below hB
          have Na := Na.below hB
          have Nb := Nb.below hB
          have LB := LB.trans (hB.mono LB.size)
          have NX := NX.below hB
          have No := No.below hB
          have NB := NB.below hB
          have NY := NY.below hB; have NZ := NZ.below hB
          clear hB
          have BO : Below w12.heap.size w12 (w12.alloc (.cells #[.int .u64 1] 52)) := (Below.refl _ _).alloc (Nat.le_refl _) _
          go_wp2_with fail
          refine (sameT _ _ 1 1 8 1 _ (No.below BO) (NumT.lit 1 _ _ rfl (by decide) (by decide) rfl 1 (by omega)) rfl).mono ?_
          rintro e w13 ⟨rfl, hD⟩
          have hB := BO.trans (hD.toBelow _)
          have HM := HM.below hB
          have Na := Na.below hB
          have Nb := Nb.below hB
          have LB := LB.trans (hB.mono LB.size)
          have NX := NX.below hB
          have NB := NB.below hB
          have Nw2 := Nw2.below hB
          have NY := NY.below hB; have NZ := NZ.below hB
          clear hB hD BO No
          have hB0 := NB.nonneg.1
          have HBK : Hid (iB = xA % M) := by
            unfold Hid
            have := inv_unique iX xA iB M (by rw [Int.mul_comm]; exact HiX.out) HiB.out
            rw [← this]
            exact (Int.emod_eq_of_lt hB0 hlB).symm
          go_wp2_with fail
          refine (sameT _ _ _ _ _ _ _ NB Nw2 HBK.out).mono ?_
          rintro e w14 ⟨rfl, hD⟩
          have hB := hD.toBelow w13.heap.size
          have HM := HM.below hB
          have Na := Na.below hB
          have Nb := Nb.below hB
          have LB := LB.trans (hB.mono LB.size)
          have NX := NX.below hB
          have NY := NY.below hB; have NZ := NZ.below hB
          clear hB hD NB Nw2 HBK
          go_wp2_with fail
          refine (mul_7 _ _ _ _ _ _ _ _ _ HM NX.num NY.num (by omega) (by omega)).mono ?_
          rintro e w20 ⟨vw, rfl, Nw, hB⟩
          have HM := HM.below hB
          have Na := Na.below hB
          have Nb := Nb.below hB
          have LB := LB.trans (hB.mono LB.size)
          have NZ := NZ.below hB
          clear hB
          have hZ0 := NZ.nonneg.1
          have HZ : Hid ((iX * iY) % M = iZ) := by
            unfold Hid
            have := inv_unique ((xA * xB) % M) (iX * iY) iZ M (inv_prod xA xB iX iY M hM HiX.out HiY.out) HiZ.out
            rw [← this]
            exact Int.emod_eq_of_lt hZ0 hlZ
          go_wp2_with fail
          refine (sameT _ _ _ _ _ _ _ Nw NZ HZ.out).mono ?_
          rintro e w21 ⟨rfl, hD⟩
          have LB := hD.below LB
          go_wp2
          go_ret
          exact ⟨rfl, LB⟩
        · have HIB := hide (inverse_no _ _ M xB _ HM (Arg.num Nb (by omega)) (by rw [hgB.out]; exact gB))
          go_wp2_with fail
          refine HIB.out.mono ?_
          rintro e w8 ⟨rfl, hB⟩
          clear HIB
          have HM := HM.below hB
          have Na := Na.below hB
          have Nb := Nb.below hB
          have LB := LB.trans (hB.mono LB.size)
          have NX := NX.below hB
          clear hB
          go_wp2_with fail
          refine (mul_7 _ _ _ _ _ _ _ _ _ HM Na Nb (by omega) (by omega)).mono ?_
          rintro e w9 ⟨vc, rfl, Nc, hB⟩
          have HM := HM.below hB
          have Na := Na.below hB
          have Nb := Nb.below hB
          have LB := LB.trans (hB.mono LB.size)
          have NX := NX.below hB
          clear hB
          have HIC := hide (inverse_no _ _ M ((xA * xB) % M) _ HM (Arg.num Nc.num (by omega)) (by rw [hgC.out]; exact (fun h => gB (HPR.out.1 h).2)))
          go_wp2_with fail
          refine HIC.out.mono ?_
          rintro e w8 ⟨rfl, hB⟩
          clear HIC
          have HM := HM.below hB
          have Na := Na.below hB
          have Nb := Nb.below hB
          have LB := LB.trans (hB.mono LB.size)
          have NX := NX.below hB
          clear hB Nc
          go_wp2_with fail
          refine (mul_7 _ _ _ _ _ _ _ _ _ HM Na NX.num (by omega) (by omega)).mono ?_
          rintro e w10 ⟨vo, rfl, No, hB⟩
          rw [HiX.out] at No
          have HM := HM.below hB
          have Na := Na.below hB
          have Nb := Nb.below hB
          have LB := LB.trans (hB.mono LB.size)
          have NX := NX.below hB
          clear hB
          have hX0 := NX.nonneg.1
          have HIX := hide (inverse_ok _ _ M iX _ HM (Arg.num NX.num (by omega)) (gcd_of_inv iX xA M hX0 hM (by rw [Int.mul_comm]; exact HiX.out)))
          go_wp2_with fail
          refine HIX.out.mono ?_
          rintro e w11 ⟨vbk, iB, rfl, NB, hlB, hiB, hB⟩
          have HiB := hide hiB
          clear hiB HIX
          have HM := HM.below hB
          have Na := Na.below hB
          have Nb := Nb.below hB
          have LB := LB.trans (hB.mono LB.size)
          have NX := NX.below hB
          have No := No.below hB
          skip
          clear hB
          go_wp2_with fail
          refine (reduce_7 _ _ _ _ _ _ HM Na (by omega)).mono ?_
          rintro e w12 ⟨vow, rfl, Nw2, hB⟩
          have HM := HM.below hB
          have Na := Na.below hB
          have Nb := Nb.below hB
          have LB := LB.trans (hB.mono LB.size)
          have NX := NX.below hB
          have No := No.below hB
          have NB := NB.below hB
          skip
          clear hB
          have BO : Below w12.heap.size w12 (w12.alloc (.cells #[.int .u64 1] 52)) := (Below.refl _ _).alloc (Nat.le_refl _) _
          go_wp2_with fail
          refine (sameT _ _ 1 1 8 1 _ (No.below BO) (NumT.lit 1 _ _ rfl (by decide) (by decide) rfl 1 (by omega)) rfl).mono ?_
          rintro e w13 ⟨rfl, hD⟩
          have hB := BO.trans (hD.toBelow _)
          have HM := HM.below hB
          have Na := Na.below hB
          have Nb := Nb.below hB
          have LB := LB.trans (hB.mono LB.size)
          have NX := NX.below hB
          have NB := NB.below hB
          have Nw2 := Nw2.below hB
          skip
          clear hB hD BO No
          have hB0 := NB.nonneg.1
          have HBK : Hid (iB = xA % M) := by
            unfold Hid
            have := inv_unique iX xA iB M (by rw [Int.mul_comm]; exact HiX.out) HiB.out
            rw [← this]
            exact (Int.emod_eq_of_lt hB0 hlB).symm
          go_wp2_with fail
          refine (sameT _ _ _ _ _ _ _ NB Nw2 HBK.out).mono ?_
          rintro e w14 ⟨rfl, hD⟩
          have hB := hD.toBelow w13.heap.size
          have HM := HM.below hB
          have Na := Na.below hB
          have Nb := Nb.below hB
          have LB := LB.trans (hB.mono LB.size)
          have NX := NX.below hB
          skip
          clear hB hD NB Nw2 HBK
          go_wp2
          go_ret
          exact ⟨rfl, LB⟩
      · have HIA := hide (inverse_no _ _ M xA _ HM (Arg.num Na (by omega)) (by rw [hgA.out]; exact gA))
        go_wp2_with fail
        refine HIA.out.mono ?_
        rintro e w8 ⟨rfl, hB⟩
        clear HIA
        have HM := HM.below hB
        have Na := Na.below hB
        have Nb := Nb.below hB
        have LB := LB.trans (hB.mono LB.size)
        clear hB
        by_cases gB : Int.gcd xB M = 1
        · have HIB := hide (inverse_ok _ _ M xB _ HM (Arg.num Nb (by omega)) (hgB.out.trans gB))
          go_wp2_with fail
          refine HIB.out.mono ?_
          rintro e w8 ⟨vY, iY, rfl, NY, hlY, hiY, hB⟩
          have HiY := hide hiY
          clear hiY HIB
          have HM := HM.below hB
          have Na := Na.below hB
          have Nb := Nb.below hB
          have LB := LB.trans (hB.mono LB.size)
          clear hB
          go_wp2_with fail
          refine (mul_7 _ _ _ _ _ _ _ _ _ HM Na Nb (by omega) (by omega)).mono ?_
          rintro e w9 ⟨vc, rfl, Nc, hB⟩
          have HM := HM.below hB
          have Na := Na.below hB
          have Nb := Nb.below hB
          have LB := LB.trans (hB.mono LB.size)
          clear hB
          have HIC := hide (inverse_no _ _ M ((xA * xB) % M) _ HM (Arg.num Nc.num (by omega)) (by rw [hgC.out]; exact (fun h => gA (HPR.out.1 h).1)))
          go_wp2_with fail
          refine HIC.out.mono ?_
          rintro e w8 ⟨rfl, hB⟩
          clear HIC
          have HM := HM.below hB
          have Na := Na.below hB
          have Nb := Nb.below hB
          have LB := LB.trans (hB.mono LB.size)
          go_wp2
          go_ret
          exact ⟨rfl, LB⟩
        · have HIB := hide (inverse_no _ _ M xB _ HM (Arg.num Nb (by omega)) (by rw [hgB.out]; exact gB))
          go_wp2_with fail
          refine HIB.out.mono ?_
          rintro e w8 ⟨rfl, hB⟩
          clear HIB
          have HM := HM.below hB
          have Na := Na.below hB
          have Nb := Nb.below hB
          have LB := LB.trans (hB.mono LB.size)
          clear hB
          go_wp2_with fail
          refine (mul_7 _ _ _ _ _ _ _ _ _ HM Na Nb (by omega) (by omega)).mono ?_
          rintro e w9 ⟨vc, rfl, Nc, hB⟩
          have HM := HM.below hB
          have Na := Na.below hB
          have Nb := Nb.below hB
          have LB := LB.trans (hB.mono LB.size)
          clear hB
          have HIC := hide (inverse_no _ _ M ((xA * xB) % M) _ HM (Arg.num Nc.num (by omega)) (by rw [hgC.out]; exact (fun h => gA (HPR.out.1 h).1)))
          go_wp2_with fail
          refine HIC.out.mono ?_
          rintro e w8 ⟨rfl, hB⟩
          clear HIC
          have HM := HM.below hB
          have Na := Na.below hB
          have Nb := Nb.below hB
          have LB := LB.trans (hB.mono LB.size)
          go_wp2
          go_ret
          exact ⟨rfl, LB⟩

end Go.Proofs.Ytobdpcmafjhnlaa
