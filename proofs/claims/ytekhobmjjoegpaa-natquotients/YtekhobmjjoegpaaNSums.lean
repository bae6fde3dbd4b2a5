/-
  NatSums answers true at any two numbers, and writes nothing that was there.
-/
import Derived.Test.YtekhobmjjoegpaaNMul
import Derived.Test.YtekhobmjjoegpaaNLaw
namespace Go.Proofs.Ytekhobmjjoegpaa
open Go.RowKit Go.IntWalk

theorem GotG.apart {w1 w2 : World} {b1 : Nat} {v1 v2 : Value} {zs ys : List Int} (h1 : GotG .u64 18446744073709551616 45 w1 b1 v1 zs) (h2 : GotG .u64 18446744073709551616 45 w2 w1.heap.size v2 ys) : v1.ownBlock ≠ v2.ownBlock := by
  obtain ⟨g1, rfl, _, l1⟩ := h1.shape
  obtain ⟨g2, rfl, l2, _⟩ := h2.shape
  simp [Value.ownBlock]
  omega

theorem GotG.row {w : World} {b1 : Nat} {v1 : Value} {zs : List Int} (h1 : GotG .u64 18446744073709551616 45 w b1 v1 zs) : ∀ k, v1.ownBlock = some k → b1 ≤ k := by
  obtain ⟨g1, rfl, l1, _⟩ := h1.shape
  intro k hk
  simp [Value.ownBlock] at hk
  omega

set_option maxRecDepth 100000 in
set_option maxHeartbeats 4000000 in
theorem sums_walk (a1 : Option Addr) (n1 c1 : Nat) (xs : List Int) (a2 : Option Addr) (n2 c2 : Nat) (ys : List Int) (w : World) (SA : SrcG .u64 18446744073709551616 w a1 n1 c1 xs) (SB : SrcG .u64 18446744073709551616 w a2 n2 c2 ys) (hn1 : n1 ≤ 17592186043904) (hn2 : n2 ≤ 17592186043904) :
    Calls Try.prog 3 #[.slice a1 n1 c1, .slice a2 n2 c2] w fun e w' => e = .returned (.bool true) ∧ Below w.heap.size w w' := by
  by_cases hL : 64 < (trm xs).length ∨ 64 < (trm ys).length
  · go_enter Try.func3, Try.ntmps3
    go_wp2_with fail
    refine (two_long _ _ _ xs _ _ _ ys _ SA SB hL).mono ?_
    rintro e w1 ⟨rfl, LW⟩
    have SA := SA.below LW
    have SB := SB.below LW
    have NX := NumD.nil w1 0
    have NY := NumD.nil w1 0
    go_wp2_with fail
    refine (lent_any a1 n1 c1 xs _ SA hn1).mono ?_
    rintro e w2 ⟨ga, ca, rfl, LA, hB⟩
    have SA := SA.below hB
    have SB := SB.below hB
    have NX := NX.below hB
    have NY := NY.below hB
    have LW := LW.trans (Below.mono hB LW.size)
    clear hB
    go_wp2_with fail
    refine (lent_any a2 n2 c2 ys _ SB hn2).mono ?_
    rintro e w3 ⟨gb, cb, rfl, LC, hB⟩
    have LA := LA.below hB
    have SA := SA.below hB
    have SB := SB.below hB
    have NX := NX.below hB
    have NY := NY.below hB
    have LW := LW.trans (Below.mono hB LW.size)
    clear hB
    go_wp2_with fail
    refine (compare_long _ _ _ xs _ _ _ ys _ LA.src LC.src hL).mono ?_
    rintro e w9 ⟨rfl, hw⟩
    have hw2 := hw.symm
    subst hw2
    clear hw
    go_wp2_with fail
    refine (refCompare_any _ _ _ _ _ _ _ NX NY).mono ?_
    rintro e w4 ⟨rfl, hD⟩
    have LA := LA.drew hD
    have LC := LC.drew hD
    have SA := (hD).src SA
    have SB := (hD).src SB
    have NX := NX.drew hD
    have NY := NY.drew hD
    have LW := (hD).below LW
    clear hD
    rw [cmpI_eq]
    go_wp2_with fail
    refine (add_long _ _ _ xs _ _ _ ys _ LA.src LC.src hL).mono ?_
    rintro e w9 ⟨rfl, hw⟩
    have hw2 := hw.symm
    subst hw2
    clear hw
    go_wp2_with fail
    refine (add_long _ _ _ xs _ _ _ ys _ LA.src LC.src hL).mono ?_
    rintro e w9 ⟨rfl, hw⟩
    have hw2 := hw.symm
    subst hw2
    clear hw
    go_wp2_with fail
    refine (refAdd_any _ _ _ _ _ _ _ NX NY (by omega) (by omega)).mono ?_
    rintro e w5 ⟨vc, rfl, _, hB⟩
    have LA := LA.below hB
    have LC := LC.below hB
    have SA := SA.below hB
    have SB := SB.below hB
    have NX := NX.below hB
    have NY := NY.below hB
    have LW := LW.trans (Below.mono hB LW.size)
    clear hB
    go_wp2_with fail
    refine (own_bad 3 vc _ (by decide)).mono ?_
    rintro e w9 ⟨rfl, hw⟩
    have hw2 := hw.symm
    subst hw2
    clear hw
    go_wp2_with fail
    refine (sub_long _ _ _ xs _ _ _ ys _ LA.src LC.src hL).mono ?_
    rintro e w9 ⟨rfl, hw⟩
    have hw2 := hw.symm
    subst hw2
    clear hw
    go_wp2_with fail
    refine (sub_long _ _ _ xs _ _ _ ys _ LA.src LC.src hL).mono ?_
    rintro e w9 ⟨rfl, hw⟩
    have hw2 := hw.symm
    subst hw2
    clear hw
    go_wp2_with fail
    refine (refSub_any _ _ _ _ _ _ _ NX NY (by omega) (by omega)).mono ?_
    rintro e w6 ⟨vd, rfl, _, hB⟩
    have LA := LA.below hB
    have LC := LC.below hB
    have SA := SA.below hB
    have SB := SB.below hB
    have NX := NX.below hB
    have NY := NY.below hB
    have LW := LW.trans (Below.mono hB LW.size)
    clear hB
    go_wp2_with fail
    refine (own_bad 3 vd _ (by decide)).mono ?_
    rintro e w9 ⟨rfl, hw⟩
    have hw2 := hw.symm
    subst hw2
    clear hw
    go_wp2_with fail
    refine (kept_true _ _ _ _ _ _ xs _ LA SA hn1).mono ?_
    rintro e wk ⟨rfl, hD⟩
    have LA := LA.drew hD
    have LC := LC.drew hD
    have SA := (hD).src SA
    have SB := (hD).src SB
    have NX := NX.drew hD
    have NY := NY.drew hD
    have LW := (hD).below LW
    clear hD
    go_wp2_with fail
    refine (kept_true _ _ _ _ _ _ ys _ LC SB hn2).mono ?_
    rintro e wl ⟨rfl, hD⟩
    have LA := LA.drew hD
    have LC := LC.drew hD
    have SA := (hD).src SA
    have SB := (hD).src SB
    have NX := NX.drew hD
    have NY := NY.drew hD
    have LW := (hD).below LW
    clear hD
    go_wp2_with fail
    refine (names_true _).mono ?_
    rintro e w9 ⟨rfl, hw⟩
    have hw2 := hw.symm
    subst hw2
    clear hw
    go_wp2
    go_ret
    exact ⟨rfl, LW⟩
  · have l1 : (trm xs).length ≤ 64 := by omega
    have l2 : (trm ys).length ≤ 64 := by omega
    clear hL
    go_enter Try.func3, Try.ntmps3
    go_wp2_with fail
    refine (two_ok _ _ _ xs _ _ _ ys _ SA SB l1 l2).mono ?_
    rintro e w1 ⟨vx, vy, rfl, NX, NY, LW⟩
    have SA := SA.below LW
    have SB := SB.below LW
    go_wp2_with fail
    refine (lent_any a1 n1 c1 xs _ SA hn1).mono ?_
    rintro e w2 ⟨ga, ca, rfl, LA, hB⟩
    have SA := SA.below hB
    have SB := SB.below hB
    have NX := NX.below hB
    have NY := NY.below hB
    have LW := LW.trans (Below.mono hB LW.size)
    clear hB
    go_wp2_with fail
    refine (lent_any a2 n2 c2 ys _ SB hn2).mono ?_
    rintro e w3 ⟨gb, cb, rfl, LC, hB⟩
    have LA := LA.below hB
    have SA := SA.below hB
    have SB := SB.below hB
    have NX := NX.below hB
    have NY := NY.below hB
    have LW := LW.trans (Below.mono hB LW.size)
    clear hB
    obtain ⟨cm, hcm⟩ : ∃ c, cmpI (val 18446744073709551616 xs) (val 18446744073709551616 ys) = c := ⟨_, rfl⟩
    have cc := compare_ok _ _ _ xs _ _ _ ys _ LA.src LC.src l1 l2
    rw [hcm] at cc
    have CC := hide cc
    have HCM := hide hcm
    clear cc hcm
    go_wp2_with fail
    refine CC.out.mono ?_
    rintro e w4 ⟨rfl, hD⟩
    clear CC
    have LA := LA.drew hD
    have LC := LC.drew hD
    have SA := (hD).src SA
    have SB := (hD).src SB
    have NX := NX.drew hD
    have NY := NY.drew hD
    have LW := (hD).below LW
    clear hD
    have cr := refCompare_any _ _ _ _ _ _ _ NX NY
    rw [HCM.out] at cr
    have CR := hide cr
    clear cr
    go_wp2_with fail
    refine CR.out.mono ?_
    rintro e w5 ⟨rfl, hD⟩
    clear CR
    have LA := LA.drew hD
    have LC := LC.drew hD
    have SA := (hD).src SA
    have SB := (hD).src SB
    have NX := NX.drew hD
    have NY := NY.drew hD
    have LW := (hD).below LW
    clear hD
    go_wp2_with fail
    refine (add_ok _ _ _ xs _ _ _ ys _ LA.src LC.src l1 l2 ).mono ?_
    rintro e wa ⟨va, za, rfl, Ga, Ta, Va, Ba⟩
    have Va := hide Va
    go_wp2_with fail
    refine (add_ok _ _ _ xs _ _ _ ys _ (LA.below Ba).src (LC.below Ba).src l1 l2 ).mono ?_
    rintro e wb ⟨vb, zb, rfl, Gb, Tb, Vb, Bb⟩
    have Vb := hide Vb
    obtain rfl : za = zb := tr_inj (b := 18446744073709551616) (by decide) Ga.dg Gb.dg Ta Tb (by rw [Va.out, Vb.out])
    have Bab := Ba.trans (Below.mono Bb Ba.size)
    go_wp2_with fail
    refine (refAdd_any _ _ _ _ _ _ _ (NX.below Bab) (NY.below Bab) (by omega) (by omega)).mono ?_
    rintro e wc ⟨vc, rfl, Nc, Bc⟩
    have Babc := Bab.trans (Below.mono Bc Bab.size)
    go_wp2_with fail
    refine (own_ok _ _ va vb vc za _ _ _ ((Ga.below Bb).below Bc) (Gb.below Bc) (GotG.apart Ga Gb) Nc (by omega) Ta Va.out).mono ?_
    rintro e wd ⟨rfl, Bd⟩
    have hB := Babc.grown Bd Babc.size (fun k hk => Ga.row k hk)
    clear Ga Gb Ta Tb Va Vb Ba Bb Bab Bc Babc Nc Bd
    have LA := LA.below hB
    have LC := LC.below hB
    have SA := SA.below hB
    have SB := SB.below hB
    have NX := NX.below hB
    have NY := NY.below hB
    have LW := LW.trans (Below.mono hB LW.size)
    clear hB
    have cr := refCompare_any _ _ _ _ _ _ _ NX NY
    rw [HCM.out] at cr
    have CR := hide cr
    clear cr
    by_cases hlt : val 18446744073709551616 xs < val 18446744073709551616 ys
    · have hcm : cm < 0 := by rw [← HCM.out, cmpI_lt hlt]; decide
      go_wp2_with fail
      refine CR.out.mono ?_
      rintro e w6 ⟨rfl, hD⟩
      clear CR
      have LA := LA.drew hD
      have LC := LC.drew hD
      have SA := (hD).src SA
      have SB := (hD).src SB
      have NX := NX.drew hD
      have NY := NY.drew hD
      have LW := (hD).below LW
      clear hD
      go_wp2_with fail
      refine (sub_sign _ _ _ xs _ _ _ ys _ LA.src LC.src l1 l2 hlt).mono ?_
      rintro e w7 ⟨rfl, hD⟩
      have LA := LA.drew hD
      have LC := LC.drew hD
      have SA := (hD).src SA
      have SB := (hD).src SB
      have NX := NX.drew hD
      have NY := NY.drew hD
      have LW := (hD).below LW
      clear hD
      go_wp2_with fail
      refine (sub_sign _ _ _ xs _ _ _ ys _ LA.src LC.src l1 l2 hlt).mono ?_
      rintro e w8 ⟨rfl, hD⟩
      have LA := LA.drew hD
      have LC := LC.drew hD
      have SA := (hD).src SA
      have SB := (hD).src SB
      have NX := NX.drew hD
      have NY := NY.drew hD
      have LW := (hD).below LW
      clear hD
      go_wp2_with fail
      refine (refSub_any _ _ _ _ _ _ _ NX (NumD.nil _ 0) (by omega) (by have := NX.nonneg; omega)).mono ?_
      rintro e w10 ⟨vd, rfl, _, hB⟩
      have LA := LA.below hB
      have LC := LC.below hB
      have SA := SA.below hB
      have SB := SB.below hB
      have NX := NX.below hB
      have NY := NY.below hB
      have LW := LW.trans (Below.mono hB LW.size)
      clear hB
      go_wp2_with fail
      refine (own_bad 22 vd _ (by decide)).mono ?_
      rintro e w9 ⟨rfl, hw⟩
      have hw2 := hw.symm
      subst hw2
      clear hw
      go_wp2_with fail
      refine (kept_true _ _ _ _ _ _ xs _ LA SA hn1).mono ?_
      rintro e wk ⟨rfl, hD⟩
      have LA := LA.drew hD
      have LC := LC.drew hD
      have SA := (hD).src SA
      have SB := (hD).src SB
      have NX := NX.drew hD
      have NY := NY.drew hD
      have LW := (hD).below LW
      clear hD
      go_wp2_with fail
      refine (kept_true _ _ _ _ _ _ ys _ LC SB hn2).mono ?_
      rintro e wl ⟨rfl, hD⟩
      have LA := LA.drew hD
      have LC := LC.drew hD
      have SA := (hD).src SA
      have SB := (hD).src SB
      have NX := NX.drew hD
      have NY := NY.drew hD
      have LW := (hD).below LW
      clear hD
      go_wp2_with fail
      refine (names_true _).mono ?_
      rintro e w9 ⟨rfl, hw⟩
      have hw2 := hw.symm
      subst hw2
      clear hw
      go_wp2
      go_ret
      exact ⟨rfl, LW⟩
    · have hcm : ¬ cm < 0 := by
        rw [← HCM.out]
        unfold cmpI
        rw [if_neg hlt]
        split <;> decide
      have hle : val 18446744073709551616 ys ≤ val 18446744073709551616 xs := by omega
      clear hlt
      go_wp2_with fail
      refine CR.out.mono ?_
      rintro e w6 ⟨rfl, hD⟩
      clear CR
      have LA := LA.drew hD
      have LC := LC.drew hD
      have SA := (hD).src SA
      have SB := (hD).src SB
      have NX := NX.drew hD
      have NY := NY.drew hD
      have LW := (hD).below LW
      clear hD
      go_wp2_with fail
      refine (sub_ok _ _ _ xs _ _ _ ys _ LA.src LC.src l1 l2 hle).mono ?_
      rintro e wa ⟨va, za, rfl, Ga, Ta, Va, Ba⟩
      have Va := hide Va
      go_wp2_with fail
      refine (sub_ok _ _ _ xs _ _ _ ys _ (LA.below Ba).src (LC.below Ba).src l1 l2 hle).mono ?_
      rintro e wb ⟨vb, zb, rfl, Gb, Tb, Vb, Bb⟩
      have Vb := hide Vb
      obtain rfl : za = zb := tr_inj (b := 18446744073709551616) (by decide) Ga.dg Gb.dg Ta Tb (by rw [Va.out, Vb.out])
      have Bab := Ba.trans (Below.mono Bb Ba.size)
      go_wp2_with fail
      refine (refSub_any _ _ _ _ _ _ _ (NX.below Bab) (NY.below Bab) (by omega) hle).mono ?_
      rintro e wc ⟨vc, rfl, Nc, Bc⟩
      have Babc := Bab.trans (Below.mono Bc Bab.size)
      go_wp2_with fail
      refine (own_ok _ _ va vb vc za _ _ _ ((Ga.below Bb).below Bc) (Gb.below Bc) (GotG.apart Ga Gb) Nc (by omega) Ta Va.out).mono ?_
      rintro e wd ⟨rfl, Bd⟩
      have hB := Babc.grown Bd Babc.size (fun k hk => Ga.row k hk)
      clear Ga Gb Ta Tb Va Vb Ba Bb Bab Bc Babc Nc Bd
      have LA := LA.below hB
      have LC := LC.below hB
      have SA := SA.below hB
      have SB := SB.below hB
      have NX := NX.below hB
      have NY := NY.below hB
      have LW := LW.trans (Below.mono hB LW.size)
      clear hB
      go_wp2_with fail
      refine (kept_true _ _ _ _ _ _ xs _ LA SA hn1).mono ?_
      rintro e wk ⟨rfl, hD⟩
      have LA := LA.drew hD
      have LC := LC.drew hD
      have SA := (hD).src SA
      have SB := (hD).src SB
      have NX := NX.drew hD
      have NY := NY.drew hD
      have LW := (hD).below LW
      clear hD
      go_wp2_with fail
      refine (kept_true _ _ _ _ _ _ ys _ LC SB hn2).mono ?_
      rintro e wl ⟨rfl, hD⟩
      have LA := LA.drew hD
      have LC := LC.drew hD
      have SA := (hD).src SA
      have SB := (hD).src SB
      have NX := NX.drew hD
      have NY := NY.drew hD
      have LW := (hD).below LW
      clear hD
      go_wp2_with fail
      refine (names_true _).mono ?_
      rintro e w9 ⟨rfl, hw⟩
      have hw2 := hw.symm
      subst hw2
      clear hw
      go_wp2
      go_ret
      exact ⟨rfl, LW⟩

end Go.Proofs.Ytekhobmjjoegpaa
