/-
  NatProducts answers true at any two numbers, and writes nothing that was there.
-/
import Derived.Test.YtekhobmjjoegpaaNSums
import Derived.Test.YtekhobmjjoegpaaNRefMul
namespace Go.Proofs.Ytekhobmjjoegpaa
open Go.RowKit Go.IntWalk

theorem refMulN_any (v1 v2 : Value) (x y : Int) (L1 L2 : Nat) (w : World) (k1 : NumD w v1 x L1) (k2 : NumD w v2 y L2) (l1 : L1 ≤ 20000) (l2 : L2 ≤ 20000) :
    Calls Try.prog 20 #[v1, v2] w fun e w' => ∃ v, e = .returned v ∧ NumD w' v (x * y) (L1 + L2 + 1) ∧ Below w.heap.size w w' := by
  obtain ⟨a1, n1, c1, xs, rfl, h1, t1, m1, vx⟩ := k1
  obtain ⟨a2, n2, c2, ys, rfl, h2, t2, m2, vy⟩ := k2
  refine (refMul_any a1 n1 c1 xs a2 n2 c2 ys w h1 h2 (by omega) (by omega)).mono ?_
  rintro e w1 ⟨v, rfl, ⟨ao, n, c, zs, he, hs, ht, hl, hv⟩, hB⟩
  exact ⟨v, rfl, ⟨ao, n, c, zs, he, hs, ht, by omega, by rw [hv, vx, vy]⟩, hB⟩

set_option maxRecDepth 100000 in
set_option maxHeartbeats 4000000 in
theorem products_walk (a1 : Option Addr) (n1 c1 : Nat) (xs : List Int) (a2 : Option Addr) (n2 c2 : Nat) (ys : List Int) (w : World) (SA : SrcG .u64 18446744073709551616 w a1 n1 c1 xs) (SB : SrcG .u64 18446744073709551616 w a2 n2 c2 ys) (hn1 : n1 ≤ 17592186043904) (hn2 : n2 ≤ 17592186043904) :
    Calls Try.prog 4 #[.slice a1 n1 c1, .slice a2 n2 c2] w fun e w' => e = .returned (.bool true) ∧ Below w.heap.size w w' := by
  by_cases hL : 64 < (trm xs).length ∨ 64 < (trm ys).length
  · go_enter Try.func4, Try.ntmps4
    go_wp2_with fail
    refine (two_long _ _ _ xs _ _ _ ys _ SA SB hL).mono ?_
    rintro e w1 ⟨rfl, LW⟩
    have SA := SA.below LW
    have SB := SB.below LW
    have NX := NumD.nil w1 0
    have NY := NumD.nil w1 0
    go_wp2_with fail
    refine (lent_any a1 n1 c1 xs _ SA hn1).mono ?_
    rintro e w2 ⟨ga, ca, rfl, LA, hB⟩
    have SA := SA.below hB
    have SB := SB.below hB
    have NX := NX.below hB
    have NY := NY.below hB
    have LW := LW.trans (Below.mono hB LW.size)
    clear hB
    go_wp2_with fail
    refine (lent_any a2 n2 c2 ys _ SB hn2).mono ?_
    rintro e w3 ⟨gb, cb, rfl, LC, hB⟩
    have LA := LA.below hB
    have SA := SA.below hB
    have SB := SB.below hB
    have NX := NX.below hB
    have NY := NY.below hB
    have LW := LW.trans (Below.mono hB LW.size)
    clear hB
    go_wp2_with fail
    refine (mul_long _ _ _ xs _ _ _ ys _ LA.src LC.src hL).mono ?_
    rintro e w9 ⟨rfl, hw⟩
    have hw2 := hw.symm
    subst hw2
    clear hw
    go_wp2_with fail
    refine (mul_long _ _ _ xs _ _ _ ys _ LA.src LC.src hL).mono ?_
    rintro e w9 ⟨rfl, hw⟩
    have hw2 := hw.symm
    subst hw2
    clear hw
    go_wp2_with fail
    refine (refMulN_any _ _ _ _ _ _ _ NX NY (by omega) (by omega)).mono ?_
    rintro e w5 ⟨vc, rfl, _, hB⟩
    have LA := LA.below hB
    have LC := LC.below hB
    have SA := SA.below hB
    have SB := SB.below hB
    have NX := NX.below hB
    have NY := NY.below hB
    have LW := LW.trans (Below.mono hB LW.size)
    clear hB
    go_wp2_with fail
    refine (own_bad 3 vc _ (by decide)).mono ?_
    rintro e w9 ⟨rfl, hw⟩
    have hw2 := hw.symm
    subst hw2
    clear hw
    go_wp2_with fail
    refine (kept_true _ _ _ _ _ _ xs _ LA SA hn1).mono ?_
    rintro e wk ⟨rfl, hD⟩
    have LA := LA.drew hD
    have LC := LC.drew hD
    have SA := (hD).src SA
    have SB := (hD).src SB
    have NX := NX.drew hD
    have NY := NY.drew hD
    have LW := (hD).below LW
    clear hD
    go_wp2_with fail
    refine (kept_true _ _ _ _ _ _ ys _ LC SB hn2).mono ?_
    rintro e wl ⟨rfl, hD⟩
    have LA := LA.drew hD
    have LC := LC.drew hD
    have SA := (hD).src SA
    have SB := (hD).src SB
    have NX := NX.drew hD
    have NY := NY.drew hD
    have LW := (hD).below LW
    clear hD
    go_wp2_with fail
    refine (names_true _).mono ?_
    rintro e w9 ⟨rfl, hw⟩
    have hw2 := hw.symm
    subst hw2
    clear hw
    go_wp2
    go_ret
    exact ⟨rfl, LW⟩
  · have l1 : (trm xs).length ≤ 64 := by omega
    have l2 : (trm ys).length ≤ 64 := by omega
    clear hL
    go_enter Try.func4, Try.ntmps4
    go_wp2_with fail
    refine (two_ok _ _ _ xs _ _ _ ys _ SA SB l1 l2).mono ?_
    rintro e w1 ⟨vx, vy, rfl, NX, NY, LW⟩
    have SA := SA.below LW
    have SB := SB.below LW
    go_wp2_with fail
    refine (lent_any a1 n1 c1 xs _ SA hn1).mono ?_
    rintro e w2 ⟨ga, ca, rfl, LA, hB⟩
    have SA := SA.below hB
    have SB := SB.below hB
    have NX := NX.below hB
    have NY := NY.below hB
    have LW := LW.trans (Below.mono hB LW.size)
    clear hB
    go_wp2_with fail
    refine (lent_any a2 n2 c2 ys _ SB hn2).mono ?_
    rintro e w3 ⟨gb, cb, rfl, LC, hB⟩
    have LA := LA.below hB
    have SA := SA.below hB
    have SB := SB.below hB
    have NX := NX.below hB
    have NY := NY.below hB
    have LW := LW.trans (Below.mono hB LW.size)
    clear hB
    go_wp2_with fail
    refine (mul_ok _ _ _ xs _ _ _ ys _ LA.src LC.src l1 l2 ).mono ?_
    rintro e wa ⟨va, za, rfl, Ga, Ta, Va, Ba⟩
    have Va := hide Va
    go_wp2_with fail
    refine (mul_ok _ _ _ xs _ _ _ ys _ (LA.below Ba).src (LC.below Ba).src l1 l2 ).mono ?_
    rintro e wb ⟨vb, zb, rfl, Gb, Tb, Vb, Bb⟩
    have Vb := hide Vb
    obtain rfl : za = zb := tr_inj (b := 18446744073709551616) (by decide) Ga.dg Gb.dg Ta Tb (by rw [Va.out, Vb.out])
    have Bab := Ba.trans (Below.mono Bb Ba.size)
    go_wp2_with fail
    refine (refMulN_any _ _ _ _ _ _ _ (NX.below Bab) (NY.below Bab) (by omega) (by omega)).mono ?_
    rintro e wc ⟨vc, rfl, Nc, Bc⟩
    have Babc := Bab.trans (Below.mono Bc Bab.size)
    go_wp2_with fail
    refine (own_ok _ _ va vb vc za _ _ _ ((Ga.below Bb).below Bc) (Gb.below Bc) (GotG.apart Ga Gb) Nc (by omega) Ta Va.out).mono ?_
    rintro e wd ⟨rfl, Bd⟩
    have hB := Babc.grown Bd Babc.size (fun k hk => Ga.row k hk)
    clear Ga Gb Ta Tb Va Vb Ba Bb Bab Bc Babc Nc Bd
    have LA := LA.below hB
    have LC := LC.below hB
    have SA := SA.below hB
    have SB := SB.below hB
    have NX := NX.below hB
    have NY := NY.below hB
    have LW := LW.trans (Below.mono hB LW.size)
    clear hB
    go_wp2_with fail
    refine (kept_true _ _ _ _ _ _ xs _ LA SA hn1).mono ?_
    rintro e wk ⟨rfl, hD⟩
    have LA := LA.drew hD
    have LC := LC.drew hD
    have SA := (hD).src SA
    have SB := (hD).src SB
    have NX := NX.drew hD
    have NY := NY.drew hD
    have LW := (hD).below LW
    clear hD
    go_wp2_with fail
    refine (kept_true _ _ _ _ _ _ ys _ LC SB hn2).mono ?_
    rintro e wl ⟨rfl, hD⟩
    have LA := LA.drew hD
    have LC := LC.drew hD
    have SA := (hD).src SA
    have SB := (hD).src SB
    have NX := NX.drew hD
    have NY := NY.drew hD
    have LW := (hD).below LW
    clear hD
    go_wp2_with fail
    refine (names_true _).mono ?_
    rintro e w9 ⟨rfl, hw⟩
    have hw2 := hw.symm
    subst hw2
    clear hw
    go_wp2
    go_ret
    exact ⟨rfl, LW⟩

end Go.Proofs.Ytekhobmjjoegpaa
