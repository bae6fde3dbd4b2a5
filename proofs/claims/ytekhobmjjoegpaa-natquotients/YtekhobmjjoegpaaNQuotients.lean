/-
  NatQuotients answers true at any two numbers, and writes nothing that was there.
-/
import Derived.Test.YtekhobmjjoegpaaNRefDiv
import Derived.Test.YtekhobmjjoegpaaNDiv
namespace Go.Proofs.Ytekhobmjjoegpaa
open Go.RowKit Go.IntWalk

theorem div_unique (a y q r q' r' : Int) (h : a = y * q + r) (h' : a = y * q' + r') (r0 : 0 ≤ r) (r1 : r < y) (s0 : 0 ≤ r') (s1 : r' < y) : q = q' ∧ r = r' := by
  have e1 : a / y = q := by rw [h, Int.mul_add_ediv_left _ _ (by omega), Int.ediv_eq_zero_of_lt r0 r1, Int.add_zero]
  have e2 : a / y = q' := by rw [h', Int.mul_add_ediv_left _ _ (by omega), Int.ediv_eq_zero_of_lt s0 s1, Int.add_zero]
  have e3 : q = q' := by rw [← e1, e2]
  subst e3
  exact ⟨rfl, by omega⟩

theorem GotG.kept {w w' : World} {base : Nat} {v : Value} {zs : List Int} {row : Option Nat} (h : GotG .u64 18446744073709551616 45 w base v zs) (hg : w.grownBy w' row) (hne : v.ownBlock ≠ row) : GotG .u64 18446744073709551616 45 w' base v zs := by
  obtain ⟨g, rest, he, h1, h2, h3⟩ := h
  refine ⟨g, rest, he, h1, h2.kept hg ?_, h3⟩
  rw [he] at hne
  exact hne

theorem NumD.zeroLen {w : World} {v : Value} {L : Nat} (h : NumD w v 0 L) : ∃ ao c, v = .slice ao 0 c := by
  obtain ⟨ao, n, c, xs, he, hs, ht, hl, hv⟩ := h
  have e : xs = [] := tr_inj (b := 65536) (by decide) hs.hdg (by intro x hx; simp at hx) ht (fun h => absurd rfl h) (by rw [hv]; rfl)
  subst e
  have := hs.hlen
  simp at this
  subst this
  exact ⟨ao, c, he⟩

theorem NumD.someLen {w : World} {v : Value} {x : Int} {L : Nat} (h : NumD w v x L) (hx : x ≠ 0) : ∃ ao n c, v = .slice ao n c ∧ ¬ (n : Int) = 0 := by
  obtain ⟨ao, n, c, xs, he, hs, ht, hl, hv⟩ := h
  refine ⟨ao, n, c, he, ?_⟩
  intro h
  have h2 := hs.hlen
  have e : xs = [] := List.eq_nil_of_length_eq_zero (by omega)
  subst e
  exact hx hv.symm

set_option maxRecDepth 100000 in
set_option maxHeartbeats 4000000 in
theorem quotients_walk (a1 : Option Addr) (n1 c1 : Nat) (xs : List Int) (a2 : Option Addr) (n2 c2 : Nat) (ys : List Int) (w : World) (SA : SrcG .u64 18446744073709551616 w a1 n1 c1 xs) (SB : SrcG .u64 18446744073709551616 w a2 n2 c2 ys) (hn1 : n1 ≤ 17592186043904) (hn2 : n2 ≤ 17592186043904) :
    Calls Try.prog 5 #[.slice a1 n1 c1, .slice a2 n2 c2] w fun e w' => e = .returned (.bool true) ∧ Below w.heap.size w w' := by
  by_cases hL : 64 < (trm xs).length ∨ 64 < (trm ys).length
  · go_enter Try.func5, Try.ntmps5
    go_wp2_with fail
    refine (two_long _ _ _ xs _ _ _ ys _ SA SB hL).mono ?_
    rintro e w1 ⟨rfl, LW⟩
    have SA := SA.below LW
    have SB := SB.below LW
    have NX := NumD.nil w1 0
    have NY := NumD.nil w1 0
    go_wp2_with fail
    refine (lent_any a1 n1 c1 xs _ SA hn1).mono ?_
    rintro e w2 ⟨ga, ca, rfl, LA, hB⟩
    have SA := SA.below hB
    have SB := SB.below hB
    have NX := NX.below hB
    have NY := NY.below hB
    have LW := LW.trans (Below.mono hB LW.size)
    clear hB
    go_wp2_with fail
    refine (lent_any a2 n2 c2 ys _ SB hn2).mono ?_
    rintro e w3 ⟨gb, cb, rfl, LC, hB⟩
    have LA := LA.below hB
    have SA := SA.below hB
    have SB := SB.below hB
    have NX := NX.below hB
    have NY := NY.below hB
    have LW := LW.trans (Below.mono hB LW.size)
    clear hB
    go_wp2_with fail
    refine (div_long _ _ _ xs _ _ _ ys _ LA.src LC.src hL).mono ?_
    rintro e w9 ⟨rfl, hw⟩
    have hw2 := hw.symm
    subst hw2
    clear hw
    go_wp2_with fail
    refine (div_long _ _ _ xs _ _ _ ys _ LA.src LC.src hL).mono ?_
    rintro e w9 ⟨rfl, hw⟩
    have hw2 := hw.symm
    subst hw2
    clear hw
    go_wp2_with fail
    refine (own_bad 3 _ _ (by decide)).mono ?_
    rintro e w9 ⟨rfl, hw⟩
    have hw2 := hw.symm
    subst hw2
    clear hw
    go_wp2_with fail
    refine (own_bad 3 _ _ (by decide)).mono ?_
    rintro e w9 ⟨rfl, hw⟩
    have hw2 := hw.symm
    subst hw2
    clear hw
    go_wp2_with fail
    refine (kept_true _ _ _ _ _ _ xs _ LA SA hn1).mono ?_
    rintro e wk ⟨rfl, hD⟩
    have LA := LA.drew hD
    have LC := LC.drew hD
    have SA := (hD).src SA
    have SB := (hD).src SB
    have NX := NX.drew hD
    have NY := NY.drew hD
    have LW := (hD).below LW
    clear hD
    go_wp2_with fail
    refine (kept_true _ _ _ _ _ _ ys _ LC SB hn2).mono ?_
    rintro e wl ⟨rfl, hD⟩
    have LA := LA.drew hD
    have LC := LC.drew hD
    have SA := (hD).src SA
    have SB := (hD).src SB
    have NX := NX.drew hD
    have NY := NY.drew hD
    have LW := (hD).below LW
    clear hD
    go_wp2_with fail
    refine (names_true _).mono ?_
    rintro e w9 ⟨rfl, hw⟩
    have hw2 := hw.symm
    subst hw2
    clear hw
    go_wp2
    go_ret
    exact ⟨rfl, LW⟩
  · have l1 : (trm xs).length ≤ 64 := by omega
    have l2 : (trm ys).length ≤ 64 := by omega
    clear hL
    go_enter Try.func5, Try.ntmps5
    go_wp2_with fail
    refine (two_ok _ _ _ xs _ _ _ ys _ SA SB l1 l2).mono ?_
    rintro e w1 ⟨vx, vy, rfl, NX, NY, LW⟩
    have SA := SA.below LW
    have SB := SB.below LW
    go_wp2_with fail
    refine (lent_any a1 n1 c1 xs _ SA hn1).mono ?_
    rintro e w2 ⟨ga, ca, rfl, LA, hB⟩
    have SA := SA.below hB
    have SB := SB.below hB
    have NX := NX.below hB
    have NY := NY.below hB
    have LW := LW.trans (Below.mono hB LW.size)
    clear hB
    go_wp2_with fail
    refine (lent_any a2 n2 c2 ys _ SB hn2).mono ?_
    rintro e w3 ⟨gb, cb, rfl, LC, hB⟩
    have LA := LA.below hB
    have SA := SA.below hB
    have SB := SB.below hB
    have NX := NX.below hB
    have NY := NY.below hB
    have LW := LW.trans (Below.mono hB LW.size)
    clear hB
    by_cases hz : val 18446744073709551616 ys = 0
    · have NY0 := NY
      rw [hz] at NY0
      obtain ⟨ay, cy, rfl⟩ := NY0.zeroLen
      clear NY0
      go_wp2_with fail
      refine (div_zero _ _ _ xs _ _ _ ys _ LA.src LC.src l1 hz).mono ?_
      rintro e w9 ⟨rfl, hw⟩
      have hw2 := hw.symm
      subst hw2
      clear hw
      go_wp2_with fail
      refine (div_zero _ _ _ xs _ _ _ ys _ LA.src LC.src l1 hz).mono ?_
      rintro e w9 ⟨rfl, hw⟩
      have hw2 := hw.symm
      subst hw2
      clear hw
      go_wp2_with fail
      refine (own_bad 60 _ _ (by decide)).mono ?_
      rintro e w9 ⟨rfl, hw⟩
      have hw2 := hw.symm
      subst hw2
      clear hw
      go_wp2_with fail
      refine (own_bad 60 _ _ (by decide)).mono ?_
      rintro e w9 ⟨rfl, hw⟩
      have hw2 := hw.symm
      subst hw2
      clear hw
      go_wp2_with fail
      refine (kept_true _ _ _ _ _ _ xs _ LA SA hn1).mono ?_
      rintro e wk ⟨rfl, hD⟩
      have LA := LA.drew hD
      have LC := LC.drew hD
      have SA := (hD).src SA
      have SB := (hD).src SB
      have NX := NX.drew hD
      have NY := NY.drew hD
      have LW := (hD).below LW
      clear hD
      go_wp2_with fail
      refine (kept_true _ _ _ _ _ _ ys _ LC SB hn2).mono ?_
      rintro e wl ⟨rfl, hD⟩
      have LA := LA.drew hD
      have LC := LC.drew hD
      have SA := (hD).src SA
      have SB := (hD).src SB
      have NX := NX.drew hD
      have NY := NY.drew hD
      have LW := (hD).below LW
      clear hD
      go_wp2_with fail
      refine (names_true _).mono ?_
      rintro e w9 ⟨rfl, hw⟩
      have hw2 := hw.symm
      subst hw2
      clear hw
      go_wp2
      go_ret
      exact ⟨rfl, LW⟩
    · obtain ⟨ay, ny, cy, rfl, hny⟩ := NY.someLen hz
      have y0 := NY.nonneg.1
      go_wp2_with fail
      refine (refDiv_any _ _ _ _ _ _ _ NX NY (by omega) (by omega) (by omega)).mono ?_
      rintro e w4 ⟨vq, vr, q, r, rfl, NQ, NR, hqr, hr0, hr1, hB⟩
      have LA := LA.below hB
      have LC := LC.below hB
      have SA := SA.below hB
      have SB := SB.below hB
      have NX := NX.below hB
      have NY := NY.below hB
      have LW := LW.trans (Below.mono hB LW.size)
      clear hB
      have HQR := hide hqr
      clear hqr hny
      go_wp2_with fail
      refine (div_ok _ _ _ xs _ _ _ ys _ LA.src LC.src l1 l2 hz).mono ?_
      rintro e wa ⟨va, va2, qa, ra, rfl, Ga, Ga2, hna, Ta, Ta2, Va, Wa, Ba⟩
      have Va := hide Va
      go_wp2_with fail
      refine (div_ok _ _ _ xs _ _ _ ys _ (LA.below Ba).src (LC.below Ba).src l1 l2 hz).mono ?_
      rintro e wb ⟨vb, vb2, qb, rb, rfl, Gb, Gb2, hnb, Tb, Tb2, Vb, Wb, Bb⟩
      have Vb := hide Vb
      have Bab := Ba.trans (Below.mono Bb Ba.size)
      obtain ⟨u1, u2⟩ := div_unique _ _ _ _ _ _ Va.out HQR.out (val_nonneg (b := 18446744073709551616) (by decide) Ga2.dg) Wa hr0 hr1
      obtain ⟨u3, u4⟩ := div_unique _ _ _ _ _ _ Vb.out HQR.out (val_nonneg (b := 18446744073709551616) (by decide) Gb2.dg) Wb hr0 hr1
      obtain rfl : qa = qb := tr_inj (b := 18446744073709551616) (by decide) Ga.dg Gb.dg Ta Tb (by rw [u1, u3])
      obtain rfl : ra = rb := tr_inj (b := 18446744073709551616) (by decide) Ga2.dg Gb2.dg Ta2 Tb2 (by rw [u2, u4])
      have U1 := hide u1
      have U2 := hide u2
      have N1 := hide hna
      have N2 : Hid (va.ownBlock ≠ vb2.ownBlock) := GotG.apart Ga Gb2
      have N3 : Hid (va2.ownBlock ≠ vb2.ownBlock) := GotG.apart Ga2 Gb2
      have N4 : Hid (va.ownBlock ≠ vb.ownBlock) := GotG.apart Ga Gb
      clear u1 u2 u3 u4 hna hnb Va Vb Wa Wb
      go_wp2_with fail
      refine (own_ok _ _ va vb vq qa _ _ _ (Ga.below Bb) Gb N4.out (NQ.below Bab) (by omega) Ta U1.out).mono ?_
      rintro e wc ⟨rfl, Bc⟩
      have Babc := Bab.grown Bc Bab.size (fun k hk => Ga.row k hk)
      have Ga3 := (Ga2.below Bb).kept Bc (fun h => N1.out h.symm)
      have Gb3 := Gb2.kept Bc (fun h => N2.out h.symm)
      go_wp2_with fail
      refine (own_ok _ _ va2 vb2 vr ra _ _ _ Ga3 Gb3 N3.out (NR.below Babc) (by omega) Ta2 U2.out).mono ?_
      rintro e wd ⟨rfl, Bd⟩
      have hB := Babc.grown Bd Babc.size (fun k hk => Ga2.row k hk)
      clear Ga Ga2 Gb Gb2 Ga3 Gb3 Ta Ta2 Tb Tb2 Ba Bb Bab Bc Babc Bd NQ NR N1 N2 N3 N4
      have LA := LA.below hB
      have LC := LC.below hB
      have SA := SA.below hB
      have SB := SB.below hB
      have NX := NX.below hB
      have NY := NY.below hB
      have LW := LW.trans (Below.mono hB LW.size)
      clear hB
      go_wp2_with fail
      refine (kept_true _ _ _ _ _ _ xs _ LA SA hn1).mono ?_
      rintro e wk ⟨rfl, hD⟩
      have LA := LA.drew hD
      have LC := LC.drew hD
      have SA := (hD).src SA
      have SB := (hD).src SB
      have NX := NX.drew hD
      have NY := NY.drew hD
      have LW := (hD).below LW
      clear hD
      go_wp2_with fail
      refine (kept_true _ _ _ _ _ _ ys _ LC SB hn2).mono ?_
      rintro e wl ⟨rfl, hD⟩
      have LA := LA.drew hD
      have LC := LC.drew hD
      have SA := (hD).src SA
      have SB := (hD).src SB
      have NX := NX.drew hD
      have NY := NY.drew hD
      have LW := (hD).below LW
      clear hD
      go_wp2_with fail
      refine (names_true _).mono ?_
      rintro e w9 ⟨rfl, hw⟩
      have hw2 := hw.symm
      subst hw2
      clear hw
      go_wp2
      go_ret
      exact ⟨rfl, LW⟩

end Go.Proofs.Ytekhobmjjoegpaa
