/-
  The document's May, mod.New refused or not, and the statements' made.
-/
import Derived.Test.YtobdpcmafjhnlaaMRef
namespace Go.Proofs.Ytobdpcmafjhnlaa
open Go.RowKit Go.IntWalk

/-- What is wrong with limbs as a modulus: 3: too long; 2: even, or 1; 0: nothing. -/
def mayE (xs : List Int) : Int := if 8 < (trm xs).length then 3 else if val 18446744073709551616 xs % 2 = 0 ∨ val 18446744073709551616 xs = 1 then 2 else 0

theorem mayE_cases (xs : List Int) : (mayE xs = 3 ∧ 8 < (trm xs).length) ∨ (mayE xs = 2 ∧ (trm xs).length ≤ 8 ∧ (val 18446744073709551616 xs % 2 = 0 ∨ val 18446744073709551616 xs = 1)) ∨ (mayE xs = 0 ∧ (trm xs).length ≤ 8 ∧ val 18446744073709551616 xs % 2 = 1 ∧ val 18446744073709551616 xs ≠ 1) := by
  unfold mayE
  split
  · exact .inl ⟨rfl, by assumption⟩
  · split
    · exact .inr (.inl ⟨rfl, by omega, by assumption⟩)
    · exact .inr (.inr ⟨rfl, by omega, by omega, by omega⟩)

theorem new_arg (ao : Option Addr) (n c : Nat) (xs : List Int) (w : World) (hs : SrcG .u64 18446744073709551616 w ao n c xs) :
    Calls Try.prog 30 #[.slice ao n c] w fun e w' => ∃ v, e = .returned (.tuple #[v, .int .i64 (mayE xs)]) ∧ (mayE xs = 0 → ModO w' w.heap.size v (val 18446744073709551616 xs)) ∧ (mayE xs ≠ 0 → v = .pointer none) ∧ Below w.heap.size w w' := by
  rcases mayE_cases xs with ⟨h, h1⟩ | ⟨h, h1, h2⟩ | ⟨h, h1, h2, h3⟩
  · rw [h]
    refine (new_long ao n c xs w hs h1).mono ?_
    rintro e w1 ⟨rfl, hw⟩
    subst hw
    exact ⟨_, rfl, fun h => absurd h (by decide), fun _ => rfl, Below.refl _ _⟩
  · rw [h]
    refine (new_bad ao n c xs w hs h1 h2).mono ?_
    rintro e w1 ⟨rfl, hw⟩
    subst hw
    exact ⟨_, rfl, fun h => absurd h (by decide), fun _ => rfl, Below.refl _ _⟩
  · rw [h]
    refine (new_ok ao n c xs w hs h1 h2 h3).mono ?_
    rintro e w1 ⟨v, rfl, HO, hB⟩
    exact ⟨v, rfl, fun _ => HO, fun h => absurd rfl h, hB⟩

theorem dig0_mod2 (d : Int) (r : List Int) : val 65536 (d :: r) % 2 = d % 2 := by
  rw [val]
  generalize val 65536 r = q
  omega

set_option maxRecDepth 100000 in
set_option maxHeartbeats 1000000 in
theorem may_arg (ao : Option Addr) (n c : Nat) (xs : List Int) (w : World) (hs : SrcG .u64 18446744073709551616 w ao n c xs) :
    Calls Try.prog 34 #[.slice ao n c] w fun e w' => ∃ u, e = .returned (.tuple #[u, .int .i64 (mayE xs)]) ∧ (mayE xs = 0 → NumDB w' w.heap.size u (val 18446744073709551616 xs) 32) ∧ Below w.heap.size w w' := by
  by_cases hl : 64 < (trm xs).length
  · rcases mayE_cases xs with ⟨h, h1⟩ | ⟨h, h1, h2⟩ | ⟨h, h1, h2, h3⟩
    · rw [h]
      have HC := hide (of_long ao n c xs w hs hl)
      clear h h1 hl
      go_enter Try.func34, Try.ntmps34
      go_wp2_with fail
      refine HC.out.mono ?_
      rintro e w1 ⟨rfl, hw⟩
      have hw2 := hw.symm
      subst hw2
      clear hw
      go_wp2
      go_ret2
      exact ⟨_, rfl, fun h => absurd h (by decide), Below.refl _ _⟩
    · omega
    · omega
  · have HC := hide (of_at ao n c xs w hs (by omega))
    have HD := hide hs.hdg
    have HE := hide (mayE_cases xs)
    generalize mayE xs = E at HE ⊢
    go_enter Try.func34, Try.ntmps34
    go_wp2_with fail
    refine HC.out.mono ?_
    rintro e w1 ⟨v, rfl, N, hB⟩
    rcases HE.out with ⟨rfl, h1⟩ | ⟨rfl, h1, h2⟩ | ⟨rfl, h1, h2, h3⟩
    · have HS := hide (refBits_any v (val 18446744073709551616 xs) 256 w1 N.num (by omega))
      have HL2 : Hid (∀ S : Nat, BL (val 18446744073709551616 xs) S → 512 < (S : Int)) := by
        unfold Hid
        intro S hS
        have := bl_limbs HD.out hS
        split at this <;> omega
      go_wp2_with fail
      refine HS.out.mono ?_
      rintro e w2 ⟨S, rfl, hS, hw⟩
      have hw2 := hw.symm
      subst hw2
      clear hw
      have k1 := HL2.out S hS
      clear hS HL2 HS
      obtain ⟨I, hI⟩ : ∃ I : Int, (S : Int) = I := ⟨_, rfl⟩
      rw [hI] at k1 ⊢
      clear hI
      go_wp2
      go_ret2
      exact ⟨_, rfl, fun h => absurd h (by decide), hB⟩
    · have HS := hide (refBits_any v (val 18446744073709551616 xs) 256 w1 N.num (by omega))
      have HL2 : Hid (∀ S : Nat, BL (val 18446744073709551616 xs) S → ¬ 512 < (S : Int)) := by
        unfold Hid
        intro S hS
        have := bl_limbs HD.out hS
        split at this <;> omega
      go_wp2_with fail
      refine HS.out.mono ?_
      rintro e w2 ⟨S, rfl, hS, hw⟩
      have hw2 := hw.symm
      subst hw2
      clear hw
      have k1 := HL2.out S hS
      clear hS HL2 HS
      obtain ⟨I, hI⟩ : ∃ I : Int, (S : Int) = I := ⟨_, rfl⟩
      rw [hI] at k1 ⊢
      clear hI
      clear h1 hl HC HE HD hs
      obtain ⟨a1, n1, c1, ds, rfl, s1, t1, m1, v1, _⟩ := N
      have z1 := s1.hlen
      have q1 := s1.lenI.1
      rw [← v1] at h2
      cases ds with
      | nil =>
        simp at z1
        subst z1
        go_wp2
        go_ret2
        exact ⟨_, rfl, fun h => absurd h (by decide), hB⟩
      | cons d r =>
        rw [dig0_mod2] at h2
        have hd := s1.hdg d (by simp)
        obtain ⟨b, o, rfl, e1⟩ := s1.at 0 (by simp at z1; omega)
        have e1 : w1.cell? ⟨b, o, none⟩ = some (.int .i64 d) := by simpa using e1
        have hn1 : 0 < n1 := by simp at z1; omega
        have hn2 : ¬ (n1 : Int) = 0 := by omega
        have hn3 : (0 : Int) < (n1 : Int) := by omega
        by_cases hev : d % 2 = 0
        · have tm : Int.tmod d 2 = 0 := by rw [Int.tmod_eq_emod_of_nonneg hd.1]; exact hev
          clear s1 t1 m1 v1 z1 h2
          go_wp2
          go_ret2
          exact ⟨_, rfl, fun h => absurd h (by decide), hB⟩
        · have hv1 : val 65536 (d :: r) = 1 := by omega
          have hone : d :: r = [1] := tr_inj (b := 65536) (by decide) s1.hdg (by intro x hx; simp at hx; omega) t1 (by intro _; decide) (by rw [hv1]; decide)
          simp at hone
          obtain ⟨rfl, rfl⟩ := hone
          simp at z1
          subst z1
          clear s1 t1 m1 v1 h2 hv1 hn2 hn3
          go_wp2
          go_ret2
          exact ⟨_, rfl, fun h => absurd h (by decide), hB⟩
    · have HS := hide (refBits_any v (val 18446744073709551616 xs) 256 w1 N.num (by omega))
      have HL2 : Hid (∀ S : Nat, BL (val 18446744073709551616 xs) S → ¬ 512 < (S : Int)) := by
        unfold Hid
        intro S hS
        have := bl_limbs HD.out hS
        split at this <;> omega
      go_wp2_with fail
      refine HS.out.mono ?_
      rintro e w2 ⟨S, rfl, hS, hw⟩
      have hw2 := hw.symm
      subst hw2
      clear hw
      have k1 := HL2.out S hS
      clear hS HL2 HS
      obtain ⟨I, hI⟩ : ∃ I : Int, (S : Int) = I := ⟨_, rfl⟩
      rw [hI] at k1 ⊢
      clear hI
      have N2 : Hid (NumDB w1 w.heap.size v (val 18446744073709551616 xs) 32) := by
        unfold Hid
        obtain ⟨a1, n1, c1, ds, he, s1, t1, m1, v1, hk⟩ := N
        have hlt := val_lt (b := 18446744073709551616) (by decide) (trm_dg HD.out)
        rw [trm_val] at hlt
        have h9 := pw_mono (b := 18446744073709551616) (by decide) _ _ h1
        have e32 : pw 65536 32 = pw 18446744073709551616 8 := pw_four 8
        have := tr_len_le (b := 65536) (by decide) s1.hdg t1 32 (by rw [v1, e32]; exact Int.lt_of_lt_of_le hlt h9)
        rw [s1.hlen] at this
        exact ⟨a1, n1, c1, ds, he, s1, t1, this, v1, hk⟩
      clear h1 hl HC HE HD hs
      obtain ⟨a1, n1, c1, ds, rfl, s1, t1, m1, v1, _⟩ := N
      have z1 := s1.hlen
      have q1 := s1.lenI.1
      rw [← v1] at h2 h3
      cases ds with
      | nil => simp [val] at h2
      | cons d r =>
        rw [dig0_mod2] at h2
        have hd := s1.hdg d (by simp)
        obtain ⟨b, o, rfl, e1⟩ := s1.at 0 (by simp at z1; omega)
        have e1 : w1.cell? ⟨b, o, none⟩ = some (.int .i64 d) := by simpa using e1
        have hn1 : 0 < n1 := by simp at z1; omega
        have hn2 : ¬ (n1 : Int) = 0 := by omega
        have hn3 : (0 : Int) < (n1 : Int) := by omega
        have tm : Int.tmod d 2 = 1 := by rw [Int.tmod_eq_emod_of_nonneg hd.1]; exact h2
        by_cases h11 : n1 = 1
        · have hd1 : d ≠ 1 := by
            intro h
            subst h11
            simp at z1
            subst z1
            simp [val] at h3
            omega
          have hdb : (d == 1) = false := by simpa using hd1
          have h11I : (n1 : Int) = 1 := by omega
          clear s1 t1 m1 v1 z1 h2 h3
          subst h11
          go_wp2
          go_ret2
          exact ⟨_, rfl, by first | exact N2.out | exact fun _ => N2.out, hB⟩
        · have h11I : ¬ (n1 : Int) = 1 := by omega
          clear s1 t1 m1 v1 z1 h2 h3
          go_wp2
          go_ret2
          exact ⟨_, rfl, by first | exact N2.out | exact fun _ => N2.out, hB⟩

set_option maxRecDepth 100000 in
set_option maxHeartbeats 2000000 in
theorem made_arg (ao : Option Addr) (n c : Nat) (xs : List Int) (w : World) (hs : SrcG .u64 18446744073709551616 w ao n c xs) (hn : n ≤ 17592186043904) :
    Calls Try.prog 9 #[.slice ao n c] w fun e w' => (e = .returned (.tuple #[.pointer none, .slice none 0 0, .bool true]) ∧ Below w.heap.size w w') ∨
      ∃ mv nv M, e = .returned (.tuple #[mv, nv, .bool true]) ∧ ModU w' mv M ∧ NumD w' nv M 32 ∧ Below w.heap.size w w' := by
  rcases mayE_cases xs with ⟨hE, _⟩ | ⟨hE, _, _⟩ | ⟨hE, _, _, _⟩
  · have HLT := hide (lent7 ao n c xs w hs hn)
    have HE := hide hE
    go_enter Try.func9, Try.ntmps9
    go_wp2_with fail
    refine HLT.out.mono ?_
    rintro e w1 ⟨g, ci, rfl, LT, B1⟩
    have HN := new_arg _ n ci xs w1 LT.src
    have HY := may_arg ao n c xs
    rw [HE.out] at HN HY
    have HN := hide HN
    have HY := hide HY
    go_wp2_with fail
    refine HN.out.mono ?_
    rintro e w2 ⟨mv, rfl, HO, HP, B2⟩
    have LT2 := LT.below B2
    have LB := B1.trans (B2.mono B1.size)
    have HG : Hid (g < w1.heap.size ∧ w.heap.size ≤ g) := ⟨(LT.own.lt g rfl).2, (LT.own.lt g rfl).1⟩
    go_wp2_with fail
    refine (HY.out w2 (hs.below LB)).mono ?_
    rintro e w3 ⟨uv, rfl, HU, B3⟩
    have LT3 := LT2.below B3
    have LB3 := LB.trans (B3.mono LB.size)
    have hP := HP (by decide)
    subst hP
    clear HO HP HU
    go_wp2_with fail
    refine (kept7 _ _ _ _ _ _ xs _ LT3 (hs.below LB3) hn).mono ?_
    rintro e w4 ⟨rfl, hD⟩
    have LT4 := hide (LT3.drew hD)
    have LB4 := hD.below LB3
    go_wp2_with fail
    refine (names7 _).mono ?_
    rintro e wq ⟨rfl, hw⟩
    have hw2 := hw.symm
    subst hw2
    clear hw
    have hnI : (n : Int) ≤ 17592186043904 := by omega
    clear LT LT2 LT3 hD B1 B2 B3 LB LB3 HLT HN HY hs
    go_wp2
    go_loopw [10] (fun i wr => ∃ (k : Nat) (zs : List Int), k ≤ n ∧ i = .int .i64 k ∧ Hid (OwnG .u64 52 wr w.heap.size (.slice (some ⟨g, 0, none⟩) (n + 1) ci) zs) ∧ w4.grownBy wr (some g)) (fun i _ => n - (intOf i).toNat)
    case atStart => exact ⟨0, _, Nat.zero_le _, rfl, LT4.out.own, World.grownBy.refl _ _⟩
    case round =>
      obtain ⟨k, zs, hk, rfl, HOW, hg⟩ := hrel
      by_cases hkn : k < n
      · have hkI : (k : Int) < (n : Int) := by omega
        have hzl : zs.length = n + 1 := HOW.out.eqlen.symm
        have hcell := HOW.out.cell k (by omega)
        have hfz := HOW.out.frozen k
        have hst := HOW.out.stored k 5
        generalize zs.getD k 0 = z at hcell
        have HST := hide hst
        clear hst hzl
        go_wp2
        go_roundw
        case rel => exact ⟨k + 1, zs.set k 5, by omega, by go_num, HST.out.1, gTrans hg HST.out.2⟩
        case measure => simp [intOf] <;> omega
      · have hkI : ¬ (k : Int) < (n : Int) := by omega
        go_wp2
        go_ret3
        exact .inl ⟨rfl, LB4.grown hg LB4.size (by intro q hq; cases hq; exact HG.out.2)⟩
  · have HLT := hide (lent7 ao n c xs w hs hn)
    have HE := hide hE
    go_enter Try.func9, Try.ntmps9
    go_wp2_with fail
    refine HLT.out.mono ?_
    rintro e w1 ⟨g, ci, rfl, LT, B1⟩
    have HN := new_arg _ n ci xs w1 LT.src
    have HY := may_arg ao n c xs
    rw [HE.out] at HN HY
    have HN := hide HN
    have HY := hide HY
    go_wp2_with fail
    refine HN.out.mono ?_
    rintro e w2 ⟨mv, rfl, HO, HP, B2⟩
    have LT2 := LT.below B2
    have LB := B1.trans (B2.mono B1.size)
    have HG : Hid (g < w1.heap.size ∧ w.heap.size ≤ g) := ⟨(LT.own.lt g rfl).2, (LT.own.lt g rfl).1⟩
    go_wp2_with fail
    refine (HY.out w2 (hs.below LB)).mono ?_
    rintro e w3 ⟨uv, rfl, HU, B3⟩
    have LT3 := LT2.below B3
    have LB3 := LB.trans (B3.mono LB.size)
    have hP := HP (by decide)
    subst hP
    clear HO HP HU
    go_wp2_with fail
    refine (kept7 _ _ _ _ _ _ xs _ LT3 (hs.below LB3) hn).mono ?_
    rintro e w4 ⟨rfl, hD⟩
    have LT4 := hide (LT3.drew hD)
    have LB4 := hD.below LB3
    go_wp2_with fail
    refine (names7 _).mono ?_
    rintro e wq ⟨rfl, hw⟩
    have hw2 := hw.symm
    subst hw2
    clear hw
    have hnI : (n : Int) ≤ 17592186043904 := by omega
    clear LT LT2 LT3 hD B1 B2 B3 LB LB3 HLT HN HY hs
    go_wp2
    go_loopw [10] (fun i wr => ∃ (k : Nat) (zs : List Int), k ≤ n ∧ i = .int .i64 k ∧ Hid (OwnG .u64 52 wr w.heap.size (.slice (some ⟨g, 0, none⟩) (n + 1) ci) zs) ∧ w4.grownBy wr (some g)) (fun i _ => n - (intOf i).toNat)
    case atStart => exact ⟨0, _, Nat.zero_le _, rfl, LT4.out.own, World.grownBy.refl _ _⟩
    case round =>
      obtain ⟨k, zs, hk, rfl, HOW, hg⟩ := hrel
      by_cases hkn : k < n
      · have hkI : (k : Int) < (n : Int) := by omega
        have hzl : zs.length = n + 1 := HOW.out.eqlen.symm
        have hcell := HOW.out.cell k (by omega)
        have hfz := HOW.out.frozen k
        have hst := HOW.out.stored k 5
        generalize zs.getD k 0 = z at hcell
        have HST := hide hst
        clear hst hzl
        go_wp2
        go_roundw
        case rel => exact ⟨k + 1, zs.set k 5, by omega, by go_num, HST.out.1, gTrans hg HST.out.2⟩
        case measure => simp [intOf] <;> omega
      · have hkI : ¬ (k : Int) < (n : Int) := by omega
        go_wp2
        go_ret3
        exact .inl ⟨rfl, LB4.grown hg LB4.size (by intro q hq; cases hq; exact HG.out.2)⟩
  · have HLT := hide (lent7 ao n c xs w hs hn)
    have HE := hide hE
    go_enter Try.func9, Try.ntmps9
    go_wp2_with fail
    refine HLT.out.mono ?_
    rintro e w1 ⟨g, ci, rfl, LT, B1⟩
    have HN := new_arg _ n ci xs w1 LT.src
    have HY := may_arg ao n c xs
    rw [HE.out] at HN HY
    have HN := hide HN
    have HY := hide HY
    go_wp2_with fail
    refine HN.out.mono ?_
    rintro e w2 ⟨mv, rfl, HO, HP, B2⟩
    have LT2 := LT.below B2
    have LB := B1.trans (B2.mono B1.size)
    have HG : Hid (g < w1.heap.size ∧ w.heap.size ≤ g) := ⟨(LT.own.lt g rfl).2, (LT.own.lt g rfl).1⟩
    go_wp2_with fail
    refine (HY.out w2 (hs.below LB)).mono ?_
    rintro e w3 ⟨uv, rfl, HU, B3⟩
    have LT3 := LT2.below B3
    have LB3 := LB.trans (B3.mono LB.size)
    have hO := hide (HO (by first | rfl | trivial))
    have hU := hide (HU (by first | rfl | trivial))
    clear HO HP HU
    obtain ⟨gm, hmv⟩ : ∃ gm, mv = .pointer (some ⟨gm, 0, none⟩) := by obtain ⟨gm, _, _, _, _, h, _⟩ := hO.out; exact ⟨gm, h⟩
    subst hmv
    go_wp2_with fail
    refine (kept7 _ _ _ _ _ _ xs _ LT3 (hs.below LB3) hn).mono ?_
    rintro e w4 ⟨rfl, hD⟩
    have LT4 := hide (LT3.drew hD)
    have LB4 := hD.below LB3
    have HO4 : Hid (ModO w4 w1.heap.size (.pointer (some ⟨gm, 0, none⟩)) (val 18446744073709551616 xs)) := (hO.out.below B3).below (hD.toBelow _)
    have HU4 : Hid (NumDB w4 w2.heap.size uv (val 18446744073709551616 xs) 32) := hU.out.below (hD.toBelow _)
    have HS2 : Hid (w1.heap.size ≤ w2.heap.size) := B2.size
    go_wp2_with fail
    refine (names7 _).mono ?_
    rintro e wq ⟨rfl, hw⟩
    have hw2 := hw.symm
    subst hw2
    clear hw
    have hnI : (n : Int) ≤ 17592186043904 := by omega
    clear LT LT2 LT3 hD B1 B2 B3 LB LB3 HLT HN HY hs hO hU
    go_wp2
    go_loopw [10] (fun i wr => ∃ (k : Nat) (zs : List Int), k ≤ n ∧ i = .int .i64 k ∧ Hid (OwnG .u64 52 wr w.heap.size (.slice (some ⟨g, 0, none⟩) (n + 1) ci) zs) ∧ w4.grownBy wr (some g)) (fun i _ => n - (intOf i).toNat)
    case atStart => exact ⟨0, _, Nat.zero_le _, rfl, LT4.out.own, World.grownBy.refl _ _⟩
    case round =>
      obtain ⟨k, zs, hk, rfl, HOW, hg⟩ := hrel
      by_cases hkn : k < n
      · have hkI : (k : Int) < (n : Int) := by omega
        have hzl : zs.length = n + 1 := HOW.out.eqlen.symm
        have hcell := HOW.out.cell k (by omega)
        have hfz := HOW.out.frozen k
        have hst := HOW.out.stored k 5
        generalize zs.getD k 0 = z at hcell
        have HST := hide hst
        clear hst hzl
        go_wp2
        go_roundw
        case rel => exact ⟨k + 1, zs.set k 5, by omega, by go_num, HST.out.1, gTrans hg HST.out.2⟩
        case measure => simp [intOf] <;> omega
      · have hkI : ¬ (k : Int) < (n : Int) := by omega
        have HO5 := HO4.out.kept hg HG.out.1
        have HU5 := HU4.out.kept hg (by have := HS2.out; have := HG.out; omega)
        have LB5 := LB4.grown hg LB4.size (by intro q hq; cases hq; exact HG.out.2)
        clear HO4 HU4 LT4 LB4 HOW hg
        go_wp2_with fail
        refine (modulus_num _ _ _ HO5.mod).mono ?_
        rintro e w6 ⟨gx, nx, cx, ys, rfl, ho, hd, ht, hn8, hn0, hv, B6⟩
        have HO6 := HO5.below B6
        have HU6 := HU5.below B6
        have LB6 := LB5.trans (B6.mono LB5.size)
        have sx := ho.toSrc hd
        go_wp2_with fail
        refine (is_ok _ uv (val 18446744073709551616 xs) 8 32 w6 ⟨_, _, _, ys, rfl, sx, ht, hn8, hv⟩ HU6.num (by omega)).mono ?_
        rintro e w7 ⟨rfl, B7⟩
        have HO7 := HO6.below B7
        have HU7 := HU6.below B7
        have LB7 := LB6.trans (B7.mono LB6.size)
        have ho7 := ho.belowA B7
        have hyl : Hid (ys.length = nx) := ho.eqlen.symm
        have hc0 := ho7.cell 0 (by rw [hyl.out]; exact hn0)
        have hf0 := ho7.frozen 0
        have hst := ho7.stored 0 4
        have HGX : Hid (wr.heap.size ≤ gx) := (ho.lt gx rfl).1
        generalize ys.getD 0 0 = y0 at hc0
        have B67 := B6.trans (B7.mono B6.size)
        have B8 : Below wr.heap.size wr (w7.setCell ⟨gx, 0, none⟩ (.int .u64 4)) := B67.grown hst.2 B67.size (by intro k hk; cases hk; exact HGX.out)
        have HO8 := HO5.below B8
        have HU8 := HU5.below B8
        have LB8 := LB5.trans (B8.mono LB5.size)
        have hn0I : (0 : Int) < (nx : Int) := by omega
        clear HO5 HO6 HO7 HU5 HU6 HU7 LB5 LB6 LB7 B6 B7 B67 B8 ho ho7 hst sx ht hd hv hkI
        go_wp2_with fail
        refine (modulus_num _ _ _ HO8.mod).mono ?_
        rintro e w9 ⟨gz, nz, cz, zs', rfl, ho9, hd9, ht9, hn9, hm9, hv9, B9⟩
        have HO9 := HO8.below B9
        have HU9 := HU8.below B9
        have LB9 := LB8.trans (B9.mono LB8.size)
        have sz := ho9.toSrc hd9
        go_wp2_with fail
        refine (is_ok _ uv (val 18446744073709551616 xs) 8 32 w9 ⟨_, _, _, zs', rfl, sz, ht9, hn9, hv9⟩ HU9.num (by omega)).mono ?_
        rintro e w10 ⟨rfl, B10⟩
        have HO10 := HO9.below B10
        have HU10 := HU9.below B10
        have LB10 := LB9.trans (B10.mono LB9.size)
        clear HO8 HO9 HU8 HU9 LB8 LB9 B9 B10 ho9 hd9 ht9 hv9 sz
        go_wp2
        go_ret3
        exact .inr ⟨_, _, _, rfl, HO10.mod, HU10.num, LB10⟩

end Go.Proofs.Ytobdpcmafjhnlaa
