/-
  mod's common and Inverse.
-/
import Derived.Test.YtobdpcmafjhnlaaMReck
namespace Go.Proofs.Ytobdpcmafjhnlaa
open Go.RowKit Go.IntWalk

theorem src_unique {κ : IntKind} {B : Int} {w : World} {ao : Option Addr} {n c : Nat} {xs ys : List Int} (h : SrcG κ B w ao n c xs) (k : SrcG κ B w ao n c ys) : xs = ys := by
  have h1 := h.hlen
  have k1 := k.hlen
  apply List.ext_getElem (by omega)
  intro i hi hj
  obtain ⟨b, o, he, e1⟩ := h.at i (by omega)
  obtain ⟨b', o', he', e2⟩ := k.at i (by omega)
  rw [he] at he'
  cases he'
  rw [e1] at e2
  simpa [List.getD, hi, hj] using e2

theorem NumT.unique {w : World} {v : Value} {x y : Int} {L L' : Nat} (h : NumT w v x L) (k : NumT w v y L') : x = y := by
  obtain ⟨ao, n, c, xs, he, hs, _, _, hv⟩ := h
  obtain ⟨ao', n', c', ys, he', hs', _, _, hv'⟩ := k
  subst he
  cases he'
  rw [← hv, ← hv', src_unique hs hs']

/-- How great a number in memory is, for a loop's measure. -/
noncomputable def numOf (w : World) (v : Value) : Nat := Classical.epsilon fun k : Nat => NumT w v (k : Int) 8

theorem numOf_eq {w : World} {v : Value} {x : Int} (h : NumT w v x 8) : numOf w v = x.toNat := by
  have h0 := h.nonneg.1
  have hx : NumT w v ((x.toNat : Nat) : Int) 8 := by rw [Int.toNat_of_nonneg h0]; exact h
  have h1 : NumT w v ((numOf w v : Nat) : Int) 8 := Classical.epsilon_spec (p := fun k : Nat => NumT w v (k : Int) 8) ⟨_, hx⟩
  have := h1.unique hx
  omega

theorem NumT.zeroLen {w : World} {v : Value} {L : Nat} (h : NumT w v 0 L) : ∃ ao c, v = .slice ao 0 c := by
  obtain ⟨ao, n, c, xs, he, hs, ht, _, hv⟩ := h
  have : xs = [] := tr_inj (b := 18446744073709551616) (by decide) hs.hdg (ys := []) (by intro x hx; simp at hx) ht (fun h => absurd rfl h) (by rw [hv]; rfl)
  subst this
  have := hs.hlen
  simp at this
  subst this
  exact ⟨ao, c, he⟩

theorem NumT.someLen {w : World} {v : Value} {x : Int} {L : Nat} (h : NumT w v x L) (hx : x ≠ 0) (hL : L ≤ 1000) : ∃ ao n c, v = .slice ao n c ∧ 0 < n ∧ n ≤ 1000 := by
  obtain ⟨ao, n, c, xs, he, hs, ht, hl, hv⟩ := h
  refine ⟨ao, n, c, he, ?_, by omega⟩
  have := hs.hlen
  rcases Nat.eq_zero_or_pos n with h | h
  · subst h
    obtain rfl : xs = [] := List.eq_nil_of_length_eq_zero this
    exact absurd hv.symm hx
  · exact h

theorem gcd_step (D R : Int) (hD : 0 ≤ D) (hR : 0 ≤ R) : Int.gcd R (D % R) = Int.gcd D R := by
  obtain ⟨d, rfl⟩ := Int.eq_ofNat_of_zero_le hD
  obtain ⟨r, rfl⟩ := Int.eq_ofNat_of_zero_le hR
  rw [show ((d : Int) % (r : Int)) = ((d % r : Nat) : Int) from rfl]
  show Nat.gcd r (d % r) = Nat.gcd d r
  rw [Nat.gcd_comm r, ← Nat.gcd_rec, Nat.gcd_comm]

/-- The step of Euclid's way. -/
theorem inv_step (a M F N D R : Int) (h1 : M ∣ a * F - D) (h2 : M ∣ a * N - R) : M ∣ a * ((F - ((D / R) * N) % M) % M) - D % R := by
  have e1 : D % R = D - R * (D / R) := Int.emod_def D R
  have k1 : M ∣ ((F - ((D / R) * N) % M) % M) - (F - (D / R) * N) := by
    rw [ms2]
    exact ⟨-((F - D / R * N) / M), by have := Int.mul_ediv_add_emod (F - D / R * N) M; rw [Int.mul_neg]; omega⟩
  have k2 : M ∣ a * ((F - ((D / R) * N) % M) % M - (F - (D / R) * N)) := Int.dvd_mul_of_dvd_right k1
  have k3 : M ∣ (D / R) * (a * N - R) := Int.dvd_mul_of_dvd_right h2
  have k4 := Int.dvd_sub (Int.dvd_add k2 h1) k3
  have e : a * ((F - ((D / R) * N) % M) % M - (F - (D / R) * N)) + (a * F - D) - (D / R) * (a * N - R) = a * ((F - ((D / R) * N) % M) % M) - D % R := by
    rw [e1]
    generalize (F - ((D / R) * N) % M) % M = G
    generalize D / R = q
    grind
  rw [e] at k4
  exact k4

set_option maxRecDepth 100000 in
set_option maxHeartbeats 2000000 in
theorem common_num (mv v1 : Value) (M a : Int) (w : World) (hm : ModU w mv M) (h1 : NumT w v1 a 8) :
    Calls Try.prog 49 #[mv, v1] w fun e w' => ∃ u1 u2 F, e = .returned (.tuple #[u1, u2]) ∧ NumT w' u1 (Int.gcd M a : Int) 8 ∧ NumT w' u2 F 8 ∧ F < M ∧ M ∣ a * F - (Int.gcd M a : Int) ∧ Below w.heap.size w w' := by
  have hM := hm.gt
  have B0 : Below w.heap.size w (w.alloc (.cells #[.int .u64 1] 52)) := (Below.refl _ _).alloc (Nat.le_refl _) _
  have hm0 := hm.below B0
  obtain ⟨g, s, rfl, hc, hs, _⟩ := hm
  have ND : Hid (NumT (w.alloc (.cells #[.int .u64 1] 52)) s M 8) := hs.alloc _
  have NR : Hid (NumT (w.alloc (.cells #[.int .u64 1] 52)) v1 a 8) := h1.alloc _
  have NN : Hid (NumT (w.alloc (.cells #[.int .u64 1] 52)) (.slice (some ⟨w.heap.size, 0, none⟩) 1 1) 1 8) := NumT.lit 1 _ _ rfl (by decide) (by decide) rfl 8 (by omega)
  have ha0 := h1.nonneg.1
  clear hs h1
  go_enter Try.func49, Try.ntmps49
  go_wp2
  go_loopw [4, 5, 6, 7] (fun dv fv rv nv wr => ∃ D F R N : Int, Hid (NumT wr dv D 8) ∧ Hid (NumT wr fv F 8) ∧ Hid (NumT wr rv R 8) ∧ Hid (NumT wr nv N 8) ∧ F < M ∧ N < M ∧ 0 < D ∧ Hid (Int.gcd D R = Int.gcd M a) ∧ Hid (M ∣ a * F - D) ∧ Hid (M ∣ a * N - R) ∧ Below w.heap.size w wr ∧ Hid (ModU wr (.pointer (some ⟨g, 0, none⟩)) M)) (fun _ _ rv _ wr => numOf wr rv)
  case atStart => exact ⟨M, 0, a, 1, ND, NumT.nil _ _, NR, NN, by omega, hM.1, by omega, rfl, by unfold Hid; rw [Int.mul_zero, Int.zero_sub]; exact Int.dvd_neg.2 (Int.dvd_refl M), by unfold Hid; rw [Int.mul_one, Int.sub_self]; exact Int.dvd_zero M, B0, hm0⟩
  case round =>
    clear ND NR NN B0 hm0 hc
    obtain ⟨D, F, R, N, ND, NF, NR, NN, hF, hN, hD, HG, H1, H2, LB, HM⟩ := hrel
    by_cases hR : R = 0
    · subst hR
      obtain ⟨ao, c, hrv⟩ := NR.out.zeroLen
      have hDG : D = (Int.gcd M a : Int) := by
        have := HG.out
        rw [Int.gcd_zero_right] at this
        omega
      subst hrv
      have HDG := hide hDG
      clear hDG
      go_wp2
      go_ret2
      exact ⟨_, _, F, rfl, by rw [← HDG.out]; exact ND.out, NF.out, hF, by rw [← HDG.out]; exact H1.out, LB⟩
    · have hR0 := NR.out.nonneg.1
      have hRp : 0 < R := by omega
      have hmeas := hide (numOf_eq NR.out)
      obtain ⟨ao, n, c, hrv, hn, hn2⟩ := NR.out.someLen hR (by omega)
      have hnI : (0 : Int) < (n : Int) := by omega
      have hD0 := NN.out.nonneg.1
      have HST := hide (inv_step a M F N D R H1.out H2.out)
      have H2N := hide H2.out
      have HGS := hide ((gcd_step D R (by omega) hR0).trans HG.out)
      have hL1 := Int.emod_lt_of_pos D hRp
      have hL0 := Int.emod_nonneg D hR
      subst hrv
      go_wp2_with fail
      refine (divT _ _ D R 8 8 _ ND.out.num NR.out.num (by omega) (by omega) hRp).mono ?_
      rintro e w2 ⟨vq, vl, rfl, NQ, NL, B2⟩
      have HM2 := HM.out.below B2
      have NN2 := NN.out.below B2
      have NF2 := NF.out.below B2
      have NR2 := NR.out.below B2
      have LB2 := LB.trans (B2.mono LB.size)
      go_wp2_with fail
      refine (times_num _ _ _ M _ _ _ HM2 NQ.num NN2.num).mono ?_
      rintro e w3 ⟨vt, rfl, NT, B3⟩
      have HM3 := HM2.below B3
      have NN3 := NN2.below B3
      have NF3 := NF2.below B3
      have NR3 := NR2.below B3
      have NL3 := NL.below B3
      have LB3 := LB2.trans (B3.mono LB2.size)
      go_wp2_with fail
      refine (minus_num _ _ _ M _ _ _ HM3 NF3.num NT.num hF (Int.emod_lt_of_pos _ (by omega))).mono ?_
      rintro e w4 ⟨vn, rfl, NW, B4⟩
      have HM4 := hide (HM3.below B4)
      have NN4 := hide (NN3.below B4)
      have NR4 := hide (NR3.below B4)
      have NL4 := hide (NL3.below B4)
      have NW4 := hide NW
      have LB4 := LB3.trans (B4.mono LB3.size)
      have hmeas2 := hide (numOf_eq NL4.out)
      have HLT : Hid (numOf w4 vl < numOf wr (.slice ao n c)) := by unfold Hid; rw [hmeas.out, hmeas2.out]; omega
      have HW : Hid ((F - D / R * N % M) % M < M) := Int.emod_lt_of_pos _ (by omega)
      clear NW HM HM2 HM3 NN NN2 NN3 NF NF2 NF3 NR NR2 NR3 NL NL3 NT NQ LB LB2 LB3 ND B2 B3 B4 hmeas hmeas2 H1 H2 HG
      go_wp2
      go_roundw
      case rel => exact ⟨R, N, D % R, _, NR4, NN4, NL4, NW4, hN, HW.out, hRp, HGS, H2N, HST, LB4, HM4⟩
      case measure => exact HLT.out

theorem inv_one (x F M : Int) (hM : 1 < M) (h : M ∣ x % M * F - 1) : (x * F) % M = 1 := by
  rw [← mm1, ← Int.emod_eq_of_lt (a := 1) (b := M) (by omega) hM]
  exact Int.emod_eq_emod_iff_emod_sub_eq_zero.2 (Int.emod_eq_zero_of_dvd h)

set_option maxRecDepth 100000 in
theorem inverse_long (mv v1 : Value) (M x : Int) (w : World) (hm : ModU w mv M) (h1 : Arg w v1 x 3) :
    Calls Try.prog 25 #[mv, v1] w fun e w' => e = .returned (.tuple #[.slice none 0 0, .int .i64 3]) ∧ Below w.heap.size w w' := by
  go_enter Try.func25, Try.ntmps25
  go_wp2_with fail
  refine (reduce_arg mv v1 M x 3 w hm h1).mono ?_
  rintro e w1 ⟨u1, rfl, A1, B1⟩
  go_wp2
  go_ret2
  exact ⟨rfl, B1⟩

set_option maxRecDepth 100000 in
theorem inverse_no (mv v1 : Value) (M x : Int) (w : World) (hm : ModU w mv M) (h1 : Arg w v1 x 0) (hg : Int.gcd M (x % M) ≠ 1) :
    Calls Try.prog 25 #[mv, v1] w fun e w' => e = .returned (.tuple #[.slice none 0 0, .int .i64 70]) ∧ Below w.heap.size w w' := by
  go_enter Try.func25, Try.ntmps25
  go_wp2_with fail
  refine (reduce_arg mv v1 M x 0 w hm h1).mono ?_
  rintro e w1 ⟨u1, rfl, A1, B1⟩
  rcases A1 with ⟨_, N1⟩ | ⟨h, _⟩
  · have hm1 := hm.below B1
    go_wp2_with fail
    refine (common_num mv u1 M (x % M) w1 hm1 N1).mono ?_
    rintro e w2 ⟨u2, u3, F, rfl, N2, N3, hF, hd, B2⟩
    have LB := B1.trans (B2.mono B1.size)
    have HI := isOne_num _ _ _ _ N2
    rw [show decide ((Int.gcd M (x % M) : Int) = 1) = false by (simp; omega)] at HI
    have HI := hide HI
    go_wp2_with fail
    refine HI.out.mono ?_
    rintro e wq ⟨rfl, hw⟩
    have hw2 := hw.symm
    subst hw2
    clear hw
    go_wp2
    go_ret2
    exact ⟨rfl, LB⟩
  · exact absurd rfl h

set_option maxRecDepth 100000 in
theorem inverse_ok (mv v1 : Value) (M x : Int) (w : World) (hm : ModU w mv M) (h1 : Arg w v1 x 0) (hg : Int.gcd M (x % M) = 1) :
    Calls Try.prog 25 #[mv, v1] w fun e w' => ∃ v F, e = .returned (.tuple #[v, .int .i64 0]) ∧ NumT w' v F 8 ∧ F < M ∧ (x * F) % M = 1 ∧ Below w.heap.size w w' := by
  have hM := hm.gt.1
  go_enter Try.func25, Try.ntmps25
  go_wp2_with fail
  refine (reduce_arg mv v1 M x 0 w hm h1).mono ?_
  rintro e w1 ⟨u1, rfl, A1, B1⟩
  rcases A1 with ⟨_, N1⟩ | ⟨h, _⟩
  · have hm1 := hm.below B1
    go_wp2_with fail
    refine (common_num mv u1 M (x % M) w1 hm1 N1).mono ?_
    rintro e w2 ⟨u2, u3, F, rfl, N2, N3, hF, hd, B2⟩
    have LB := B1.trans (B2.mono B1.size)
    have HI := isOne_num _ _ _ _ N2
    rw [show decide ((Int.gcd M (x % M) : Int) = 1) = true by simp [hg]] at HI
    have HI := hide HI
    go_wp2_with fail
    refine HI.out.mono ?_
    rintro e wq ⟨rfl, hw⟩
    have hw2 := hw.symm
    subst hw2
    clear hw
    go_wp2
    go_ret2
    exact ⟨_, F, rfl, N3, hF, inv_one x F M hM (by rw [hg] at hd; exact hd), LB⟩
  · exact absurd rfl h

end Go.Proofs.Ytobdpcmafjhnlaa
