/-
  The document's Divisor.
-/
import Derived.Test.YtobdpcmafjhnlaaMInv
import Derived.Test.YtobdpcmafjhnlaaMRefExp
namespace Go.Proofs.Ytobdpcmafjhnlaa
open Go.RowKit Go.IntWalk

theorem NumD.unique {w : World} {v : Value} {x y : Int} {L L' : Nat} (h : NumD w v x L) (k : NumD w v y L') : x = y := by
  obtain ⟨ao, n, c, xs, he, hs, _, _, hv⟩ := h
  obtain ⟨ao', n', c', ys, he', hs', _, _, hv'⟩ := k
  subst he
  cases he'
  rw [← hv, ← hv', src_unique hs hs']

noncomputable def numOfD (w : World) (v : Value) : Nat := Classical.epsilon fun k : Nat => NumD w v (k : Int) 32

theorem numOfD_eq {w : World} {v : Value} {x : Int} (h : NumD w v x 32) : numOfD w v = x.toNat := by
  have h0 := h.nonneg.1
  have hx : NumD w v ((x.toNat : Nat) : Int) 32 := by rw [Int.toNat_of_nonneg h0]; exact h
  have h1 : NumD w v ((numOfD w v : Nat) : Int) 32 := Classical.epsilon_spec (p := fun k : Nat => NumD w v (k : Int) 32) ⟨_, hx⟩
  have := h1.unique hx
  omega

theorem NumD.zeroLen7 {w : World} {v : Value} {L : Nat} (h : NumD w v 0 L) : ∃ ao c, v = .slice ao 0 c := by
  obtain ⟨ao, n, c, xs, he, hs, ht, _, hv⟩ := h
  have : xs = [] := tr_inj (b := 65536) (by decide) hs.hdg (ys := []) (by intro x hx; simp at hx) ht (fun h => absurd rfl h) (by rw [hv]; rfl)
  subst this
  have := hs.hlen
  simp at this
  subst this
  exact ⟨ao, c, he⟩

theorem NumD.someLen7 {w : World} {v : Value} {x : Int} {L : Nat} (h : NumD w v x L) (hx : x ≠ 0) (hL : L ≤ 1000) : ∃ ao n c, v = .slice ao n c ∧ 0 < n ∧ n ≤ 1000 := by
  obtain ⟨ao, n, c, xs, he, hs, ht, hl, hv⟩ := h
  refine ⟨ao, n, c, he, ?_, by omega⟩
  have := hs.hlen
  rcases Nat.eq_zero_or_pos n with h | h
  · subst h
    obtain rfl : xs = [] := List.eq_nil_of_length_eq_zero this
    exact absurd hv.symm hx
  · exact h

set_option maxRecDepth 100000 in
set_option maxHeartbeats 2000000 in
theorem refDivisor (v1 v2 : Value) (M a : Int) (w : World) (k1 : NumD w v1 M 32) (k2 : NumD w v2 a 32) (hM : 0 < M) :
    Calls Try.prog 26 #[v1, v2] w fun e w' => ∃ v, e = .returned v ∧ NumD w' v (Int.gcd M a : Int) 32 ∧ Below w.heap.size w w' := by
  have N1 := hide k1
  have N2 := hide k2
  clear k1 k2
  go_enter Try.func26, Try.ntmps26
  go_wp2
  go_loopw [0, 1] (fun dv rv wr => ∃ D R : Int, Hid (NumD wr dv D 32) ∧ Hid (NumD wr rv R 32) ∧ 0 < D ∧ Hid (Int.gcd D R = Int.gcd M a) ∧ Below w.heap.size w wr) (fun _ rv wr => numOfD wr rv)
  case atStart => exact ⟨M, a, N1, N2, hM, rfl, Below.refl _ _⟩
  case round =>
    clear N1 N2
    obtain ⟨D, R, ND, NR, hD, HG, LB⟩ := hrel
    by_cases hR : R = 0
    · subst hR
      obtain ⟨ao, c, hrv⟩ := NR.out.zeroLen7
      have hDG : D = (Int.gcd M a : Int) := by
        have := HG.out
        rw [Int.gcd_zero_right] at this
        omega
      subst hrv
      have HDG := hide hDG
      clear hDG
      go_wp2
      go_ret
      exact ⟨_, rfl, by rw [← HDG.out]; exact ND.out, LB⟩
    · have hR0 := NR.out.nonneg.1
      have hRp : 0 < R := by omega
      have hmeas := hide (numOfD_eq NR.out)
      obtain ⟨ao, n, c, hrv, hn, hn2⟩ := NR.out.someLen7 hR (by omega)
      have hnI : (0 : Int) < (n : Int) := by omega
      have HGS := hide ((gcd_step D R (by omega) hR0).trans HG.out)
      subst hrv
      go_wp2_with fail
      refine (refDiv_any _ _ D R 32 32 _ ND.out NR.out (by omega) (by omega) hRp).mono ?_
      rintro e w2 ⟨vq, vl, q, r, rfl, _, NL, hx, r0, r1, B2⟩
      have hr : D % R = r := ((Int.ediv_emod_unique hRp).2 ⟨show r + R * q = D by omega, r0, r1⟩).2
      rw [hr] at HGS
      have NR2 := hide (NR.out.below B2)
      have NL2 := hide NL
      have LB2 := LB.trans (B2.mono LB.size)
      have HLT : Hid (numOfD w2 vl < numOfD wr (.slice ao n c)) := by unfold Hid; rw [hmeas.out, numOfD_eq NL]; omega
      clear NL NR ND LB B2 hmeas HG hr hx
      go_wp2
      go_roundw
      case rel => exact ⟨R, r, NR2, NL2, hRp, HGS, LB2⟩
      case measure => exact HLT.out

end Go.Proofs.Ytobdpcmafjhnlaa
