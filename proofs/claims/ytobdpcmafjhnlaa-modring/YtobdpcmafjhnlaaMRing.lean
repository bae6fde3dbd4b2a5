/-
  ModRing answers true at any modulus and any two numbers, and writes nothing that was there.
-/
import Derived.Test.YtobdpcmafjhnlaaMLaw
namespace Go.Proofs.Ytobdpcmafjhnlaa
open Go.RowKit Go.IntWalk

theorem ringUW (x y M : Int) : ((x * y) % M * ((x + y) % M)) % M = ((x * ((x + y) % M)) % M * y) % M := by
  rw [mm1, mm2, mm1, Int.mul_assoc x ((x + y) % M) y, Int.mul_comm ((x + y) % M) y, ← Int.mul_assoc, mm2]

set_option maxRecDepth 100000 in
set_option maxHeartbeats 4000000 in
theorem mring_walk (a1 : Option Addr) (n1 c1 : Nat) (xs : List Int) (a2 : Option Addr) (n2 c2 : Nat) (ys : List Int) (a3 : Option Addr) (n3 c3 : Nat) (zs : List Int) (w : World) (h1 : SrcG .u64 18446744073709551616 w a1 n1 c1 xs) (h2 : SrcG .u64 18446744073709551616 w a2 n2 c2 ys) (h3 : SrcG .u64 18446744073709551616 w a3 n3 c3 zs) :
    Calls Try.prog 7 #[.slice a1 n1 c1, .slice a2 n2 c2, .slice a3 n3 c3] w fun e w' => e = .returned (.bool true) ∧ Below w.heap.size w w' := by
  have C1 := hide (odd_any a1 n1 c1 xs w h1 8 8 rfl (by omega) (by omega))
  go_enter Try.func7, Try.ntmps7
  go_wp2_with fail
  refine C1.out.mono ?_
  rintro e w1 ⟨g, m, c', us, rfl, hu, hm, hv, hB1⟩
  have C2 := hide (new_ok _ m c' us w1 hu (by have := trm_len us; have := hu.hlen; omega) (by omega) (by omega))
  have h2 := h2.below hB1
  have h3 := h3.below hB1
  clear hv hu
  generalize val 18446744073709551616 us = M at C2
  go_wp2_with fail
  refine C2.out.mono ?_
  rintro e w2 ⟨mv, rfl, HO, hB2⟩
  have HM := HO.mod
  have h2 := h2.below hB2
  have h3 := h3.below hB2
  have LB := hB1.trans (hB2.mono hB1.size)
  obtain ⟨gm, sm, hmv, _⟩ := HM
  subst hmv
  have HM := HO.mod
  clear HO hB1 hB2 C1 C2 h1
  have C3 := hide (short7 a2 n2 c2 ys w2 h2 20 20 rfl)
  have C4 := hide (short7 a3 n3 c3 zs w2 h3 20 20 rfl)
  have Na := src_num (short_src h2 20) 20 (by omega)
  have Nb := src_num (short_src h3 20) 20 (by omega)
  generalize val 18446744073709551616 (ys.take (min n2 20)) = xA at Na
  generalize val 18446744073709551616 (zs.take (min n3 20)) = xB at Nb
  generalize min n2 20 = k2 at Na C3
  generalize min n3 20 = k3 at Nb C4
  generalize w2 = W at *
  go_wp2_with fail
  refine C3.out.mono ?_
  rintro e w1 ⟨rfl, hw⟩
  have hw2 := hw.symm
  subst hw2
  clear hw
  go_wp2_with fail
  refine C4.out.mono ?_
  rintro e w1 ⟨rfl, hw⟩
  have hw2 := hw.symm
  subst hw2
  clear hw
  go_wp2_with fail
  refine (add_7 _ _ _ _ _ _ _ _ _ HM Na Nb (by omega) (by omega)).mono ?_
  rintro e w1 ⟨vs, rfl, Ns, hB⟩
  have Na := Na.below hB
  have Nb := Nb.below hB
  have HM := HM.below hB
  have LB := LB.trans (hB.mono LB.size)
  clear hB
  go_wp2_with fail
  refine (add_7 _ _ _ _ _ _ _ _ _ HM Nb Na (by omega) (by omega)).mono ?_
  rintro e w2 ⟨vt, rfl, Nt, hB⟩
  have Na := Na.below hB
  have Nb := Nb.below hB
  have Ns := Ns.below hB
  have HM := HM.below hB
  have LB := LB.trans (hB.mono LB.size)
  clear hB
  go_wp2_with fail
  refine (sub_7 _ _ _ _ _ _ _ _ _ HM Ns.num Nb (by omega) (by omega)).mono ?_
  rintro e w3 ⟨vd, rfl, Nd, hB⟩
  have Na := Na.below hB
  have Nb := Nb.below hB
  have Ns := Ns.below hB
  have Nt := Nt.below hB
  have HM := HM.below hB
  have LB := LB.trans (hB.mono LB.size)
  clear hB
  go_wp2_with fail
  refine (reduce_7 _ _ _ _ _ _ HM Na (by omega)).mono ?_
  rintro e w4 ⟨vx, rfl, Nx, hB⟩
  have Na := Na.below hB
  have Nb := Nb.below hB
  have Ns := Ns.below hB
  have Nt := Nt.below hB
  have Nd := Nd.below hB
  have HM := HM.below hB
  have LB := LB.trans (hB.mono LB.size)
  clear hB
  go_wp2_with fail
  refine (sameT _ _ _ _ _ _ _ Ns Nt (by rw [Int.add_comm])).mono ?_
  rintro e w5 ⟨rfl, hB⟩
  have Na := Na.drew hB
  have Nb := Nb.drew hB
  have Ns := Ns.drew hB
  have Nt := Nt.drew hB
  have Nd := Nd.drew hB
  have Nx := Nx.drew hB
  have HM := HM.drew hB
  have LB := hB.below LB
  clear hB
  go_wp2_with fail
  refine (sameT _ _ _ _ _ _ _ Nd Nx (by rw [ms1, Int.add_sub_cancel])).mono ?_
  rintro e w6 ⟨rfl, hB⟩
  have Na := Na.drew hB
  have Nb := Nb.drew hB
  have Ns := Ns.drew hB
  have Nt := Nt.drew hB
  have Nd := Nd.drew hB
  have Nx := Nx.drew hB
  have HM := HM.drew hB
  have LB := hB.below LB
  clear hB
  go_wp2_with fail
  refine (mul_7 _ _ _ _ _ _ _ _ _ HM Na Nb (by omega) (by omega)).mono ?_
  rintro e w7 ⟨vp, rfl, Np, hB⟩
  have Na := Na.below hB
  have Nb := Nb.below hB
  have Ns := Ns.below hB
  have Nt := Nt.below hB
  have Nd := Nd.below hB
  have Nx := Nx.below hB
  have HM := HM.below hB
  have LB := LB.trans (hB.mono LB.size)
  clear hB
  go_wp2_with fail
  refine (mul_7 _ _ _ _ _ _ _ _ _ HM Nb Na (by omega) (by omega)).mono ?_
  rintro e w8 ⟨vq, rfl, Nq, hB⟩
  have Na := Na.below hB
  have Nb := Nb.below hB
  have Ns := Ns.below hB
  have Nt := Nt.below hB
  have Nd := Nd.below hB
  have Nx := Nx.below hB
  have Np := Np.below hB
  have HM := HM.below hB
  have LB := LB.trans (hB.mono LB.size)
  clear hB
  go_wp2_with fail
  refine (mul_7 _ _ _ _ _ _ _ _ _ HM Np.num Ns.num (by omega) (by omega)).mono ?_
  rintro e w9 ⟨vu, rfl, Nu, hB⟩
  have Na := Na.below hB
  have Nb := Nb.below hB
  have Ns := Ns.below hB
  have Nt := Nt.below hB
  have Nd := Nd.below hB
  have Nx := Nx.below hB
  have Np := Np.below hB
  have Nq := Nq.below hB
  have HM := HM.below hB
  have LB := LB.trans (hB.mono LB.size)
  clear hB
  go_wp2_with fail
  refine (mul_7 _ _ _ _ _ _ _ _ _ HM Na Ns.num (by omega) (by omega)).mono ?_
  rintro e w10 ⟨vv, rfl, Nv, hB⟩
  have Na := Na.below hB
  have Nb := Nb.below hB
  have Ns := Ns.below hB
  have Nt := Nt.below hB
  have Nd := Nd.below hB
  have Nx := Nx.below hB
  have Np := Np.below hB
  have Nq := Nq.below hB
  have Nu := Nu.below hB
  have HM := HM.below hB
  have LB := LB.trans (hB.mono LB.size)
  clear hB
  go_wp2_with fail
  refine (mul_7 _ _ _ _ _ _ _ _ _ HM Nv.num Nb (by omega) (by omega)).mono ?_
  rintro e w11 ⟨vw, rfl, Nw, hB⟩
  have Na := Na.below hB
  have Nb := Nb.below hB
  have Ns := Ns.below hB
  have Nt := Nt.below hB
  have Nd := Nd.below hB
  have Nx := Nx.below hB
  have Np := Np.below hB
  have Nq := Nq.below hB
  have Nu := Nu.below hB
  have Nv := Nv.below hB
  have HM := HM.below hB
  have LB := LB.trans (hB.mono LB.size)
  clear hB
  go_wp2_with fail
  refine (sameT _ _ _ _ _ _ _ Np Nq (by rw [Int.mul_comm])).mono ?_
  rintro e w12 ⟨rfl, hB⟩
  have Na := Na.drew hB
  have Nb := Nb.drew hB
  have Ns := Ns.drew hB
  have Nt := Nt.drew hB
  have Nd := Nd.drew hB
  have Nx := Nx.drew hB
  have Np := Np.drew hB
  have Nq := Nq.drew hB
  have Nu := Nu.drew hB
  have Nv := Nv.drew hB
  have Nw := Nw.drew hB
  have HM := HM.drew hB
  have LB := hB.below LB
  clear hB
  go_wp2_with fail
  refine (sameT _ _ _ _ _ _ _ Nu Nw (ringUW _ _ _)).mono ?_
  rintro e w13 ⟨rfl, hB⟩
  have Na := Na.drew hB
  have Nb := Nb.drew hB
  have Ns := Ns.drew hB
  have Nt := Nt.drew hB
  have Nd := Nd.drew hB
  have Nx := Nx.drew hB
  have Np := Np.drew hB
  have Nq := Nq.drew hB
  have Nu := Nu.drew hB
  have Nv := Nv.drew hB
  have Nw := Nw.drew hB
  have HM := HM.drew hB
  have LB := hB.below LB
  clear hB
  go_wp2_with fail
  refine (mul_7 _ _ _ _ _ _ _ _ _ HM Na Na (by omega) (by omega)).mono ?_
  rintro e w14 ⟨vy, rfl, Ny, hB⟩
  have Na := Na.below hB
  have Nb := Nb.below hB
  have Ns := Ns.below hB
  have Nt := Nt.below hB
  have Nd := Nd.below hB
  have Nx := Nx.below hB
  have Np := Np.below hB
  have Nq := Nq.below hB
  have Nu := Nu.below hB
  have Nv := Nv.below hB
  have Nw := Nw.below hB
  have HM := HM.below hB
  have LB := LB.trans (hB.mono LB.size)
  clear hB
  go_wp2_with fail
  refine (add_7 _ _ _ _ _ _ _ _ _ HM Ny.num Np.num (by omega) (by omega)).mono ?_
  rintro e w15 ⟨vz, rfl, Nz, hB⟩
  have Na := Na.below hB
  have Nb := Nb.below hB
  have Ns := Ns.below hB
  have Nt := Nt.below hB
  have Nd := Nd.below hB
  have Nx := Nx.below hB
  have Np := Np.below hB
  have Nq := Nq.below hB
  have Nu := Nu.below hB
  have Nv := Nv.below hB
  have Nw := Nw.below hB
  have Ny := Ny.below hB
  have HM := HM.below hB
  have LB := LB.trans (hB.mono LB.size)
  clear hB
  go_wp2_with fail
  refine (sameT _ _ _ _ _ _ _ Nv Nz (by rw [mm2, ma1, ma2, Int.mul_add])).mono ?_
  rintro e w16 ⟨rfl, hB⟩
  have Na := Na.drew hB
  have Nb := Nb.drew hB
  have Ns := Ns.drew hB
  have Nt := Nt.drew hB
  have Nd := Nd.drew hB
  have Nx := Nx.drew hB
  have Np := Np.drew hB
  have Nq := Nq.drew hB
  have Nu := Nu.drew hB
  have Nv := Nv.drew hB
  have Nw := Nw.drew hB
  have Ny := Ny.drew hB
  have Nz := Nz.drew hB
  have HM := HM.drew hB
  have LB := hB.below LB
  clear hB
  go_wp2
  go_ret
  exact ⟨rfl, LB⟩

end Go.Proofs.Ytobdpcmafjhnlaa
