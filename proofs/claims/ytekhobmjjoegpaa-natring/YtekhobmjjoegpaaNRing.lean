/-
  NatRing answers true at any three numbers, and writes nothing that was there.
-/
import Derived.Test.YtekhobmjjoegpaaNNum
namespace Go.Proofs.Ytekhobmjjoegpaa
open Go.RowKit Go.IntWalk

theorem step_belowG {D : Nat} {w a w' : World} (h : Below D w a) (hD : D ≤ a.heap.size) (o : Obj) (hb : Below (a.alloc o).heap.size (a.alloc o) w') : Below D w w' :=
  (h.alloc hD o).trans (hb.mono (by simp; omega))

set_option maxRecDepth 100000 in
set_option maxHeartbeats 4000000 in
theorem ring_walk (a1 : Option Addr) (n1 c1 : Nat) (xs : List Int) (a2 : Option Addr) (n2 c2 : Nat) (ys : List Int) (a3 : Option Addr) (n3 c3 : Nat) (zs : List Int) (w : World) (h1 : SrcG .u64 18446744073709551616 w a1 n1 c1 xs) (h2 : SrcG .u64 18446744073709551616 w a2 n2 c2 ys) (h3 : SrcG .u64 18446744073709551616 w a3 n3 c3 zs) :
    Calls Try.prog 6 #[.slice a1 n1 c1, .slice a2 n2 c2, .slice a3 n3 c3] w fun e w' => e = .returned (.bool true) ∧ Below w.heap.size w w' := by
  have C1 := hide (cut_num a1 n1 c1 xs w h1 16 16 rfl)
  have C2 := hide (cut_num a2 n2 c2 ys w h2 16 16 rfl)
  have C3 := hide (cut_num a3 n3 c3 zs w h3 16 16 rfl)
  go_enter Try.func6, Try.ntmps6
  go_wp2_with fail
  refine C1.out.mono ?_
  rintro e w1 ⟨vA, xA, rfl, hvA, NA, hw⟩
  have hw2 := hw.symm
  subst hw2
  clear hw hvA
  go_wp2_with fail
  refine C2.out.mono ?_
  rintro e w1 ⟨vB, xB, rfl, hvB, NB, hw⟩
  have hw2 := hw.symm
  subst hw2
  clear hw hvB
  go_wp2_with fail
  refine C3.out.mono ?_
  rintro e w1 ⟨vC, xC, rfl, hvC, NC, hw⟩
  have hw2 := hw.symm
  subst hw2
  clear hw hvC
  have LB := Below.refl w.heap.size w
  go_wp2_with fail
  refine (sum_num _ _ _ _ _ _ _ NA NB (by omega) (by omega) 17 (by omega) (by omega)).mono ?_
  rintro e w1 ⟨vp, rfl, Np, hB⟩
  have NA := NA.below hB
  have NB := NB.below hB
  have NC := NC.below hB
  have LB := LB.trans (hB.mono LB.size)
  clear hB
  go_wp2_with fail
  refine (sum_num _ _ _ _ _ _ _ NB NA (by omega) (by omega) 17 (by omega) (by omega)).mono ?_
  rintro e w2 ⟨vq, rfl, Nq, hB⟩
  have NA := NA.below hB
  have NB := NB.below hB
  have NC := NC.below hB
  have Np := Np.below hB
  have LB := LB.trans (hB.mono LB.size)
  clear hB
  go_wp2_with fail
  refine (alike_true _ _ _ _ _ _ _ Np Nq (by omega) (by omega) (Int.add_comm _ _)).mono ?_
  rintro e w3 ⟨rfl, hD⟩
  have NA := NA.drew hD
  have NB := NB.drew hD
  have NC := NC.drew hD
  have Np := Np.drew hD
  have Nq := Nq.drew hD
  have LB := hD.below LB
  clear hD
  clear Np
  clear Nq
  go_wp2_with fail
  refine (sum_num _ _ _ _ _ _ _ NA NB (by omega) (by omega) 17 (by omega) (by omega)).mono ?_
  rintro e w4 ⟨vp, rfl, Np, hB⟩
  have NA := NA.below hB
  have NB := NB.below hB
  have NC := NC.below hB
  have LB := LB.trans (hB.mono LB.size)
  clear hB
  go_wp2_with fail
  refine (sum_num _ _ _ _ _ _ _ Np NC (by omega) (by omega) 18 (by omega) (by omega)).mono ?_
  rintro e w5 ⟨vq, rfl, Nq, hB⟩
  have NA := NA.below hB
  have NB := NB.below hB
  have NC := NC.below hB
  have Np := Np.below hB
  have LB := LB.trans (hB.mono LB.size)
  clear hB
  go_wp2_with fail
  refine (sum_num _ _ _ _ _ _ _ NB NC (by omega) (by omega) 17 (by omega) (by omega)).mono ?_
  rintro e w6 ⟨vr, rfl, Nr, hB⟩
  have NA := NA.below hB
  have NB := NB.below hB
  have NC := NC.below hB
  have Np := Np.below hB
  have Nq := Nq.below hB
  have LB := LB.trans (hB.mono LB.size)
  clear hB
  go_wp2_with fail
  refine (sum_num _ _ _ _ _ _ _ NA Nr (by omega) (by omega) 18 (by omega) (by omega)).mono ?_
  rintro e w7 ⟨vs, rfl, Ns, hB⟩
  have NA := NA.below hB
  have NB := NB.below hB
  have NC := NC.below hB
  have Np := Np.below hB
  have Nq := Nq.below hB
  have Nr := Nr.below hB
  have LB := LB.trans (hB.mono LB.size)
  clear hB
  go_wp2_with fail
  refine (alike_true _ _ _ _ _ _ _ Nq Ns (by omega) (by omega) (Int.add_assoc _ _ _)).mono ?_
  rintro e w8 ⟨rfl, hD⟩
  have NA := NA.drew hD
  have NB := NB.drew hD
  have NC := NC.drew hD
  have Np := Np.drew hD
  have Nq := Nq.drew hD
  have Nr := Nr.drew hD
  have Ns := Ns.drew hD
  have LB := hD.below LB
  clear hD
  clear Np
  clear Nq
  clear Nr
  clear Ns
  go_wp2_with fail
  refine (product_num _ _ _ _ _ _ _ NA NB (by omega) (by omega) 32 (by omega)).mono ?_
  rintro e w9 ⟨vp, rfl, Np, hB⟩
  have NA := NA.below hB
  have NB := NB.below hB
  have NC := NC.below hB
  have LB := LB.trans (hB.mono LB.size)
  clear hB
  go_wp2_with fail
  refine (product_num _ _ _ _ _ _ _ NB NA (by omega) (by omega) 32 (by omega)).mono ?_
  rintro e w10 ⟨vq, rfl, Nq, hB⟩
  have NA := NA.below hB
  have NB := NB.below hB
  have NC := NC.below hB
  have Np := Np.below hB
  have LB := LB.trans (hB.mono LB.size)
  clear hB
  go_wp2_with fail
  refine (alike_true _ _ _ _ _ _ _ Np Nq (by omega) (by omega) (Int.mul_comm _ _)).mono ?_
  rintro e w11 ⟨rfl, hD⟩
  have NA := NA.drew hD
  have NB := NB.drew hD
  have NC := NC.drew hD
  have Np := Np.drew hD
  have Nq := Nq.drew hD
  have LB := hD.below LB
  clear hD
  clear Np
  clear Nq
  go_wp2_with fail
  refine (product_num _ _ _ _ _ _ _ NA NB (by omega) (by omega) 32 (by omega)).mono ?_
  rintro e w12 ⟨vp, rfl, Np, hB⟩
  have NA := NA.below hB
  have NB := NB.below hB
  have NC := NC.below hB
  have LB := LB.trans (hB.mono LB.size)
  clear hB
  go_wp2_with fail
  refine (product_num _ _ _ _ _ _ _ Np NC (by omega) (by omega) 48 (by omega)).mono ?_
  rintro e w13 ⟨vq, rfl, Nq, hB⟩
  have NA := NA.below hB
  have NB := NB.below hB
  have NC := NC.below hB
  have Np := Np.below hB
  have LB := LB.trans (hB.mono LB.size)
  clear hB
  go_wp2_with fail
  refine (product_num _ _ _ _ _ _ _ NB NC (by omega) (by omega) 32 (by omega)).mono ?_
  rintro e w14 ⟨vr, rfl, Nr, hB⟩
  have NA := NA.below hB
  have NB := NB.below hB
  have NC := NC.below hB
  have Np := Np.below hB
  have Nq := Nq.below hB
  have LB := LB.trans (hB.mono LB.size)
  clear hB
  go_wp2_with fail
  refine (product_num _ _ _ _ _ _ _ NA Nr (by omega) (by omega) 48 (by omega)).mono ?_
  rintro e w15 ⟨vs, rfl, Ns, hB⟩
  have NA := NA.below hB
  have NB := NB.below hB
  have NC := NC.below hB
  have Np := Np.below hB
  have Nq := Nq.below hB
  have Nr := Nr.below hB
  have LB := LB.trans (hB.mono LB.size)
  clear hB
  go_wp2_with fail
  refine (alike_true _ _ _ _ _ _ _ Nq Ns (by omega) (by omega) (Int.mul_assoc _ _ _)).mono ?_
  rintro e w16 ⟨rfl, hD⟩
  have NA := NA.drew hD
  have NB := NB.drew hD
  have NC := NC.drew hD
  have Np := Np.drew hD
  have Nq := Nq.drew hD
  have Nr := Nr.drew hD
  have Ns := Ns.drew hD
  have LB := hD.below LB
  clear hD
  clear Np
  clear Nq
  clear Nr
  clear Ns
  go_wp2_with fail
  refine (sum_num _ _ _ _ _ _ _ NB NC (by omega) (by omega) 17 (by omega) (by omega)).mono ?_
  rintro e w17 ⟨vp, rfl, Np, hB⟩
  have NA := NA.below hB
  have NB := NB.below hB
  have NC := NC.below hB
  have LB := LB.trans (hB.mono LB.size)
  clear hB
  go_wp2_with fail
  refine (product_num _ _ _ _ _ _ _ NA Np (by omega) (by omega) 33 (by omega)).mono ?_
  rintro e w18 ⟨vq, rfl, Nq, hB⟩
  have NA := NA.below hB
  have NB := NB.below hB
  have NC := NC.below hB
  have Np := Np.below hB
  have LB := LB.trans (hB.mono LB.size)
  clear hB
  go_wp2_with fail
  refine (product_num _ _ _ _ _ _ _ NA NB (by omega) (by omega) 32 (by omega)).mono ?_
  rintro e w19 ⟨vr, rfl, Nr, hB⟩
  have NA := NA.below hB
  have NB := NB.below hB
  have NC := NC.below hB
  have Np := Np.below hB
  have Nq := Nq.below hB
  have LB := LB.trans (hB.mono LB.size)
  clear hB
  go_wp2_with fail
  refine (product_num _ _ _ _ _ _ _ NA NC (by omega) (by omega) 32 (by omega)).mono ?_
  rintro e w20 ⟨vs, rfl, Ns, hB⟩
  have NA := NA.below hB
  have NB := NB.below hB
  have NC := NC.below hB
  have Np := Np.below hB
  have Nq := Nq.below hB
  have Nr := Nr.below hB
  have LB := LB.trans (hB.mono LB.size)
  clear hB
  go_wp2_with fail
  refine (sum_num _ _ _ _ _ _ _ Nr Ns (by omega) (by omega) 33 (by omega) (by omega)).mono ?_
  rintro e w21 ⟨vt, rfl, Nt, hB⟩
  have NA := NA.below hB
  have NB := NB.below hB
  have NC := NC.below hB
  have Np := Np.below hB
  have Nq := Nq.below hB
  have Nr := Nr.below hB
  have Ns := Ns.below hB
  have LB := LB.trans (hB.mono LB.size)
  clear hB
  go_wp2_with fail
  refine (alike_true _ _ _ _ _ _ _ Nq Nt (by omega) (by omega) (Int.mul_add _ _ _)).mono ?_
  rintro e w22 ⟨rfl, hD⟩
  have NA := NA.drew hD
  have NB := NB.drew hD
  have NC := NC.drew hD
  have Np := Np.drew hD
  have Nq := Nq.drew hD
  have Nr := Nr.drew hD
  have Ns := Ns.drew hD
  have Nt := Nt.drew hD
  have LB := hD.below LB
  clear hD
  clear Np
  clear Nq
  clear Nr
  clear Ns
  clear Nt
  go_wp2_with fail
  refine (product_num _ _ _ _ _ _ _ (NA.alloc _) (NumU.lit [1] _ 1 _ rfl rfl (by intro x hx; simp at hx; omega) (by omega) rfl 1 (by omega) 1 (by decide)) (by omega) (by omega) 17 (by omega)).mono ?_
  rintro e w30 ⟨vp, rfl, Np, hB⟩
  have NA := (NA.alloc _).below hB
  have LB := step_belowG LB LB.size _ hB
  clear hB NB NC
  go_wp2_with fail
  refine (alike_true _ _ _ _ _ _ _ Np NA (by omega) (by omega) (Int.mul_one _)).mono ?_
  rintro e w23 ⟨rfl, hD⟩
  have NA := NA.drew hD
  have Np := Np.drew hD
  have LB := hD.below LB
  clear hD
  clear Np
  go_wp2_with fail
  refine (sum_num _ _ _ _ _ _ _ NA (NumU.nil _ 0) (by omega) (by omega) 17 (by omega) (by omega)).mono ?_
  rintro e w31 ⟨vp, rfl, Np, hB⟩
  have NA := NA.below hB
  have LB := LB.trans (hB.mono LB.size)
  clear hB
  go_wp2_with fail
  refine (alike_true _ _ _ _ _ _ _ Np NA (by omega) (by omega) (Int.add_zero _)).mono ?_
  rintro e w24 ⟨rfl, hD⟩
  have NA := NA.drew hD
  have Np := Np.drew hD
  have LB := hD.below LB
  clear hD
  go_wp2_with fail
  refine (works_any _).mono ?_
  rintro e w40 ⟨rfl, hB⟩
  have LB := LB.trans (hB.mono LB.size)
  go_wp2
  go_ret
  exact ⟨rfl, LB⟩

end Go.Proofs.Ytekhobmjjoegpaa
