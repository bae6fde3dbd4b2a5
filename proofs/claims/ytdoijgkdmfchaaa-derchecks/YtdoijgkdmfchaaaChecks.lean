/-
  For any bytes and any int, DerChecks answers true: der.Check tells just what the document says, and leaves the bytes as they were. No condition.
-/
import Derived.Test.YtdoijgkdmfchaaaOpen
import Derived.Test.YtdoijgkdmfchaaaVisitIt
import Derived.Test.YtdoijgkdmfchaaaWithin
import Derived.Test.YtdoijgkdmfchaaaLent
import Derived.Test.YtdoijgkdmfchaaaRSize
namespace Go.Proofs.Ytdoijgkdmfchaaa
open Go.ChangeShapes Go.WideShapes Go.ChangeAt Go.RowKit Go.IntWalk

/-- How many elements, the error's place, the error's number. -/
def checkS (bs : List Int) (deep : Int) : Int × Int × Int :=
  if deep < 0 ∨ 64 < deep then (0, 0, 2)
  else if (visS (deep.toNat + 1) bs 0).err ≠ 0 then (0, ((visS (deep.toNat + 1) bs 0).place : Int), (visS (deep.toNat + 1) bs 0).err)
  else if (visS (deep.toNat + 1) bs 0).size < bs.length then (0, ((visS (deep.toNat + 1) bs 0).size : Int), 13)
  else (((visS (deep.toNat + 1) bs 0).many : Int), 0, 0)

def threeV (r : Int × Int × Int) : Value := .tuple #[.int .i64 r.1, .int .i64 r.2.1, .int .i64 r.2.2]


set_option maxRecDepth 100000 in
set_option maxHeartbeats 2000000 in
theorem refCheck_any (ao : Option Addr) (n cap : Nat) (bs : List Int) (deep : Int) (w : World) (hs : Src w ao n cap bs) (hN : (n : Int) ≤ 140737488355328) :
    Calls Try.prog 24 #[.slice ao n cap, .int .i64 deep] w fun e w' => e = .returned (threeV (checkS bs deep)) ∧ Below w.heap.size w w' := by
  have hlen := hs.hlen
  by_cases h0 : deep < 0
  · have E := hide (show checkS bs deep = (0, 0, 2) by unfold checkS; rw [if_pos (.inl h0)])
    go_enter Try.func24, Try.ntmps24
    go_wp2
    go_ret3
    rw [E.out]
    exact ⟨rfl, Below.refl _ _⟩
  · by_cases h1 : 64 < deep
    · have E := hide (show checkS bs deep = (0, 0, 2) by unfold checkS; rw [if_pos (.inr h1)])
      go_enter Try.func24, Try.ntmps24
      go_wp2
      go_ret3
      rw [E.out]
      exact ⟨rfl, Below.refl _ _⟩
    · obtain ⟨D, rfl⟩ := Int.eq_ofNat_of_zero_le (show 0 ≤ deep by omega)
      have hD : D ≤ 64 := by omega
      have eC : checkS bs (D : Int) = if (visS (D + 1) bs 0).err ≠ 0 then (0, ((visS (D + 1) bs 0).place : Int), (visS (D + 1) bs 0).err)
          else if (visS (D + 1) bs 0).size < n then (0, ((visS (D + 1) bs 0).size : Int), 13) else (((visS (D + 1) bs 0).many : Int), 0, 0) := by
        unfold checkS
        rw [if_neg (by omega), show ((D : Int)).toNat = D by omega, hlen]
      clear hlen
      by_cases h2 : (visS (D + 1) bs 0).err = 0
      · rw [if_neg (by simpa using h2)] at eC
        have h2' : ((visS (D + 1) bs 0).err != 0) = false := by simpa using h2
        clear h2
        by_cases h3 : (visS (D + 1) bs 0).size < n
        · rw [if_pos h3] at eC
          have E := hide eC
          have h3' : ((visS (D + 1) bs 0).size : Int) < (n : Int) := by omega
          clear eC h3
          go_enter Try.func24, Try.ntmps24
          go_wp2_with (go_at_call 40; refine (within_any D hD (D + 1) ao n cap bs 0 0 _ _ _ _ rfl rfl rfl hs hN (by omega) (by omega)).mono ?_; rintro r w1 ⟨rfl, B1⟩; unfold visV)
          go_ret3
          rw [E.out]
          exact ⟨rfl, B1⟩
        · rw [if_neg h3] at eC
          have E := hide eC
          have h3' : ¬ ((visS (D + 1) bs 0).size : Int) < (n : Int) := by omega
          clear eC h3
          go_enter Try.func24, Try.ntmps24
          go_wp2_with (go_at_call 40; refine (within_any D hD (D + 1) ao n cap bs 0 0 _ _ _ _ rfl rfl rfl hs hN (by omega) (by omega)).mono ?_; rintro r w1 ⟨rfl, B1⟩; unfold visV)
          go_ret3
          rw [E.out]
          exact ⟨rfl, B1⟩
      · rw [if_pos h2] at eC
        have E := hide eC
        have h2' : ((visS (D + 1) bs 0).err != 0) = true := by simpa using h2
        clear eC h2
        go_enter Try.func24, Try.ntmps24
        go_wp2_with (go_at_call 40; refine (within_any D hD (D + 1) ao n cap bs 0 0 _ _ _ _ rfl rfl rfl hs hN (by omega) (by omega)).mono ?_; rintro r w1 ⟨rfl, B1⟩; unfold visV)
        go_ret3
        rw [E.out]
        exact ⟨rfl, B1⟩


theorem cinv_start (w : World) (D : Nat) (ao : Option Addr) (n cap : Nat) (bs : List Int) (hs : Src w ao n cap bs) :
    CInv ((((w.alloc (.cells #[.slice ao n cap] 22)).alloc (.cells #[.int .i64 (D : Int)] 3)).alloc (.cells #[.int .i64 0] 3)).alloc (.cells #[.func (.func 38) #[] #[.pointer (some ⟨w.heap.size + 1, 0, none⟩), .pointer (some ⟨w.heap.size, 0, none⟩), .pointer (some ⟨w.heap.size + 1 + 1, 0, none⟩), .pointer (some ⟨w.heap.size + 1 + 1 + 1, 0, none⟩)]] 78))
      (w.heap.size + 1) w.heap.size (w.heap.size + 1 + 1) (w.heap.size + 1 + 1 + 1) (D : Int) ao n cap bs 0 := by
  have s4 : ∀ o1 o2 o3 o4, Src ((((w.alloc o1).alloc o2).alloc o3).alloc o4) ao n cap bs := fun o1 o2 o3 o4 => (((hs.alloc o1).alloc o2).alloc o3).alloc o4
  refine ⟨?_, ?_, ?_, ?_, s4 _ _ _ _, ?_, by simp only [World.size_alloc]; omega, by omega, by omega, by omega, fun b off he hx => by have := hs.blk b off he hx; omega⟩
  · exact (World.cell?_alloc_lt _ _ _ (by simp only [World.size_alloc]; omega)).trans ((World.cell?_alloc_lt _ _ _ (by simp only [World.size_alloc]; omega)).trans (cell_new _ _ _ _ 0 (by simp)))
  · exact (World.cell?_alloc_lt _ _ _ (by simp only [World.size_alloc]; omega)).trans ((World.cell?_alloc_lt _ _ _ (by simp only [World.size_alloc]; omega)).trans ((World.cell?_alloc_lt _ _ _ (by simp only [World.size_alloc]; omega)).trans (cell_new _ _ _ _ 0 rfl)))
  · exact (World.cell?_alloc_lt _ _ _ (by simp only [World.size_alloc]; omega)).trans (cell_new _ _ _ _ 0 (by simp))
  · exact cell_new _ _ _ _ 0 (by simp)
  · rw [frozen?_alloc_cells, frozen?_alloc_cells, frozen?_alloc_cells, frozen?_alloc_cells]
    unfold World.frozen?
    rw [Array.getElem?_eq_none (by show w.heap.size ≤ w.heap.size + 1 + 1; omega)]

set_option maxRecDepth 100000 in
set_option maxHeartbeats 4000000 in
theorem check_any (ao : Option Addr) (n cap : Nat) (bs : List Int) (deep : Int) (w : World) (hs : Src w ao n cap bs) (hN : (n : Int) ≤ 140737488355328) :
    Calls Try.prog 23 #[.slice ao n cap, .int .i64 deep] w fun e w' => e = .returned (threeV (checkS bs deep)) ∧ Below w.heap.size w w' := by
  have hlen := hs.hlen
  by_cases h0 : deep < 0
  · have E := hide (show checkS bs deep = (0, 0, 2) by unfold checkS; rw [if_pos (.inl h0)])
    go_enter Try.func23, Try.ntmps23
    go_wp2
    go_ret3
    rw [E.out]
    exact ⟨rfl, ((Below.refl _ _).alloc (Nat.le_refl _) _).alloc (by simp) _⟩
  · by_cases h1 : 64 < deep
    · have E := hide (show checkS bs deep = (0, 0, 2) by unfold checkS; rw [if_pos (.inr h1)])
      go_enter Try.func23, Try.ntmps23
      go_wp2
      go_ret3
      rw [E.out]
      exact ⟨rfl, ((Below.refl _ _).alloc (Nat.le_refl _) _).alloc (by simp) _⟩
    · obtain ⟨D, rfl⟩ := Int.eq_ofNat_of_zero_le (show 0 ≤ deep by omega)
      have hD : D ≤ 64 := by omega
      have eTD := hide (show (bs.take n).drop 0 = bs by rw [List.take_of_length_le (by omega)]; rfl)
      have eC : checkS bs (D : Int) = if (visS (D + 1) bs 0).err ≠ 0 then (0, ((visS (D + 1) bs 0).place : Int), (visS (D + 1) bs 0).err)
          else if (visS (D + 1) bs 0).size < n then (0, ((visS (D + 1) bs 0).size : Int), 13) else (((visS (D + 1) bs 0).many : Int), 0, 0) := by
        unfold checkS
        rw [if_neg (by omega), show ((D : Int)).toNat = D by omega, hlen]
      clear hlen
      have EC := hide eC
      clear eC
      go_enter Try.func23, Try.ntmps23
      go_wp2_with fail
      refine (visit_any (w.heap.size + 1) w.heap.size (w.heap.size + 1 + 1) (w.heap.size + 1 + 1 + 1) D ao n cap bs hD hN (D + 1) 0 n 0 _ _ _ 0 _ rfl rfl rfl ?inv (by omega) (by omega) (by omega) (by omega) (by omega)).mono ?_
      case inv => exact cinv_start w D ao n cap bs hs
      rintro r w1 ⟨pl, err, rfl, herr, hpl, c', I1, G1, hck⟩
      rw [eTD.out] at herr hpl hck
      have bW : Below w.heap.size w w1 := ((((((Below.refl _ _).alloc (Nat.le_refl _) _).alloc (by simp) _).alloc (by simp; omega) _).alloc (by simp; omega) _).grown G1 (by simp; omega) (by intro k hk; cases hk; omega))
      have b0 := I1.b0
      have k0 := I1.k0
      by_cases h2 : (visS (D + 1) bs 0).err = 0
      · have eC := EC.out
        rw [if_neg (by simpa using h2)] at eC
        have herr0 : err = 0 := by rw [herr.out]; exact h2
        have hpl2 : pl = ((visS (D + 1) bs 0).size : Int) := by rw [hpl.out]; unfold retPl; rw [if_pos h2]; simp
        have hcc : c' = ((visS (D + 1) bs 0).many : Int) := by rw [hck h2]; simp
        subst herr0 hpl2
        rw [hcc] at k0
        clear h2 herr hpl hck hcc
        by_cases h3 : (visS (D + 1) bs 0).size < n
        · rw [if_pos h3] at eC
          have E := hide eC
          have h3' : ((visS (D + 1) bs 0).size : Int) < (n : Int) := by omega
          clear eC h3
          go_wp2
          go_ret3
          rw [E.out]
          exact ⟨rfl, bW⟩
        · rw [if_neg h3] at eC
          have E := hide eC
          have h3' : ¬ ((visS (D + 1) bs 0).size : Int) < (n : Int) := by omega
          clear eC h3
          go_wp2
          go_ret3
          rw [E.out]
          exact ⟨rfl, bW⟩
      · have eC := EC.out
        rw [if_pos h2] at eC
        have E := hide eC
        have h2' : (err == 0) = false := by rw [herr.out]; simpa using h2
        have hpl2 := hide (show pl = ((visS (D + 1) bs 0).place : Int) by rw [hpl.out]; unfold retPl; rw [if_neg h2])
        clear eC h2
        go_wp2
        go_ret3
        rw [E.out]
        exact ⟨by unfold threeV; rw [← hpl2.out, ← herr.out]; rfl, bW⟩

set_option maxRecDepth 100000 in
set_option maxHeartbeats 2000000 in
theorem checks_walk (ao : Option Addr) (n cap : Nat) (xs : List Int) (deep : Int) (w : World) (hs : Src w ao n cap xs) (hn : n ≤ 140737488351232) :
    Calls Try.prog 6 #[.slice ao n cap, .int .i64 deep] w fun e w' => e = .returned (.bool true) ∧ Below w.heap.size w w' := by
  have hN : (n : Int) ≤ 140737488355328 := by omega
  have HBY := hide hs.hbyt
  have hl := hide hs.hlen
  go_enter Try.func6, Try.ntmps6
  go_wp2_with fail
  refine (lent_any ao n cap xs _ hs hn).mono ?_
  rintro e w1 ⟨g, c, rfl, hc1, hm1, hg1, hgl1, hin, B1⟩
  have s1 : Src w1 (some ⟨g, 0, none⟩) n c xs := hin.src (by intro x hx; simp at hx; rcases hx with hx | rfl; exact HBY.out x hx; omega) n (by omega) (by rw [List.take_append_of_le_length (by rw [hl.out]; exact Nat.le_refl _), List.take_of_length_le (by rw [hl.out]; exact Nat.le_refl _)]) hm1
  have z1 := B1.size
  go_wp2_with fail
  refine (check_any _ n c xs deep _ s1 hN).mono ?_
  rintro e w2 ⟨rfl, B2⟩
  unfold threeV
  have L2 : Below w.heap.size w w2 := B1.trans (B2.mono z1)
  go_wp2_with fail
  refine (refCheck_any ao n cap xs deep _ (hs.below L2) hN).mono ?_
  rintro e w3 ⟨rfl, B3⟩
  unfold threeV
  have L3 : Below w.heap.size w w3 := L2.trans (B3.mono L2.size)
  generalize checkS xs deep = r
  have r1 : (r.1 == r.1) = true := by simp
  have r2 : (r.2.1 == r.2.1) = true := by simp
  have r3 : (r.2.2 == r.2.2) = true := by simp
  go_wp2_with fail
  refine (kept_any g n c ao cap xs _ _ (hs.below L3) hn hc1 hm1 ((hin.belowA B2).belowA B3)).mono ?_
  rintro e w4 ⟨rfl, q, rfl⟩
  go_wp2_with fail
  refine (names_any _).mono ?_
  rintro e w5 ⟨rfl, rfl⟩
  go_wp2
  go_ret
  exact ⟨rfl, ⟨L3.os, L3.tape, L3.output, L3.size, L3.block⟩⟩

namespace derChecks

set_option maxRecDepth 100000 in
theorem lifted (os : Os) (started : os.Started) (H : Type) (enc : TypeId × Value → H) :
    ReturnsInHanded {} Try.checked os 6 .any (Rows.derChecksSpec.pre6 enc Try.prog Try.f6 Rows.derChecksRow.domain false) (Rows.derChecksSpec.post enc Try.prog Try.f6 false true false false) := by
  refine returnsInHanded_of_change_sized (C := Try.checked) Try.own started (by kernel_rfl) Try.func6
    (ChangeSpec.witness6 (enc := enc) (C := Try.checked) false ⟨#[], #[.slice none 0 0, .int .i64 0], []⟩ 8 (by kernel_rfl) (by kernel_rfl) (by kernel_rfl) (by kernel_rfl)) ?_
  intro W base args ds gs before hval0 hW _ hsz0 _
  have hsz : (DataW.weightsEach Try.prog (Try.f6.params.toList ++ Rows.derChecksSpec.plain.varTypes Try.prog) (ds ++ gs)).all (· ≤ reachBytes) = true := hsz0
  have hval : ∀ (j : Nat) t v, Try.f6.params[j]? = some t → args[j]? = some v → Value.okWide Try.prog W .any base t v := hval0
  have hW' := hW
  obtain ⟨p, q, hA0, hV, rfl, hfz, hnd⟩ := hW
  have hA : DataW.TrodAll enc Try.prog W 0 (fun _ => true) true Try.f6.params.toList args.toList ds p := hA0
  rw [Try.params6] at hA hval hsz
  obtain ⟨v0, vs0, d0, ds0, p0, q0, hargs, rfl, rfl, h0, r0⟩ := trodAll_cons hA
  obtain ⟨v1, vs1, d1, ds1, p1, q1, rfl, rfl, rfl, h1, r1⟩ := trodAll_cons r0
  obtain ⟨rfl, rfl, rfl⟩ := trodAll_nil r1
  obtain rfl : args = #[v0, v1] := by cases args; simp_all
  obtain ⟨rfl, rfl⟩ := trodVars_none hV
  obtain ⟨a0, len0, cap0, rfl⟩ := okWide_slice Try.underlying22 (hval 0 22 v0 rfl rfl)
  obtain ⟨t, rfl, rfl, rfl, wt⟩ := open_int Try.underlying3 (hval 1 3 v1 rfl rfl) h1
  have k0 := h0
  have lt0 : ∀ x ∈ p0, x.block < W.heap.size := by obtain ⟨m, hm⟩ := k0; exact DataW.trod_lt m _ _ _ hm
  obtain ⟨xs, hs, hd⟩ := open_bytes h0
  have hn : len0 ≤ 140737488351232 := by
    rcases hd with ⟨_, rfl, _⟩ | ⟨el, sp, rfl, hc⟩
    · omega
    · have h1 := sized_slice hsz (j := 0) (t := 22) (e := 5) rfl rfl Try.underlying22
      rw [Try.bytesB] at h1
      have h2 := hs.hcap
      simp only [reachBytes] at h1
      omega
  clear hA0 hval0 hsz0
  refine (checks_walk a0 len0 cap0 xs t W hs hn).mono fun e W' ⟨he, bel⟩ => ?_
  subst he
  exact ⟨_, rfl, _, _, _, [], _, [], hW', trodAll_mk1 (shut_bool Try.underlying4 _), (trodAll_cons_mk (Below.trod Try.laidOut (by kernel_rfl) (of_decide_eq_true (by kernel_rfl)) k0 bel lt0) (trodAll_cons_mk (shut_int Try.underlying3 wt) trodAll_mk0)), rfl, bel.frame _, fun h => by cases h⟩

theorem over : Rows.derChecksRow.holds Try.pinned (OpenSpec.ofChange Rows.derChecksSpec) :=
  OpenClaim.holds_of_wide 6 Try.f6 rfl rfl rfl rfl rfl rfl rfl ⟨rfl, rfl, rfl, rfl, rfl⟩ rfl rfl rfl rfl rfl (by kernel_rfl) Try.func6 (by kernel_rfl)
    (of_decide_eq_true (by kernel_rfl)) (by unfold Func.isWrapper; first | (rw [if_pos (by decide +kernel)]; kernel_rfl) | (rw [if_neg (by decide +kernel)]; exact ⟨rfl, rfl⟩))
    (fun os started H enc _ => lifted os started H enc)

end derChecks

theorem derChecks_holds : Rows.DerChecksSaid := derChecks.over
#print axioms derChecks_holds
end Go.Proofs.Ytdoijgkdmfchaaa
