/-
  For any modulus and any two numbers, ModGroup answers true: a power of a sum of exponents is the product of the powers; what has an inverse gives 1 with it, and is the inverse of the inverse; a product has one just if both have; the arguments are left as they were. No condition.
-/
import Derived.Test.YtobdpcmafjhnlaaOpenU
import Derived.Test.YtobdpcmafjhnlaaMGroup
namespace Go.Proofs.Ytobdpcmafjhnlaa
open Go.ChangeShapes Go.WideShapes Go.ChangeAt Go.RowKit
namespace modGroup

set_option maxRecDepth 100000 in
theorem lifted (os : Os) (started : os.Started) (H : Type) (enc : TypeId × Value → H) :
    ReturnsInHanded {} Try.checked os 8 .any (Rows.modGroupSpec.pre6 enc Try.prog Try.f8 Rows.modGroupRow.domain false) (Rows.modGroupSpec.post enc Try.prog Try.f8 false true false false) := by
  refine returnsInHanded_of_change_sized (C := Try.checked) Try.own started (by kernel_rfl) Try.func8
    (ChangeSpec.witness6 (enc := enc) (C := Try.checked) false ⟨#[], #[.slice none 0 0, .slice none 0 0, .slice none 0 0], []⟩ 8 (by kernel_rfl) (by kernel_rfl) (by kernel_rfl) (by kernel_rfl)) ?_
  intro W base args ds gs before hval0 hW _ hsz0 _
  have hsz : (DataW.weightsEach Try.prog (Try.f8.params.toList ++ Rows.modGroupSpec.plain.varTypes Try.prog) (ds ++ gs)).all (· ≤ reachBytes) = true := hsz0
  have hval : ∀ (j : Nat) t v, Try.f8.params[j]? = some t → args[j]? = some v → Value.okWide Try.prog W .any base t v := hval0
  have hW' := hW
  obtain ⟨p, q, hA0, hV, rfl, hfz, hnd⟩ := hW
  have hA : DataW.TrodAll enc Try.prog W 0 (fun _ => true) true Try.f8.params.toList args.toList ds p := hA0
  rw [Try.params8] at hA hval hsz
  obtain ⟨v0, vs0, d0, ds0, p0, q0, hargs, rfl, rfl, h0, r0⟩ := trodAll_cons hA
  obtain ⟨v1, vs1, d1, ds1, p1, q1, rfl, rfl, rfl, h1, r1⟩ := trodAll_cons r0
  obtain ⟨v2, vs2, d2, ds2, p2, q2, rfl, rfl, rfl, h2, r2⟩ := trodAll_cons r1
  obtain ⟨rfl, rfl, rfl⟩ := trodAll_nil r2
  obtain rfl : args = #[v0, v1, v2] := by cases args; simp_all
  obtain ⟨rfl, rfl⟩ := trodVars_none hV
  obtain ⟨a0, len0, cap0, rfl⟩ := okWide_slice Try.underlying23 (hval 0 23 v0 rfl rfl)
  obtain ⟨a1, len1, cap1, rfl⟩ := okWide_slice Try.underlying23 (hval 1 23 v1 rfl rfl)
  obtain ⟨a2, len2, cap2, rfl⟩ := okWide_slice Try.underlying23 (hval 2 23 v2 rfl rfl)
  have k0 := h0
  have lt0 : ∀ x ∈ p0, x.block < W.heap.size := by obtain ⟨m, hm⟩ := k0; exact DataW.trod_lt m _ _ _ hm
  obtain ⟨xs0, hs0, hd0⟩ := open_limbs h0
  have hn0 : len0 ≤ 17592186043904 := by
    rcases hd0 with ⟨_, rfl, _⟩ | ⟨el, sp, rfl, hc⟩
    · omega
    · have h1 := sized_slice hsz (j := 0) (t := 23) (e := 52) rfl rfl Try.underlying23
      rw [Try.bytesU] at h1
      have h2 := hs0.hcap
      simp only [reachBytes] at h1
      omega
  have k1 := h1
  have lt1 : ∀ x ∈ p1, x.block < W.heap.size := by obtain ⟨m, hm⟩ := k1; exact DataW.trod_lt m _ _ _ hm
  obtain ⟨xs1, hs1, hd1⟩ := open_limbs h1
  have hn1 : len1 ≤ 17592186043904 := by
    rcases hd1 with ⟨_, rfl, _⟩ | ⟨el, sp, rfl, hc⟩
    · omega
    · have h1 := sized_slice hsz (j := 1) (t := 23) (e := 52) rfl rfl Try.underlying23
      rw [Try.bytesU] at h1
      have h2 := hs1.hcap
      simp only [reachBytes] at h1
      omega
  have k2 := h2
  have lt2 : ∀ x ∈ p2, x.block < W.heap.size := by obtain ⟨m, hm⟩ := k2; exact DataW.trod_lt m _ _ _ hm
  obtain ⟨xs2, hs2, hd2⟩ := open_limbs h2
  have hn2 : len2 ≤ 17592186043904 := by
    rcases hd2 with ⟨_, rfl, _⟩ | ⟨el, sp, rfl, hc⟩
    · omega
    · have h1 := sized_slice hsz (j := 2) (t := 23) (e := 52) rfl rfl Try.underlying23
      rw [Try.bytesU] at h1
      have h2 := hs2.hcap
      simp only [reachBytes] at h1
      omega
  clear hA0 hval0 hsz0
  refine (group_walk a0 len0 cap0 xs0 a1 len1 cap1 xs1 a2 len2 cap2 xs2 W hs0 hs1 hs2).mono fun e W' ⟨he, bel⟩ => ?_
  subst he
  exact ⟨_, rfl, _, _, _, [], _, [], hW', trodAll_mk1 (shut_bool Try.underlying4 _), (trodAll_cons_mk (Below.trod Try.laidOut (by kernel_rfl) (of_decide_eq_true (by kernel_rfl)) k0 bel lt0) (trodAll_cons_mk (Below.trod Try.laidOut (by kernel_rfl) (of_decide_eq_true (by kernel_rfl)) k1 bel lt1) (trodAll_cons_mk (Below.trod Try.laidOut (by kernel_rfl) (of_decide_eq_true (by kernel_rfl)) k2 bel lt2) trodAll_mk0))), rfl, bel.frame _, fun h => by cases h⟩

theorem over : Rows.modGroupRow.holds Try.pinned (OpenSpec.ofChange Rows.modGroupSpec) :=
  OpenClaim.holds_of_wide 8 Try.f8 rfl rfl rfl rfl rfl rfl rfl ⟨rfl, rfl, rfl, rfl, rfl⟩ rfl rfl rfl rfl rfl (by kernel_rfl) Try.func8 (by kernel_rfl)
    (of_decide_eq_true (by kernel_rfl)) (by unfold Func.isWrapper; first | (rw [if_pos (by decide +kernel)]; kernel_rfl) | (rw [if_neg (by decide +kernel)]; exact ⟨rfl, rfl⟩))
    (fun os started H enc _ => lifted os started H enc)

end modGroup

theorem modGroup_holds : Rows.ModGroupSaid := modGroup.over
#print axioms modGroup_holds
end Go.Proofs.Ytobdpcmafjhnlaa
