/-
  For every set of flags, NumFlags answers true: num.Flags lays just the content that the document says, in memory of its own. No condition.
-/
import Derived.Test.YtfhickdaofhhgabRows
import Derived.Test.YtfhickdaofhhgabRFlags
import Derived.Test.YtfhickdaofhhgabNLent
import Derived.ProofKit
import Derived.OpenShut
import Derived.ShutString
import Derived.ChangeOld
import Derived.Below
namespace Go.Proofs.Ytfhickdaofhhgab
namespace numFlags
open Go.ChangeShapes Go.WideShapes Go.ChangeAt Go.RowKit

theorem own : ownKnob Try.prog.godebug = none := by kernel_rfl

set_option maxRecDepth 100000 in
set_option maxHeartbeats 1000000 in
theorem walk (s : Int) (h0 : 0 ≤ s) (h1 : s < 65536) (w : World) :
    Calls Try.prog 5 #[.int .u16 s] w fun e w' => e = .returned (.bool true) ∧ Below w.heap.size w w' := by
  have nb := hide (flagsS_byte s h0 h1)
  have nl := hide (flagsS_len s)
  have H := hide (flags_any s h0 h1)
  have HR : Hid (∀ W, Calls Try.prog 18 #[.int .u16 s] W fun e w' => ∃ g c', e = .returned (.slice (some ⟨g, 0, none⟩) (flagsS s).length c') ∧ OwnB w' W.heap.size (.slice (some ⟨g, 0, none⟩) (flagsS s).length c') (flagsS s) ∧ Below W.heap.size W w') := by
    obtain ⟨S, rfl⟩ := Int.eq_ofNat_of_zero_le h0
    exact fun W => refFlags_any S h1 W
  go_enter Try.func5, Try.ntmps5
  go_wp2_with fail
  refine (H.out _).mono ?_
  rintro e w2 ⟨gX, cX, rfl, hX0, B2⟩
  have hX := hX0.toO
  go_wp2_with fail
  refine (H.out _).mono ?_
  rintro e w3 ⟨gY, cY, rfl, hY0, B3⟩
  have hY := hY0.toO
  go_wp2_with fail
  refine (HR.out _).mono ?_
  rintro e w4 ⟨gZ, cZ, rfl, hZ, B4⟩
  go_wp2_with fail
  refine (own_any w.heap.size _ _ _ _ _ _ _ _ _ (flagsS s) _ nb.out ((hX.below B3).below B4) ((hY.below B4).src nb.out) (hZ.toSrc nb.out) (hX.apart hY (Nat.le_refl _)) (hX.apart hZ.toO B3.size) (by have := nl.out; omega)).mono ?_
  rintro e w5 ⟨rfl, G5⟩
  have L : Below w.heap.size w w4 := (B2.trans (B3.mono B2.size)).trans (B4.mono (Nat.le_trans B2.size B3.size))
  have B5 : Below w.heap.size w w5 := L.grown G5 L.size (by intro k hk; exact (hX.lt k hk).1)
  go_wp2_with fail
  refine (nnames_any _).mono ?_
  rintro e w7 ⟨rfl, rfl⟩
  go_wp2
  go_ret
  exact ⟨rfl, B5⟩

set_option maxRecDepth 100000 in
theorem lifted (os : Os) (started : os.Started) (H : Type) (enc : TypeId × Value → H) :
    ReturnsInHanded {} Try.checked os 5 .any (Rows.numFlagsSpec.pre6 enc Try.prog Try.f5 Rows.numFlagsRow.domain false) (Rows.numFlagsSpec.post enc Try.prog Try.f5 false true false false) := by
  refine returnsInHanded_of_change (C := Try.checked) own started (by kernel_rfl) Try.func5
    (ChangeSpec.witness6 (enc := enc) (C := Try.checked) false ⟨#[], #[.int .u16 0], []⟩ 8 (by kernel_rfl) (by kernel_rfl) (by kernel_rfl) (by kernel_rfl)) ?_
  intro W base args ds gs before hval0 hW hcnd _
  have hval : ∀ (j : Nat) t v, Try.f5.params[j]? = some t → args[j]? = some v → Value.okWide Try.prog W .any base t v := hval0
  have hW' := hW
  obtain ⟨p, q, hA0, hV, rfl, hfz, hnd⟩ := hW
  have hA : DataW.TrodAll enc Try.prog W 0 (fun _ => true) true Try.f5.params.toList args.toList ds p := hA0
  rw [Try.params5] at hA hval
  obtain ⟨v0, vs0, d0, ds0, p0, q0, hargs, rfl, rfl, h0, r0⟩ := trodAll_cons hA
  obtain ⟨rfl, rfl, rfl⟩ := trodAll_nil r0
  obtain rfl : args = #[v0] := by cases args; simp_all
  obtain ⟨rfl, rfl⟩ := trodVars_none hV
  obtain ⟨a0, rfl, rfl, rfl, w0⟩ := open_int Try.underlying35 (hval 0 35 v0 rfl rfl) h0
  clear hA0 hval0
  simp only [List.append_nil] at hW'
  have hb : 0 ≤ a0 ∧ a0 < 65536 := by have := bounds_u16 w0; omega
  refine (walk a0 hb.1 hb.2 W).mono fun e W' ⟨he, bel⟩ => ?_
  subst he
  exact ⟨_, rfl, _, _, _, [], [], [], hW', trodAll_mk1 (shut_bool Try.underlying4 _), (trodAll_cons_mk (shut_int Try.underlying35 w0) trodAll_mk0), rfl, bel.frame _, fun h => by cases h⟩

theorem over : Rows.numFlagsRow.holds Try.pinned (OpenSpec.ofChange Rows.numFlagsSpec) :=
  OpenClaim.holds_of_wide 5 Try.f5 rfl rfl rfl rfl rfl rfl rfl ⟨rfl, rfl, rfl, rfl, rfl⟩ rfl rfl rfl rfl rfl (by kernel_rfl) Try.func5 (by kernel_rfl)
    (of_decide_eq_true (by kernel_rfl)) (by unfold Func.isWrapper; first | (rw [if_pos (by decide +kernel)]; kernel_rfl) | (rw [if_neg (by decide +kernel)]; exact ⟨rfl, rfl⟩))
    (fun os started H enc _ => lifted os started H enc)

end numFlags

theorem numFlags_holds : Rows.NumFlagsSaid := numFlags.over
#print axioms numFlags_holds
end Go.Proofs.Ytfhickdaofhhgab
