/-
  For every integer, NumInts answers true: num.Int and num.Bool lay just the content that the document says, each in memory of its own. No condition.
-/
import Derived.Test.YtodhlmnjfkbocaaRows
import Derived.Test.YtodhlmnjfkbocaaRIntIt
import Derived.Test.YtodhlmnjfkbocaaBool
import Derived.Test.YtodhlmnjfkbocaaNLent
import Derived.ProofKit
import Derived.OpenShut
import Derived.ShutString
import Derived.ChangeOld
import Derived.Below
namespace Go.Proofs.Ytodhlmnjfkbocaa
section
open Go.RowKit Go.IntWalk
theorem refBool_any (v : Bool) (w : World) :
    Calls Try.prog 28 #[.bool v] w fun e w' => ∃ g, e = .returned (.slice (some ⟨g, 0, none⟩) 1 1) ∧ OwnB w' w.heap.size (.slice (some ⟨g, 0, none⟩) 1 1) (boolS v) ∧ Below w.heap.size w w' := by
  cases v with
  | true =>
    go_enter Try.func28, Try.ntmps28
    go_wp2
    go_ret
    exact ⟨_, rfl, OwnB.lit _ [255] _ 1 rfl rfl (Nat.le_refl _) (by decide), (Below.refl _ _).alloc (Nat.le_refl _) _⟩
  | false =>
    go_enter Try.func28, Try.ntmps28
    go_wp2
    go_ret
    exact ⟨_, rfl, OwnB.lit _ [0] _ 1 rfl rfl (Nat.le_refl _) (by decide), (Below.refl _ _).alloc (Nat.le_refl _) _⟩
end
namespace numInts
open Go.ChangeShapes Go.WideShapes Go.ChangeAt Go.RowKit

theorem own : ownKnob Try.prog.godebug = none := by kernel_rfl

set_option maxRecDepth 100000 in
set_option maxHeartbeats 1000000 in
theorem walk (s : Int) (h0 : -9223372036854775808 ≤ s) (h1 : s < 9223372036854775808) (w : World) :
    Calls Try.prog 7 #[.int .i64 s] w fun e w' => e = .returned (.bool true) ∧ Below w.heap.size w w' := by
  have nb := hide (intS_byte s)
  have nl := hide (intS_len s)
  have H := hide (int_any s)
  have HR := hide (refInt_any s h0 h1)
  go_enter Try.func7, Try.ntmps7
  go_wp2_with fail
  refine (H.out _).mono ?_
  rintro e w2 ⟨gX, cX, rfl, hX, B2⟩
  go_wp2_with fail
  refine (H.out _).mono ?_
  rintro e w3 ⟨gY, cY, rfl, hY, B3⟩
  go_wp2_with fail
  refine (HR.out _).mono ?_
  rintro e w4 ⟨gZ, nZ, cZ, rfl, hZ, B4⟩
  go_wp2_with fail
  refine (own_any w.heap.size _ _ _ _ _ _ _ _ _ (intS s) _ nb.out ((hX.below B3).below B4) ((hY.below B4).src nb.out) (hZ.toSrc nb.out) (hX.apart hY (Nat.le_refl _)) (hX.apart hZ.toO B3.size) (by have := nl.out; omega)).mono ?_
  rintro e w5 ⟨rfl, G5⟩
  have L : Below w.heap.size w w4 := (B2.trans (B3.mono B2.size)).trans (B4.mono (Nat.le_trans B2.size B3.size))
  have B5 : Below w.heap.size w w5 := L.grown G5 L.size (by intro k hk; exact (hX.lt k hk).1)
  go_wp2_with fail
  refine (bool_any _ _).mono ?_
  rintro e w6 ⟨gU, rfl, hU, B6⟩
  go_wp2_with fail
  refine (bool_any _ _).mono ?_
  rintro e w7 ⟨gV, rfl, hV, B7⟩
  go_wp2_with fail
  refine (refBool_any _ _).mono ?_
  rintro e w8 ⟨gW, rfl, hW, B8⟩
  have ob := boolS_byte (s.tmod 2 == 0)
  have OB := hide ob
  clear ob
  go_wp2_with fail
  refine (own_any w5.heap.size _ _ _ _ _ _ _ _ _ (boolS (s.tmod 2 == 0)) _ OB.out ((hU.toO.below B7).below B8) ((hV.toO.below B8).src OB.out) (hW.toSrc OB.out) (hU.toO.apart hV.toO (Nat.le_refl _)) (hU.toO.apart hW.toO B7.size) (by omega)).mono ?_
  rintro e w9 ⟨rfl, G9⟩
  have M : Below w5.heap.size w5 w8 := (B6.trans (B7.mono B6.size)).trans (B8.mono (Nat.le_trans B6.size B7.size))
  have B9 : Below w5.heap.size w5 w9 := M.grown G9 M.size (by intro k hk; exact (hU.toO.lt k hk).1)
  go_wp2_with fail
  refine (nnames_any _).mono ?_
  rintro e w10 ⟨rfl, rfl⟩
  go_wp2
  go_ret
  exact ⟨rfl, B5.trans (B9.mono B5.size)⟩

set_option maxRecDepth 100000 in
theorem lifted (os : Os) (started : os.Started) (H : Type) (enc : TypeId × Value → H) :
    ReturnsInHanded {} Try.checked os 7 .any (Rows.numIntsSpec.pre6 enc Try.prog Try.f7 Rows.numIntsRow.domain false) (Rows.numIntsSpec.post enc Try.prog Try.f7 false true false false) := by
  refine returnsInHanded_of_change (C := Try.checked) own started (by kernel_rfl) Try.func7
    (ChangeSpec.witness6 (enc := enc) (C := Try.checked) false ⟨#[], #[.int .i64 0], []⟩ 8 (by kernel_rfl) (by kernel_rfl) (by kernel_rfl) (by kernel_rfl)) ?_
  intro W base args ds gs before hval0 hW hcnd _
  have hval : ∀ (j : Nat) t v, Try.f7.params[j]? = some t → args[j]? = some v → Value.okWide Try.prog W .any base t v := hval0
  have hW' := hW
  obtain ⟨p, q, hA0, hV, rfl, hfz, hnd⟩ := hW
  have hA : DataW.TrodAll enc Try.prog W 0 (fun _ => true) true Try.f7.params.toList args.toList ds p := hA0
  rw [Try.params7] at hA hval
  obtain ⟨v0, vs0, d0, ds0, p0, q0, hargs, rfl, rfl, h0, r0⟩ := trodAll_cons hA
  obtain ⟨rfl, rfl, rfl⟩ := trodAll_nil r0
  obtain rfl : args = #[v0] := by cases args; simp_all
  obtain ⟨rfl, rfl⟩ := trodVars_none hV
  obtain ⟨a0, rfl, rfl, rfl, w0⟩ := open_int Try.underlying2 (hval 0 2 v0 rfl rfl) h0
  clear hA0 hval0
  simp only [List.append_nil] at hW'
  have hb : -9223372036854775808 ≤ a0 ∧ a0 < 9223372036854775808 := by have := bounds_i64 w0; omega
  refine (walk a0 hb.1 hb.2 W).mono fun e W' ⟨he, bel⟩ => ?_
  subst he
  exact ⟨_, rfl, _, _, _, [], [], [], hW', trodAll_mk1 (shut_bool Try.underlying4 _), (trodAll_cons_mk (shut_int Try.underlying2 w0) trodAll_mk0), rfl, bel.frame _, fun h => by cases h⟩

theorem over : Rows.numIntsRow.holds Try.pinned (OpenSpec.ofChange Rows.numIntsSpec) :=
  OpenClaim.holds_of_wide 7 Try.f7 rfl rfl rfl rfl rfl rfl rfl ⟨rfl, rfl, rfl, rfl, rfl⟩ rfl rfl rfl rfl rfl (by kernel_rfl) Try.func7 (by kernel_rfl)
    (of_decide_eq_true (by kernel_rfl)) (by unfold Func.isWrapper; first | (rw [if_pos (by decide +kernel)]; kernel_rfl) | (rw [if_neg (by decide +kernel)]; exact ⟨rfl, rfl⟩))
    (fun os started H enc _ => lifted os started H enc)

end numInts

theorem numInts_holds : Rows.NumIntsSaid := numInts.over
#print axioms numInts_holds
end Go.Proofs.Ytodhlmnjfkbocaa
