/-
  The document's May.
-/
import Derived.Test.YtgbbgfjamneioaaDoorXNmRMay
namespace Go.Proofs.YtgbbgfjamneioaaDoor
open Go.RowKit Go.IntWalk Go.Shelf

set_option maxRecDepth 100000 in
set_option maxHeartbeats 2000000 in
theorem rmayN_any (ao : Option Addr) (n cap : Nat) (xs : List (Int × ByteArray)) (w : World) (hA : Ats w ao n cap xs) (hz : ∀ x ∈ xs, x.2.size ≤ 140737488355328) :
    Calls Tryd.prog 13 #[.slice ao n cap] w fun e w' => e = .returned (.bool (nameL xs)) ∧ Below w.heap.size w w' := by
  have HL := hide hA.hl
  have hc := hA.hcap
  have hm := hA.hmax
  unfold maxLen at hm
  have HA := hide hA
  have HZ := hide hz
  have hR : Hid (nameL xs = (decide (n ≤ 16) && xs.all (fun x => attrL x.1 x.2.data.toList))) := by unfold Hid nameL; rw [HL.out]
  clear hA hz
  generalize nameL xs = R at hR ⊢
  go_enter Tryd.func13, Tryd.ntmps13
  go_wp2
  go_loopw [3] (fun v wr => ∃ k : Nat, v = .int .i64 k ∧ k ≤ n ∧ Hid (xs.all (fun x => attrL x.1 x.2.data.toList) = (xs.drop k).all (fun x => attrL x.1 x.2.data.toList)) ∧ Hid (Below w.heap.size w wr)) (fun v _ => n - (intOf v).toNat)
  case atStart => exact ⟨0, rfl, Nat.zero_le _, rfl, Below.refl _ _⟩
  case round =>
    obtain ⟨k, rfl, hk, hE, hQ⟩ := hrel
    by_cases hlt : k < n
    · have ltI : (k : Int) < (n : Int) := by omega
      obtain ⟨b, off, rfl, hcl⟩ := (HA.out.below hQ.out).hrd (by omega)
      obtain ⟨c0, c1⟩ := hcl k hlt
      have hst := hide (all_dropN (fun x => attrL x.1 x.2.data.toList) xs k (by rw [HL.out]; exact hlt))
      have hsz := HZ.out _ (getD_mem (xs := xs) (i := k) (by rw [HL.out]; exact hlt))
      generalize xs.getD k (0, ByteArray.empty) = x at c0 c1 hst hsz
      obtain ⟨t, s⟩ := x
      simp only [] at c0 c1 hsz
      clear hcl
      have hB := hide (fun W => mayAttr_any t s hsz W)
      replace hst : Hid ((xs.drop k).all (fun x => attrL x.1 x.2.data.toList) = (attrL t s.data.toList && (xs.drop (k + 1)).all (fun x => attrL x.1 x.2.data.toList))) := hst.out
      generalize attrL t s.data.toList = q at hB hst
      cases q with
      | true =>
        have hE2 : Hid (xs.all (fun x => attrL x.1 x.2.data.toList) = (xs.drop (k + 1)).all (fun x => attrL x.1 x.2.data.toList)) := by unfold Hid; rw [hE.out, hst.out, Bool.true_and]
        go_wp2_with fail
        refine (hB.out _).mono ?_
        rintro e w1 ⟨rfl, L1⟩
        go_wp2
        go_roundw
        case rel => exact ⟨k + 1, by simp, by omega, hE2, hQ.out.trans (L1.mono hQ.out.size)⟩
        case measure => simp [intOf]; omega
      | false =>
        have hF : Hid (R = false) := by unfold Hid; rw [hR.out, hE.out, hst.out]; simp
        go_wp2_with fail
        refine (hB.out _).mono ?_
        rintro e w1 ⟨rfl, L1⟩
        go_wp2
        go_ret
        exact ⟨by rw [hF.out]; rfl, hQ.out.trans (L1.mono hQ.out.size)⟩
    · have ltI : ¬ (k : Int) < (n : Int) := by omega
      have hall : xs.all (fun x => attrL x.1 x.2.data.toList) = true := by rw [hE.out, List.drop_eq_nil_of_le (by rw [HL.out]; omega)]; rfl
      have hF : Hid (R = decide (n ≤ 16)) := by unfold Hid; rw [hR.out, hall, Bool.and_true]
      by_cases h16 : n ≤ 16
      · have i16 : (n : Int) ≤ 16 := by omega
        go_wp2
        go_ret
        exact ⟨by rw [hF.out, decide_eq_true h16]; rfl, hQ.out⟩
      · have i16 : ¬ (n : Int) ≤ 16 := by omega
        go_wp2
        go_ret
        exact ⟨by rw [hF.out, decide_eq_false h16]; rfl, hQ.out⟩

end Go.Proofs.YtgbbgfjamneioaaDoor
