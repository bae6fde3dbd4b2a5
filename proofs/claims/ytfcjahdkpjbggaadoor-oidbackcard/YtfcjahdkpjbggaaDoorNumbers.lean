/-
  oid.numbers$1, the function that is ranged over: it goes over the numbers in a content, each with its place, and gives up at the first that is wrong.
-/
import Derived.RangeFuncNested
import Derived.RangeFuncBound
import Derived.RangeFuncCalls
import Derived.RangeFuncLeaves
import Derived.Shelf.Abstract
import Derived.Shelf.RegionOpen
import Derived.WalkKit
import Derived.OwnWalkIn
import Derived.TacticsInMore
import Derived.LoopNIn
import Derived.LoopIn
import Derived.Test.YtfcjahdkpjbggaaDoorNextM
import Derived.Test.YtfcjahdkpjbggaaDoorNumber
import Derived.Test.YtfcjahdkpjbggaaDoorRangeP
namespace Go.Proofs.YtfcjahdkpjbggaaDoor
open Go.RowKit Go.Shelf Go.IntWalk
attribute [local go_sem] Oper.semAt_some

/-- What is kept while the numbers are gone over: the bytes, and the variable that holds them. -/
def Held (Bs : Nat) (ao : Option Addr) (len cap : Nat) (xs : List Int) (W : World) : Prop := Src W ao len cap xs ∧ W.cell? ⟨Bs, 0, none⟩ = some (.slice ao len cap)

set_option maxRecDepth 100000 in
set_option maxHeartbeats 4000000 in
theorem numbers1_in (n : Nat) (hn : 1 ≤ n) (l Bs : Nat) (ao : Option Addr) (len cap : Nat) (xs : List Int) (hN : len ≤ 140737488355328) (J : Nat → World → Prop) (Jx : World → Prop) (W : World)
    (hH : ∀ p W1, J p W1 → Held Bs ao len cap xs W1) (hDr : ∀ p W1 W2, J p W1 → Drawn W1 W2 → J p W2)
    (hY : ∀ (p k : Nat) (N : Int) W1, J p W1 → p < len → p + k ≤ len → 0 < k → nextS (xs.drop p) = (N, k, 0) → YieldAt Fence.wide (n - 1) Tryd.prog l #[.int .i64 p, .int .i64 N] W1 fun e W' =>
      (e = .returned (.bool true) ∧ J (p + k) W') ∨ (e = .returned (.bool false) ∧ Jx W'))
    (h0 : J 0 W) :
    CallsIn Fence.wide n Tryd.prog 25 #[.func (.yield l) #[] #[], .pointer (some ⟨Bs, 0, none⟩)] W fun e W' =>
      ((∃ v, e = .returned v) ∧ (J len W' ∨ Jx W')) ∨ (∃ p, p < len ∧ (nextS (xs.drop p)).2.2 ≠ 0 ∧ e = .panicked (errP (nextS (xs.drop p)).2.2) ∧ J p W') := by
  have HL := hide (hH 0 W h0).1.hlen
  refine callsIn_of_wp Tryd.func25 rfl trivial ?_ rfl
  simp only [Tryd.ntmps25, List.size_toArray, List.length_cons, List.length_nil, Nat.reduceAdd, Nat.reduceSub, Array.replicate_succ, Array.replicate_zero, List.push_toArray, List.append_toArray, List.nil_append, List.cons_append]
  gi_wp2
  gi_loopw [3] (fun i wr => ∃ p : Nat, i = .int .i64 p ∧ p ≤ len ∧ Hid (J p wr)) (fun i _ => len - (intOf i).toNat)
  case atStart => exact ⟨0, rfl, Nat.zero_le _, h0⟩
  case round =>
    obtain ⟨p, rfl, hp, hJ⟩ := hrel
    obtain ⟨hsrc, hc⟩ := hH p _ hJ.out
    by_cases hlt : p < len
    · have hs1 := hsrc.cut p len hp (Nat.le_refl _)
      have ed : (xs.take len).drop p = xs.drop p := by rw [List.take_of_length_le (by rw [HL.out]; exact Nat.le_refl _)]
      rw [ed] at hs1
      have sl := fun X => slice_lo X ao len cap p p rfl hp
      generalize cutA ao cap p = A at hs1 sl
      have hltI : (p : Int) < (len : Int) := by omega
      have hnum := hide (number_any _ _ _ (xs.drop p) _ hs1 (by omega) (by omega))
      have hbyt := hide hs1.hbyt
      clear hs1 ed hsrc
      by_cases hz : (nextS (xs.drop p)).2.2 = 0
      · have hin := nextS_in (xs.drop p) hz
        have hsz := nextS_size (xs.drop p) hbyt.out hz
        obtain ⟨N, k, hnk⟩ : ∃ N k, nextS (xs.drop p) = (N, k, 0) := ⟨(nextS (xs.drop p)).1, (nextS (xs.drop p)).2.1, by rw [← hz]⟩
        have HY := hide (fun W1 (h : J p W1) => hY p k N W1 h hlt (by have h2 := hin.2.2.2; rw [hnk, List.length_drop, HL.out] at h2; have h3 : k ≤ len - p := h2; omega) (by have h2 := hin.2.2.1; rw [hnk] at h2; exact h2) hnk)
        rw [hnk] at hnum hin hsz
        have q0 : 0 ≤ N := hin.1
        have q1 : N ≤ 2147483647 := hin.2.1
        have q2 : 0 < k := hin.2.2.1
        have q3 : p + k ≤ len := by have h2 := hin.2.2.2; rw [List.length_drop, HL.out] at h2; have h3 : k ≤ len - p := h2; omega
        have hsz : Hid (sizeS N = (k : Int)) := hsz
        have hnum : Hid (Calls Tryd.prog 26 #[.slice A (len - p) (cap - p)] wr fun e w' => e = .returned (.int .i64 N) ∧ Drawn wr w') := hnum
        clear hnk hin hz hY
        have hsc := hide (fun W => osize_any N q0 (by omega) W)
        rw [hsz.out] at hsc
        have hDr' := hide (hDr p)
        gi_wp2_with (refine ⟨trivial, ?_⟩; gi_at_call 26; refine (callsIn_wide.2 hnum.out).mono ?_; rintro e w1 ⟨rfl, D1⟩; obtain ⟨fn, tmps, assign, body, hy, hR⟩ := HY.out w1 (hDr'.out _ _ hJ.out D1))
        refine hR.mono ?_
        rintro e W3 (⟨rfl, hJ3⟩ | ⟨rfl, hJx3⟩)
        · gi_wp2_with (refine ⟨trivial, ?_⟩; gi_at_call 16; refine (callsIn_wide.2 (hsc.out _)).mono ?_; rintro e w4 ⟨rfl, hw4⟩)
          exact ⟨⟨p + k, by simp, q3, hJ3⟩, by simp [intOf]; omega⟩
        · gi_wp2
          refine bodyPost_ret (results_none rfl _ _ _) rfl ?_
          exact .inl ⟨⟨_, rfl⟩, .inr hJx3⟩
      · have hbad := hide hz
        have hnum : Hid (Calls Tryd.prog 26 #[.slice A (len - p) (cap - p)] wr fun e w' => e = .panicked (errP (nextS (xs.drop p)).2.2) ∧ Drawn wr w') := by
          refine hnum.out.mono ?_
          rintro e w1 ⟨rfl, D1⟩
          exact ⟨by unfold numEnd; rw [if_neg hbad.out], D1⟩
        clear hz hY
        have hDr' := hide (hDr p)
        gi_wp2_with (refine ⟨trivial, ?_⟩; gi_at_call 26; refine (callsIn_wide.2 hnum.out).mono ?_; rintro e w1 ⟨rfl, D1⟩)
        exact ⟨rfl, .inr ⟨p, hlt, hbad.out, rfl, hDr'.out _ _ hJ.out D1⟩⟩
    · obtain rfl : p = len := by omega
      gi_wp2
      go_end0
      exact .inl ⟨⟨_, rfl⟩, .inl hJ.out⟩

end Go.Proofs.YtfcjahdkpjbggaaDoor
