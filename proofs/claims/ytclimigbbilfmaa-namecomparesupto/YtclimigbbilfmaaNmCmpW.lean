/-
  The statement NameCompares: its walk.
-/
import Derived.Test.YtclimigbbilfmaaNmRefB
import Derived.Test.YtclimigbbilfmaaNmLaw
namespace Go.Proofs.Ytclimigbbilfmaa
open Go.RowKit Go.IntWalk Go.Shelf

set_option maxRecDepth 100000 in
set_option maxHeartbeats 2000000 in
theorem compares_walk (aa : Option Addr) (na ca : Nat) (xs : List (Int × ByteArray)) (ab : Option Addr) (nb cb : Nat) (ys : List (Int × ByteArray)) (w : World) (hA : Ats w aa na ca xs) (hB : Ats w ab nb cb ys)
    (nA : aa = none → na = 0 ∧ ca = 0) (nB : ab = none → nb = 0 ∧ cb = 0) (lA : na ≤ 1048576) (lB : nb ≤ 1048576) (hx : ∀ x ∈ xs, x.2.size ≤ 1048576) (hy : ∀ y ∈ ys, y.2.size ≤ 1048576) :
    Calls Try.prog 4 #[.slice aa na ca, .slice ab nb cb] w fun e w' => e = .returned (.bool true) ∧ Below w.heap.size w w' := by
  have L1 := hide (lentA_any aa na ca xs w hA nA lA hx)
  have L2 : Hid (∀ W, Below w.heap.size w W → _) := fun W h => lentA_any ab nb cb ys W (hB.below h) nB lB hy
  have HA := hide hA
  have HB := hide hB
  have HX := hide hx
  have HY := hide hy
  clear hA hB nA nB hx hy
  go_enter Try.func4, Try.ntmps4
  go_wp2_with fail
  refine L1.out.mono ?_
  rintro e w1 ⟨ga, c1, rfl, S1, B1⟩
  go_wp2_with fail
  refine (L2.out w1 B1).mono ?_
  rintro e w2 ⟨gb, c2, rfl, S2, B2⟩
  have KB : Hid (Below w.heap.size w w2) := B1.trans (B2.mono B1.size)
  have X0 := S1.below B2
  have HA2 := HA.out.below KB.out
  have HB2 := HB.out.below KB.out
  have kW : ∀ W, Below w2.heap.size w2 W → Below w.heap.size w W := fun W h => KB.out.trans (h.mono KB.out.size)
  clear KB
  have KB := hide (Below.refl w2.heap.size w2)
  have q1 : Hid (∀ W, Below w2.heap.size w2 W → _) := fun W h => same12_any (some ⟨ga, 0, none⟩) na c1 xs (some ⟨gb, 0, none⟩) nb c2 ys W (X0.below h).ats (S2.below h).ats
  have q2 : Hid (∀ W, Below w2.heap.size w2 W → _) := fun W h => rsame_any aa na ca xs ab nb cb ys W (HA2.below h) (HB2.below h) HX.out HY.out
  have q3 : Hid (∀ W, Below w2.heap.size w2 W → _) := fun W h => begins_any (some ⟨ga, 0, none⟩) na c1 xs (some ⟨gb, 0, none⟩) nb c2 ys W (X0.below h).ats (S2.below h).ats
  have q4 : Hid (∀ W, Below w2.heap.size w2 W → _) := fun W h => rbegins_any aa na ca xs ab nb cb ys W (HA2.below h) (HB2.below h) HX.out HY.out
  have q5 : Hid (∀ W, Below w2.heap.size w2 W → _) := fun W h => begins_any (some ⟨gb, 0, none⟩) nb c2 ys (some ⟨ga, 0, none⟩) na c1 xs W (S2.below h).ats (X0.below h).ats
  have q6 : Hid (∀ W, Below w2.heap.size w2 W → _) := fun W h => rbegins_any ab nb cb ys aa na ca xs W (HB2.below h) (HA2.below h) HY.out HX.out
  have q7 : Hid (∀ W, Below w2.heap.size w2 W → _) := fun W h => keptA_any ga na c1 aa ca xs W w.heap.size (HA2.below h) lA (X0.below h)
  have q8 : Hid (∀ W, Below w2.heap.size w2 W → _) := fun W h => keptA_any gb nb c2 ab cb ys W w1.heap.size (HB2.below h) lB (S2.below h)
  have q9 : Hid (∀ W, Below w2.heap.size w2 W → _) := fun W _ => works12_any W
  have KW := hide kW
  clear S1 S2 B1 B2 X0 HA2 HB2 HA HB HX HY L1 L2 kW
  generalize decide (xs.map key = ys.map key) = P at q1 q2
  generalize bg (xs.map key) (ys.map key) = Q at q3 q4
  generalize bg (ys.map key) (xs.map key) = R at q5 q6
  have p1 : (P == P) = true := by simp
  have p2 : (Q == Q) = true := by simp
  have p3 : (R == R) = true := by simp
  go_wp2_with fail
  refine (q1.out _ KB.out).mono ?_
  rintro e w9 ⟨rfl, B9⟩
  replace KB := hide (KB.out.trans (B9.mono KB.out.size))
  clear B9
  go_wp2_with fail
  refine (q2.out _ KB.out).mono ?_
  rintro e w9 ⟨rfl, B9⟩
  replace KB := hide (KB.out.trans (B9.mono KB.out.size))
  clear B9
  go_wp2_with fail
  refine (q3.out _ KB.out).mono ?_
  rintro e w9 ⟨rfl, B9⟩
  replace KB := hide (KB.out.trans (B9.mono KB.out.size))
  clear B9
  go_wp2_with fail
  refine (q4.out _ KB.out).mono ?_
  rintro e w9 ⟨rfl, B9⟩
  replace KB := hide (KB.out.trans (B9.mono KB.out.size))
  clear B9
  go_wp2_with fail
  refine (q5.out _ KB.out).mono ?_
  rintro e w9 ⟨rfl, B9⟩
  replace KB := hide (KB.out.trans (B9.mono KB.out.size))
  clear B9
  go_wp2_with fail
  refine (q6.out _ KB.out).mono ?_
  rintro e w9 ⟨rfl, B9⟩
  replace KB := hide (KB.out.trans (B9.mono KB.out.size))
  clear B9
  go_wp2_with fail
  refine (q7.out _ KB.out).mono ?_
  rintro e w9 ⟨rfl, B9⟩
  replace KB := hide (KB.out.trans (B9.mono KB.out.size))
  clear B9
  go_wp2_with fail
  refine (q8.out _ KB.out).mono ?_
  rintro e w9 ⟨rfl, B9⟩
  replace KB := hide (KB.out.trans (B9.mono KB.out.size))
  clear B9
  go_wp2_with fail
  refine (q9.out _ KB.out).mono ?_
  rintro e w9 ⟨rfl, B9⟩
  replace KB := hide (KB.out.trans (B9.mono KB.out.size))
  clear B9
  go_wp2
  go_ret
  exact ⟨rfl, KW.out _ KB.out⟩

end Go.Proofs.Ytclimigbbilfmaa
