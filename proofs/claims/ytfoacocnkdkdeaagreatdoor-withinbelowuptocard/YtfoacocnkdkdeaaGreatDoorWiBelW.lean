/-
  The statement WithinBelow: its walk.
-/
import Derived.Test.YtfoacocnkdkdeaaGreatDoorWiRBel
import Derived.Test.YtfoacocnkdkdeaaGreatDoorWiWorks
namespace Go.Proofs.YtfoacocnkdkdeaaGreatDoor
open Go.RowKit Go.Shelf Go.IntWalk

set_option maxRecDepth 100000 in
set_option maxHeartbeats 2000000 in
theorem wbelow_walk (a b : List UInt8) (ha : a.length ≤ 1048576) (hb : b.length ≤ 1048576) (m : Int) (w : World) (hm : ML w m) :
    Calls Tryz.prog 3 #[.string (tx a), .string (tx b)] w fun e w' => e = .returned (.bool true) ∧ Below w.heap.size w w' := by
  have c1 := hide (below_kp w a b ha hb m)
  have c2 : Hid (∀ W, Kp w m W → Calls Tryz.prog 9 #[.string (tx a), .string (tx b)] W fun e W' => e = .returned (.bool (belB a b)) ∧ Kp w m W') := fun W h => (refBelow_any a b ha hb W).mono fun e W' ⟨h1, h2⟩ => ⟨h1, h.next h2⟩
  have c3 := hide (below_kp w b a hb ha m)
  have c4 : Hid (∀ W, Kp w m W → Calls Tryz.prog 9 #[.string (tx b), .string (tx a)] W fun e W' => e = .returned (.bool (belB b a)) ∧ Kp w m W') := fun W h => (refBelow_any b a hb ha W).mono fun e W' ⟨h1, h2⟩ => ⟨h1, h.next h2⟩
  have c5 := hide (works14_kp w m)
  have KP := hide (Kp.refl hm)
  clear hm ha hb
  generalize belB a b = P at *
  generalize belB b a = Q at *
  generalize tx a = A at *
  generalize tx b = B at *
  have p1 : (P == P) = true := by simp
  have p2 : (Q == Q) = true := by simp
  go_enter Tryz.func3, Tryz.ntmps3
  go_wp2_with fail
  refine (c1.out _ KP.out).mono ?_
  rintro e w1 ⟨rfl, K1⟩
  replace KP := hide K1
  clear K1
  go_wp2_with fail
  refine (c2.out _ KP.out).mono ?_
  rintro e w1 ⟨rfl, K1⟩
  replace KP := hide K1
  clear K1
  go_wp2_with fail
  refine (c3.out _ KP.out).mono ?_
  rintro e w1 ⟨rfl, K1⟩
  replace KP := hide K1
  clear K1
  go_wp2_with fail
  refine (c4.out _ KP.out).mono ?_
  rintro e w1 ⟨rfl, K1⟩
  replace KP := hide K1
  clear K1
  go_wp2_with fail
  refine (c5.out _ KP.out).mono ?_
  rintro e w1 ⟨rfl, K1⟩
  replace KP := hide K1
  clear K1
  go_wp2
  go_ret
  exact ⟨rfl, KP.out.1⟩

end Go.Proofs.YtfoacocnkdkdeaaGreatDoor
