/-
  The functions that oid.Decode and oid.sound defer: what they catch.
-/
import Derived.RecoverIn
import Derived.RangeFuncLeaves
import Derived.WalkKit
import Derived.Test.YtfcjahdkpjbggaaDoorNumbers
namespace Go.Proofs.YtfcjahdkpjbggaaDoor
open Go.RowKit Go.IntWalk

theorem ta_nil (w : World) : (Instr.typeAssert Value.nilIface 20 24 true).run Tryd.prog w = .ok (.tuple #[.int .i64 0, .bool false]) w := by kernel_rfl
theorem ta_err (x : Int) (w : World) : (Instr.typeAssert (.iface 24 (.int .i64 x)) 20 24 true).run Tryd.prog w = .ok (.tuple #[.int .i64 x, .bool true]) w := by kernel_rfl

set_option maxRecDepth 100000 in
set_option maxHeartbeats 1000000 in
theorem decode1_idle (n : Nat) (p q : Addr) (w : World) :
    CallsDIn Fence.wide n Tryd.prog 14 #[.pointer (some p), .pointer (some q)] .returning w fun e u' w' => e = .returned (.tuple #[]) ∧ u' = .returning ∧ w' = w := by
  refine callsDIn_of_wpSIn Tryd.func14 rfl trivial fun c₀ cs hu => ?_
  have h1 := ta_nil
  apply wpSIn_seq
  apply wpSIn_region
  simp [wpOpsSIn, go_sem, recoverD, hu, Tryd.ntmps14, Exit.thenS, h1, Array.replicate]
  apply wpSIn_seq
  apply wpSIn_region
  simp [wpOpsSIn, go_sem, Exit.thenS]
  refine wpSIn_cond (t := false) (by simp [Act.eval]) ?_
  simp only [Bool.false_eq_true, if_false]
  refine wpSIn_of_wpIn rfl (wpIn_skip ?_)
  cases c₀
  simp_all [bodyPostS, results, Tryd.results14]

set_option maxRecDepth 100000 in
set_option maxHeartbeats 1000000 in
theorem decode1_caught (n : Nat) (x : Int) (p q : Addr) (w : World) (v1 v2 : Value) (hp : w.cell? p = some v1) (hf : w.frozen? p = false) (hq : (w.setCell p (.slice none 0 0)).cell? q = some v2) (hg : (w.setCell p (.slice none 0 0)).frozen? q = false) :
    CallsDIn Fence.wide n Tryd.prog 14 #[.pointer (some p), .pointer (some q)] (.panicking (errP x)) w fun e u' w' => e = .returned (.tuple #[]) ∧ settle u' = .returning ∧ w' = (w.setCell p (.slice none 0 0)).setCell q (.int .i64 x) := by
  refine callsDIn_of_wpSIn Tryd.func14 rfl trivial fun c₀ cs hu => ?_
  unfold errP at hu
  have h1 := ta_err x
  apply wpSIn_seq
  apply wpSIn_region
  simp [wpOpsSIn, go_sem, recoverD, hu, Tryd.ntmps14, Exit.thenS, h1, Array.replicate]
  apply wpSIn_seq
  apply wpSIn_region
  simp [wpOpsSIn, go_sem, Exit.thenS]
  refine wpSIn_cond (t := true) (by simp [Act.eval]) ?_
  simp only [if_true]
  apply wpSIn_region
  simp [wpOpsSIn, go_sem, hp, hf, hq, hg, bodyPostS, results, Tryd.results14, settle]

end Go.Proofs.YtfcjahdkpjbggaaDoor
