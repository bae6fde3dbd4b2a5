/-
  Two times in the calendar, compared as structs.
-/
import Derived.Test.YtnpimjfdidbdfaaDoorCBase
import Derived.Laws.StructEq
namespace Go.Proofs.YtnpimjfdidbdfaaDoor
open Go.RowKit

theorem held_civ : Tryd.prog.stoodInHeld 23 = false := by kernel_rfl
theorem guard_civ : Tryd.prog.eqGuardType Tryd.prog.depth 23 = false := by kernel_rfl

set_option maxRecDepth 100000 in
set_option maxHeartbeats 1000000 in
theorem eql_civ (w : World) (a b c d e f a' b' c' d' e' f' : Int) :
    (binOp .eql 23 (.agg #[.int .i64 a, .int .i64 b, .int .i64 c, .int .i64 d, .int .i64 e, .int .i64 f]) (.agg #[.int .i64 a', .int .i64 b', .int .i64 c', .int .i64 d', .int .i64 e', .int .i64 f'])).run Tryd.prog w
      = .ok (.bool (a == a' && b == b' && c == c' && d == d' && e == e' && f == f')) w := by
  rw [run_eql_struct, run_equalIn_struct w 9999 23 _ _ (by kernel_rfl) held_civ]
  unfold Program.fieldsOf
  rw [Tryd.underlying23]
  simp [Op.eqFields, go_sem, part]
  by_cases h1 : a = a' <;> by_cases h2 : b = b' <;> by_cases h3 : c = c' <;> by_cases h4 : d = d' <;> by_cases h5 : e = e' <;> by_cases h6 : f = f' <;> simp [h1, h2, h3, h4, h5, h6]

set_option maxRecDepth 100000 in
set_option maxHeartbeats 1000000 in
theorem neq_civ (w : World) (a b c d e f a' b' c' d' e' f' : Int) :
    (binOp .neq 23 (.agg #[.int .i64 a, .int .i64 b, .int .i64 c, .int .i64 d, .int .i64 e, .int .i64 f]) (.agg #[.int .i64 a', .int .i64 b', .int .i64 c', .int .i64 d', .int .i64 e', .int .i64 f'])).run Tryd.prog w
      = .ok (.bool (!(a == a' && b == b' && c == c' && d == d' && e == e' && f == f'))) w := by
  rw [run_neq_struct, run_equalIn_struct w 9999 23 _ _ (by kernel_rfl) held_civ]
  unfold Program.fieldsOf
  rw [Tryd.underlying23]
  simp [Op.eqFields, go_sem, part]
  by_cases h1 : a = a' <;> by_cases h2 : b = b' <;> by_cases h3 : c = c' <;> by_cases h4 : d = d' <;> by_cases h5 : e = e' <;> by_cases h6 : f = f' <;> simp [h1, h2, h3, h4, h5, h6]

end Go.Proofs.YtnpimjfdidbdfaaDoor
