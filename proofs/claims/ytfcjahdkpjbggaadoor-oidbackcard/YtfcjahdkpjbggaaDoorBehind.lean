/-
  oid.behind lays a digit behind a number, or gives up.
-/
import Derived.Test.YtfcjahdkpjbggaaDoorNextS
namespace Go.Proofs.YtfcjahdkpjbggaaDoor
open Go.RowKit Go.IntWalk

/-- Giving up with an error. -/
def errP (e : Int) : List PanicEntry := [{ v := .iface 24 (.int .i64 e), recovered := false }]

set_option maxRecDepth 100000 in
set_option maxHeartbeats 1000000 in
theorem behind_fits (n r d a : Int) (w : World) (h0 : 0 ≤ n) (h1 : n ≤ 2147483647) (hr : r = 128 ∨ r = 10) (hd0 : 0 ≤ d) (hd : d < r) (hf : n * r + d ≤ 2147483647) :
    Calls Tryd.prog 30 #[.int .i64 n, .int .i64 r, .int .i64 d, .int .i64 a] w fun e w' => e = .returned (.int .i64 (n * r + d)) ∧ w' = w := by
  rcases hr with rfl | rfl
  · have q1 : ¬ (2147483647 - d) / 128 < n := by omega
    have q2 : Int.tdiv (2147483647 - d) 128 = (2147483647 - d) / 128 := Int.tdiv_eq_ediv_of_nonneg (by omega)
    go_enter Tryd.func30, Tryd.ntmps30
    go_wp2
    go_ret
    exact ⟨rfl, rfl⟩
  · have q1 : ¬ (2147483647 - d) / 10 < n := by omega
    have q2 : Int.tdiv (2147483647 - d) 10 = (2147483647 - d) / 10 := Int.tdiv_eq_ediv_of_nonneg (by omega)
    go_enter Tryd.func30, Tryd.ntmps30
    go_wp2
    go_ret
    exact ⟨rfl, rfl⟩

set_option maxRecDepth 100000 in
set_option maxHeartbeats 1000000 in
theorem behind_not (n r d a : Int) (w : World) (h0 : 0 ≤ n) (h1 : n ≤ 2147483647) (hr : r = 128 ∨ r = 10) (hd0 : 0 ≤ d) (hd : d < r) (hf : 2147483647 < n * r + d) :
    Calls Tryd.prog 30 #[.int .i64 n, .int .i64 r, .int .i64 d, .int .i64 a] w fun e w' => e = .panicked (errP a) ∧ w' = w := by
  rcases hr with rfl | rfl
  · have q1 : (2147483647 - d) / 128 < n := by omega
    have q2 : Int.tdiv (2147483647 - d) 128 = (2147483647 - d) / 128 := Int.tdiv_eq_ediv_of_nonneg (by omega)
    go_enter Tryd.func30, Tryd.ntmps30
    go_wp2
    exact ⟨rfl, rfl, rfl⟩
  · have q1 : (2147483647 - d) / 10 < n := by omega
    have q2 : Int.tdiv (2147483647 - d) 10 = (2147483647 - d) / 10 := Int.tdiv_eq_ediv_of_nonneg (by omega)
    go_enter Tryd.func30, Tryd.ntmps30
    go_wp2
    exact ⟨rfl, rfl, rfl⟩

end Go.Proofs.YtfcjahdkpjbggaaDoor
