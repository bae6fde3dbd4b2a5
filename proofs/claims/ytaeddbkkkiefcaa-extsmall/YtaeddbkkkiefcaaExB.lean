/-
  ext: what gives up, and what catches it.
-/
import Derived.Test.YtaeddbkkkiefcaaRecC
import Derived.Test.YtaeddbkkkiefcaaBts
namespace Go.Proofs.Ytaeddbkkkiefcaa
open Go.RowKit Go.IntWalk

def errX : List PanicEntry := [{ v := .iface 28 (.int .i64 150), recovered := false }]

theorem must_yes (w : World) : Calls Try.prog 64 #[.bool true] w fun e w' => e = .returned (.tuple #[]) ∧ w' = w := by
  go_enter Try.func64, Try.ntmps64
  go_wp2
  exact ⟨rfl, .tuple #[], by simp [results, Try.results64, go_sem], rfl, rfl⟩
theorem must_no (w : World) : Calls Try.prog 64 #[.bool false] w fun e w' => e = .panicked errX ∧ w' = w := by
  go_enter Try.func64, Try.ntmps64
  go_wp2
  exact ⟨rfl, rfl, rfl⟩
theorem caught_nil (w : World) : Calls Try.prog 33 #[.nilIface] w fun e w' => e = .returned (.int .i64 0) ∧ w' = w := by
  go_enter Try.func33, Try.ntmps33
  go_wp2
  go_ret
  exact ⟨rfl, rfl⟩
theorem caught_err (w : World) : Calls Try.prog 33 #[.iface 28 (.int .i64 150)] w fun e w' => e = .returned (.int .i64 150) ∧ w' = w := by
  go_enter Try.func33, Try.ntmps33
  go_wp2
  go_ret
  exact ⟨rfl, rfl⟩

set_option maxRecDepth 100000 in
set_option maxHeartbeats 1000000 in
theorem basic_idle (p : Addr) (w : World) (v1 : Value) (hp : w.cell? p = some v1) (hf : w.frozen? p = false) :
    CallsDIn Fence.wide 3 Try.prog 32 #[.pointer (some p)] .returning w fun e u' w' => e = .returned (.tuple #[]) ∧ u' = .returning ∧ w' = w.setCell p (.int .i64 0) := by
  refine callsDIn_of_wpSIn Try.func32 rfl trivial fun c₀ cs hu => ?_
  refine wpSIn_rec (fun _ _ => trivial) (by rfl) (by rfl) rfl ?_
  simp only [recoverD, hu]
  have hc : CallsIn Fence.wide 2 Try.prog 33 #[.nilIface] w _ := callsIn_wide.2 (caught_nil w)
  gi_wp2
  refine ⟨trivial, hc.mono ?_⟩
  rintro e w' ⟨rfl, rfl⟩
  gi_wp2
  exact ⟨rfl, .returning, by cases c₀; simp_all, .tuple #[], by simp [results, Try.results32, go_sem], rfl, rfl, rfl⟩

set_option maxRecDepth 100000 in
set_option maxHeartbeats 1000000 in
theorem basic_caught (p : Addr) (w : World) (v1 : Value) (hp : w.cell? p = some v1) (hf : w.frozen? p = false) :
    CallsDIn Fence.wide 3 Try.prog 32 #[.pointer (some p)] (.panicking errX) w fun e u' w' => e = .returned (.tuple #[]) ∧ settle u' = .returning ∧ w' = w.setCell p (.int .i64 150) := by
  refine callsDIn_of_wpSIn Try.func32 rfl trivial fun c₀ cs hu => ?_
  unfold errX at hu
  refine wpSIn_rec (fun _ _ => trivial) (by rfl) (by rfl) rfl ?_
  simp only [recoverD, hu]
  have hc : CallsIn Fence.wide 2 Try.prog 33 #[.iface 28 (.int .i64 150)] w _ := callsIn_wide.2 (caught_err w)
  gi_wp2
  refine ⟨trivial, hc.mono ?_⟩
  rintro e w' ⟨rfl, rfl⟩
  gi_wp2
  exact ⟨rfl, _, rfl, .tuple #[], by simp [results, Try.results32, go_sem], rfl, rfl, rfl⟩

set_option maxRecDepth 100000 in
set_option maxHeartbeats 1000000 in
theorem usage_idle (p : Addr) (w : World) (v1 : Value) (hp : w.cell? p = some v1) (hf : w.frozen? p = false) :
    CallsDIn Fence.wide 3 Try.prog 39 #[.pointer (some p)] .returning w fun e u' w' => e = .returned (.tuple #[]) ∧ u' = .returning ∧ w' = w.setCell p (.int .i64 0) := by
  refine callsDIn_of_wpSIn Try.func39 rfl trivial fun c₀ cs hu => ?_
  refine wpSIn_rec (fun _ _ => trivial) (by rfl) (by rfl) rfl ?_
  simp only [recoverD, hu]
  have hc : CallsIn Fence.wide 2 Try.prog 33 #[.nilIface] w _ := callsIn_wide.2 (caught_nil w)
  gi_wp2
  refine ⟨trivial, hc.mono ?_⟩
  rintro e w' ⟨rfl, rfl⟩
  gi_wp2
  exact ⟨rfl, .returning, by cases c₀; simp_all, .tuple #[], by simp [results, Try.results39, go_sem], rfl, rfl, rfl⟩

set_option maxRecDepth 100000 in
set_option maxHeartbeats 1000000 in
theorem usage_caught (p : Addr) (w : World) (v1 : Value) (hp : w.cell? p = some v1) (hf : w.frozen? p = false) :
    CallsDIn Fence.wide 3 Try.prog 39 #[.pointer (some p)] (.panicking errX) w fun e u' w' => e = .returned (.tuple #[]) ∧ settle u' = .returning ∧ w' = w.setCell p (.int .i64 150) := by
  refine callsDIn_of_wpSIn Try.func39 rfl trivial fun c₀ cs hu => ?_
  unfold errX at hu
  refine wpSIn_rec (fun _ _ => trivial) (by rfl) (by rfl) rfl ?_
  simp only [recoverD, hu]
  have hc : CallsIn Fence.wide 2 Try.prog 33 #[.iface 28 (.int .i64 150)] w _ := callsIn_wide.2 (caught_err w)
  gi_wp2
  refine ⟨trivial, hc.mono ?_⟩
  rintro e w' ⟨rfl, rfl⟩
  gi_wp2
  exact ⟨rfl, _, rfl, .tuple #[], by simp [results, Try.results39, go_sem], rfl, rfl, rfl⟩

set_option maxRecDepth 100000 in
set_option maxHeartbeats 1000000 in
theorem number_idle (p : Addr) (w : World) (v1 : Value) (hp : w.cell? p = some v1) (hf : w.frozen? p = false) :
    CallsDIn Fence.wide 3 Try.prog 42 #[.pointer (some p)] .returning w fun e u' w' => e = .returned (.tuple #[]) ∧ u' = .returning ∧ w' = w.setCell p (.int .i64 0) := by
  refine callsDIn_of_wpSIn Try.func42 rfl trivial fun c₀ cs hu => ?_
  refine wpSIn_rec (fun _ _ => trivial) (by rfl) (by rfl) rfl ?_
  simp only [recoverD, hu]
  have hc : CallsIn Fence.wide 2 Try.prog 33 #[.nilIface] w _ := callsIn_wide.2 (caught_nil w)
  gi_wp2
  refine ⟨trivial, hc.mono ?_⟩
  rintro e w' ⟨rfl, rfl⟩
  gi_wp2
  exact ⟨rfl, .returning, by cases c₀; simp_all, .tuple #[], by simp [results, Try.results42, go_sem], rfl, rfl, rfl⟩

set_option maxRecDepth 100000 in
set_option maxHeartbeats 1000000 in
theorem number_caught (p : Addr) (w : World) (v1 : Value) (hp : w.cell? p = some v1) (hf : w.frozen? p = false) :
    CallsDIn Fence.wide 3 Try.prog 42 #[.pointer (some p)] (.panicking errX) w fun e u' w' => e = .returned (.tuple #[]) ∧ settle u' = .returning ∧ w' = w.setCell p (.int .i64 150) := by
  refine callsDIn_of_wpSIn Try.func42 rfl trivial fun c₀ cs hu => ?_
  unfold errX at hu
  refine wpSIn_rec (fun _ _ => trivial) (by rfl) (by rfl) rfl ?_
  simp only [recoverD, hu]
  have hc : CallsIn Fence.wide 2 Try.prog 33 #[.iface 28 (.int .i64 150)] w _ := callsIn_wide.2 (caught_err w)
  gi_wp2
  refine ⟨trivial, hc.mono ?_⟩
  rintro e w' ⟨rfl, rfl⟩
  gi_wp2
  exact ⟨rfl, _, rfl, .tuple #[], by simp [results, Try.results42, go_sem], rfl, rfl, rfl⟩

set_option maxRecDepth 100000 in
set_option maxHeartbeats 1000000 in
theorem reason_idle (p : Addr) (w : World) (v1 : Value) (hp : w.cell? p = some v1) (hf : w.frozen? p = false) :
    CallsDIn Fence.wide 3 Try.prog 44 #[.pointer (some p)] .returning w fun e u' w' => e = .returned (.tuple #[]) ∧ u' = .returning ∧ w' = w.setCell p (.int .i64 0) := by
  refine callsDIn_of_wpSIn Try.func44 rfl trivial fun c₀ cs hu => ?_
  refine wpSIn_rec (fun _ _ => trivial) (by rfl) (by rfl) rfl ?_
  simp only [recoverD, hu]
  have hc : CallsIn Fence.wide 2 Try.prog 33 #[.nilIface] w _ := callsIn_wide.2 (caught_nil w)
  gi_wp2
  refine ⟨trivial, hc.mono ?_⟩
  rintro e w' ⟨rfl, rfl⟩
  gi_wp2
  exact ⟨rfl, .returning, by cases c₀; simp_all, .tuple #[], by simp [results, Try.results44, go_sem], rfl, rfl, rfl⟩

set_option maxRecDepth 100000 in
set_option maxHeartbeats 1000000 in
theorem reason_caught (p : Addr) (w : World) (v1 : Value) (hp : w.cell? p = some v1) (hf : w.frozen? p = false) :
    CallsDIn Fence.wide 3 Try.prog 44 #[.pointer (some p)] (.panicking errX) w fun e u' w' => e = .returned (.tuple #[]) ∧ settle u' = .returning ∧ w' = w.setCell p (.int .i64 150) := by
  refine callsDIn_of_wpSIn Try.func44 rfl trivial fun c₀ cs hu => ?_
  unfold errX at hu
  refine wpSIn_rec (fun _ _ => trivial) (by rfl) (by rfl) rfl ?_
  simp only [recoverD, hu]
  have hc : CallsIn Fence.wide 2 Try.prog 33 #[.iface 28 (.int .i64 150)] w _ := callsIn_wide.2 (caught_err w)
  gi_wp2
  refine ⟨trivial, hc.mono ?_⟩
  rintro e w' ⟨rfl, rfl⟩
  gi_wp2
  exact ⟨rfl, _, rfl, .tuple #[], by simp [results, Try.results44, go_sem], rfl, rfl, rfl⟩

set_option maxRecDepth 100000 in
set_option maxHeartbeats 1000000 in
theorem toBasic_idle (p : Addr) (w : World) (v1 : Value) (hp : w.cell? p = some v1) (hf : w.frozen? p = false) :
    CallsDIn Fence.wide 3 Try.prog 47 #[.pointer (some p)] .returning w fun e u' w' => e = .returned (.tuple #[]) ∧ u' = .returning ∧ w' = w.setCell p (.int .i64 0) := by
  refine callsDIn_of_wpSIn Try.func47 rfl trivial fun c₀ cs hu => ?_
  refine wpSIn_rec (fun _ _ => trivial) (by rfl) (by rfl) rfl ?_
  simp only [recoverD, hu]
  have hc : CallsIn Fence.wide 2 Try.prog 33 #[.nilIface] w _ := callsIn_wide.2 (caught_nil w)
  gi_wp2
  refine ⟨trivial, hc.mono ?_⟩
  rintro e w' ⟨rfl, rfl⟩
  gi_wp2
  exact ⟨rfl, .returning, by cases c₀; simp_all, .tuple #[], by simp [results, Try.results47, go_sem], rfl, rfl, rfl⟩

set_option maxRecDepth 100000 in
set_option maxHeartbeats 1000000 in
theorem toBasic_caught (p : Addr) (w : World) (v1 : Value) (hp : w.cell? p = some v1) (hf : w.frozen? p = false) :
    CallsDIn Fence.wide 3 Try.prog 47 #[.pointer (some p)] (.panicking errX) w fun e u' w' => e = .returned (.tuple #[]) ∧ settle u' = .returning ∧ w' = w.setCell p (.int .i64 150) := by
  refine callsDIn_of_wpSIn Try.func47 rfl trivial fun c₀ cs hu => ?_
  unfold errX at hu
  refine wpSIn_rec (fun _ _ => trivial) (by rfl) (by rfl) rfl ?_
  simp only [recoverD, hu]
  have hc : CallsIn Fence.wide 2 Try.prog 33 #[.iface 28 (.int .i64 150)] w _ := callsIn_wide.2 (caught_err w)
  gi_wp2
  refine ⟨trivial, hc.mono ?_⟩
  rintro e w' ⟨rfl, rfl⟩
  gi_wp2
  exact ⟨rfl, _, rfl, .tuple #[], by simp [results, Try.results47, go_sem], rfl, rfl, rfl⟩

set_option maxRecDepth 100000 in
set_option maxHeartbeats 1000000 in
theorem toUsage_idle (p : Addr) (w : World) (v1 : Value) (hp : w.cell? p = some v1) (hf : w.frozen? p = false) :
    CallsDIn Fence.wide 3 Try.prog 50 #[.pointer (some p)] .returning w fun e u' w' => e = .returned (.tuple #[]) ∧ u' = .returning ∧ w' = w.setCell p (.int .i64 0) := by
  refine callsDIn_of_wpSIn Try.func50 rfl trivial fun c₀ cs hu => ?_
  refine wpSIn_rec (fun _ _ => trivial) (by rfl) (by rfl) rfl ?_
  simp only [recoverD, hu]
  have hc : CallsIn Fence.wide 2 Try.prog 33 #[.nilIface] w _ := callsIn_wide.2 (caught_nil w)
  gi_wp2
  refine ⟨trivial, hc.mono ?_⟩
  rintro e w' ⟨rfl, rfl⟩
  gi_wp2
  exact ⟨rfl, .returning, by cases c₀; simp_all, .tuple #[], by simp [results, Try.results50, go_sem], rfl, rfl, rfl⟩

set_option maxRecDepth 100000 in
set_option maxHeartbeats 1000000 in
theorem toUsage_caught (p : Addr) (w : World) (v1 : Value) (hp : w.cell? p = some v1) (hf : w.frozen? p = false) :
    CallsDIn Fence.wide 3 Try.prog 50 #[.pointer (some p)] (.panicking errX) w fun e u' w' => e = .returned (.tuple #[]) ∧ settle u' = .returning ∧ w' = w.setCell p (.int .i64 150) := by
  refine callsDIn_of_wpSIn Try.func50 rfl trivial fun c₀ cs hu => ?_
  unfold errX at hu
  refine wpSIn_rec (fun _ _ => trivial) (by rfl) (by rfl) rfl ?_
  simp only [recoverD, hu]
  have hc : CallsIn Fence.wide 2 Try.prog 33 #[.iface 28 (.int .i64 150)] w _ := callsIn_wide.2 (caught_err w)
  gi_wp2
  refine ⟨trivial, hc.mono ?_⟩
  rintro e w' ⟨rfl, rfl⟩
  gi_wp2
  exact ⟨rfl, _, rfl, .tuple #[], by simp [results, Try.results50, go_sem], rfl, rfl, rfl⟩

set_option maxRecDepth 100000 in
set_option maxHeartbeats 1000000 in
theorem toNumber_idle (p : Addr) (w : World) (v1 : Value) (hp : w.cell? p = some v1) (hf : w.frozen? p = false) :
    CallsDIn Fence.wide 3 Try.prog 53 #[.pointer (some p)] .returning w fun e u' w' => e = .returned (.tuple #[]) ∧ u' = .returning ∧ w' = w.setCell p (.int .i64 0) := by
  refine callsDIn_of_wpSIn Try.func53 rfl trivial fun c₀ cs hu => ?_
  refine wpSIn_rec (fun _ _ => trivial) (by rfl) (by rfl) rfl ?_
  simp only [recoverD, hu]
  have hc : CallsIn Fence.wide 2 Try.prog 33 #[.nilIface] w _ := callsIn_wide.2 (caught_nil w)
  gi_wp2
  refine ⟨trivial, hc.mono ?_⟩
  rintro e w' ⟨rfl, rfl⟩
  gi_wp2
  exact ⟨rfl, .returning, by cases c₀; simp_all, .tuple #[], by simp [results, Try.results53, go_sem], rfl, rfl, rfl⟩

set_option maxRecDepth 100000 in
set_option maxHeartbeats 1000000 in
theorem toNumber_caught (p : Addr) (w : World) (v1 : Value) (hp : w.cell? p = some v1) (hf : w.frozen? p = false) :
    CallsDIn Fence.wide 3 Try.prog 53 #[.pointer (some p)] (.panicking errX) w fun e u' w' => e = .returned (.tuple #[]) ∧ settle u' = .returning ∧ w' = w.setCell p (.int .i64 150) := by
  refine callsDIn_of_wpSIn Try.func53 rfl trivial fun c₀ cs hu => ?_
  unfold errX at hu
  refine wpSIn_rec (fun _ _ => trivial) (by rfl) (by rfl) rfl ?_
  simp only [recoverD, hu]
  have hc : CallsIn Fence.wide 2 Try.prog 33 #[.iface 28 (.int .i64 150)] w _ := callsIn_wide.2 (caught_err w)
  gi_wp2
  refine ⟨trivial, hc.mono ?_⟩
  rintro e w' ⟨rfl, rfl⟩
  gi_wp2
  exact ⟨rfl, _, rfl, .tuple #[], by simp [results, Try.results53, go_sem], rfl, rfl, rfl⟩

set_option maxRecDepth 100000 in
set_option maxHeartbeats 1000000 in
theorem toReason_idle (p : Addr) (w : World) (v1 : Value) (hp : w.cell? p = some v1) (hf : w.frozen? p = false) :
    CallsDIn Fence.wide 3 Try.prog 58 #[.pointer (some p)] .returning w fun e u' w' => e = .returned (.tuple #[]) ∧ u' = .returning ∧ w' = w.setCell p (.int .i64 0) := by
  refine callsDIn_of_wpSIn Try.func58 rfl trivial fun c₀ cs hu => ?_
  refine wpSIn_rec (fun _ _ => trivial) (by rfl) (by rfl) rfl ?_
  simp only [recoverD, hu]
  have hc : CallsIn Fence.wide 2 Try.prog 33 #[.nilIface] w _ := callsIn_wide.2 (caught_nil w)
  gi_wp2
  refine ⟨trivial, hc.mono ?_⟩
  rintro e w' ⟨rfl, rfl⟩
  gi_wp2
  exact ⟨rfl, .returning, by cases c₀; simp_all, .tuple #[], by simp [results, Try.results58, go_sem], rfl, rfl, rfl⟩

set_option maxRecDepth 100000 in
set_option maxHeartbeats 1000000 in
theorem toReason_caught (p : Addr) (w : World) (v1 : Value) (hp : w.cell? p = some v1) (hf : w.frozen? p = false) :
    CallsDIn Fence.wide 3 Try.prog 58 #[.pointer (some p)] (.panicking errX) w fun e u' w' => e = .returned (.tuple #[]) ∧ settle u' = .returning ∧ w' = w.setCell p (.int .i64 150) := by
  refine callsDIn_of_wpSIn Try.func58 rfl trivial fun c₀ cs hu => ?_
  unfold errX at hu
  refine wpSIn_rec (fun _ _ => trivial) (by rfl) (by rfl) rfl ?_
  simp only [recoverD, hu]
  have hc : CallsIn Fence.wide 2 Try.prog 33 #[.iface 28 (.int .i64 150)] w _ := callsIn_wide.2 (caught_err w)
  gi_wp2
  refine ⟨trivial, hc.mono ?_⟩
  rintro e w' ⟨rfl, rfl⟩
  gi_wp2
  exact ⟨rfl, _, rfl, .tuple #[], by simp [results, Try.results58, go_sem], rfl, rfl, rfl⟩

set_option maxRecDepth 100000 in
set_option maxHeartbeats 1000000 in
theorem toSubject_idle (p : Addr) (w : World) (v1 : Value) (hp : w.cell? p = some v1) (hf : w.frozen? p = false) :
    CallsDIn Fence.wide 3 Try.prog 59 #[.pointer (some p)] .returning w fun e u' w' => e = .returned (.tuple #[]) ∧ u' = .returning ∧ w' = w.setCell p (.int .i64 0) := by
  refine callsDIn_of_wpSIn Try.func59 rfl trivial fun c₀ cs hu => ?_
  refine wpSIn_rec (fun _ _ => trivial) (by rfl) (by rfl) rfl ?_
  simp only [recoverD, hu]
  have hc : CallsIn Fence.wide 2 Try.prog 33 #[.nilIface] w _ := callsIn_wide.2 (caught_nil w)
  gi_wp2
  refine ⟨trivial, hc.mono ?_⟩
  rintro e w' ⟨rfl, rfl⟩
  gi_wp2
  exact ⟨rfl, .returning, by cases c₀; simp_all, .tuple #[], by simp [results, Try.results59, go_sem], rfl, rfl, rfl⟩

set_option maxRecDepth 100000 in
set_option maxHeartbeats 1000000 in
theorem toSubject_caught (p : Addr) (w : World) (v1 : Value) (hp : w.cell? p = some v1) (hf : w.frozen? p = false) :
    CallsDIn Fence.wide 3 Try.prog 59 #[.pointer (some p)] (.panicking errX) w fun e u' w' => e = .returned (.tuple #[]) ∧ settle u' = .returning ∧ w' = w.setCell p (.int .i64 150) := by
  refine callsDIn_of_wpSIn Try.func59 rfl trivial fun c₀ cs hu => ?_
  unfold errX at hu
  refine wpSIn_rec (fun _ _ => trivial) (by rfl) (by rfl) rfl ?_
  simp only [recoverD, hu]
  have hc : CallsIn Fence.wide 2 Try.prog 33 #[.iface 28 (.int .i64 150)] w _ := callsIn_wide.2 (caught_err w)
  gi_wp2
  refine ⟨trivial, hc.mono ?_⟩
  rintro e w' ⟨rfl, rfl⟩
  gi_wp2
  exact ⟨rfl, _, rfl, .tuple #[], by simp [results, Try.results59, go_sem], rfl, rfl, rfl⟩

set_option maxRecDepth 100000 in
set_option maxHeartbeats 1000000 in
theorem toIssuer_idle (p : Addr) (w : World) (v1 : Value) (hp : w.cell? p = some v1) (hf : w.frozen? p = false) :
    CallsDIn Fence.wide 3 Try.prog 62 #[.pointer (some p)] .returning w fun e u' w' => e = .returned (.tuple #[]) ∧ u' = .returning ∧ w' = w.setCell p (.int .i64 0) := by
  refine callsDIn_of_wpSIn Try.func62 rfl trivial fun c₀ cs hu => ?_
  refine wpSIn_rec (fun _ _ => trivial) (by rfl) (by rfl) rfl ?_
  simp only [recoverD, hu]
  have hc : CallsIn Fence.wide 2 Try.prog 33 #[.nilIface] w _ := callsIn_wide.2 (caught_nil w)
  gi_wp2
  refine ⟨trivial, hc.mono ?_⟩
  rintro e w' ⟨rfl, rfl⟩
  gi_wp2
  exact ⟨rfl, .returning, by cases c₀; simp_all, .tuple #[], by simp [results, Try.results62, go_sem], rfl, rfl, rfl⟩

set_option maxRecDepth 100000 in
set_option maxHeartbeats 1000000 in
theorem toIssuer_caught (p : Addr) (w : World) (v1 : Value) (hp : w.cell? p = some v1) (hf : w.frozen? p = false) :
    CallsDIn Fence.wide 3 Try.prog 62 #[.pointer (some p)] (.panicking errX) w fun e u' w' => e = .returned (.tuple #[]) ∧ settle u' = .returning ∧ w' = w.setCell p (.int .i64 150) := by
  refine callsDIn_of_wpSIn Try.func62 rfl trivial fun c₀ cs hu => ?_
  unfold errX at hu
  refine wpSIn_rec (fun _ _ => trivial) (by rfl) (by rfl) rfl ?_
  simp only [recoverD, hu]
  have hc : CallsIn Fence.wide 2 Try.prog 33 #[.iface 28 (.int .i64 150)] w _ := callsIn_wide.2 (caught_err w)
  gi_wp2
  refine ⟨trivial, hc.mono ?_⟩
  rintro e w' ⟨rfl, rfl⟩
  gi_wp2
  exact ⟨rfl, _, rfl, .tuple #[], by simp [results, Try.results62, go_sem], rfl, rfl, rfl⟩

end Go.Proofs.Ytaeddbkkkiefcaa
