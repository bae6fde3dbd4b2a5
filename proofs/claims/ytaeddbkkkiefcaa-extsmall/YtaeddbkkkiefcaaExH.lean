/-
  ext: the face of Basic.
-/
import Derived.Test.YtaeddbkkkiefcaaExG
namespace Go.Proofs.Ytaeddbkkkiefcaa
open Go.RowKit Go.IntWalk

set_option maxRecDepth 100000 in
set_option maxHeartbeats 1000000 in
theorem basicF (v : Bool) (n : Int) (w : World) :
    CallsIn Fence.wide 4 Try.prog 5 #[.agg #[.bool v, .int .i64 n]] w fun e w' => ∃ a m c, e = .returned (.tuple #[.slice a m c, .int .i64 (wrE (baP v n))]) ∧ OwnB w' w.heap.size (.slice a m c) (wrC (baP v n) (baB v n)) ∧ Below w.heap.size w w' := by
  have hmf : ∀ (fn : Fn) (first cap : Array Value) (w : World), (Instr.makeFunc fn first cap).run Try.prog w = .ok (.func fn first cap) w := fun _ _ _ _ => rfl
  have BX0 := xbelow w (.cells #[.bool v, .int .i64 n] 23)
  have hz0 : (w.alloc (.cells #[.bool v, .int .i64 n] 23)).heap.size = w.heap.size + 1 := by simp
  have kk : (w.alloc (.cells #[.bool v, .int .i64 n] 23)).heap[w.heap.size]? = some (.cells #[.bool v, .int .i64 n] 23) := heap_alloc_new _ _
  have BX1 := xbelow (w.alloc (.cells #[.bool v, .int .i64 n] 23)) (.cells #[.int .i64 0] 28)
  have BX := BX0.trans (BX1.mono BX0.size)
  have hz : ((w.alloc (.cells #[.bool v, .int .i64 n] 23)).alloc (.cells #[.int .i64 0] 28)).heap.size = w.heap.size + 2 := by simp
  have hr0 := err_box (w.alloc (.cells #[.bool v, .int .i64 n] 23))
  rw [hz0] at hr0
  refine callsIn_of_wp_marks Try.func5 rfl trivial ?_ rfl
  simp only [Try.ntmps5, List.size_toArray, List.length_cons, List.length_nil, Nat.reduceAdd, Nat.reduceSub, Array.replicate_succ, Array.replicate_zero, List.push_toArray, List.append_toArray, List.nil_append, List.cons_append]
  by_cases h : baP v n
  · have e1 : wrC (baP v n) (baB v n) = baB v n := by unfold wrC; rw [if_pos h]
    have e2 : wrE (baP v n) = 0 := by unfold wrE; rw [if_pos h]
    rw [e1, e2]
    have hc := hide (fun W => writeBasic_yes v n h W)
    clear h e1 e2
    gi_wp2
    refine ⟨trivial, (callsIn_wide.2 (hc.out _)).mono ?_⟩
    rintro e w1 ⟨a, m, c, rfl, o1, B1⟩
    have hr1 := (B1.block _ (Array.getElem?_eq_some_iff.1 hr0).1).trans hr0
    have k0 : w1.cell? ⟨w.heap.size + 1, 0, none⟩ = some (.int .i64 0) := (err_at hr1).1
    have f0 : w1.frozen? ⟨w.heap.size + 1, 0, none⟩ = false := (err_at hr1).2
    have hr2 := err_set w1 _ _ hr1 0
    have k2 : (w1.setCell ⟨w.heap.size + 1, 0, none⟩ (.int .i64 0)).cell? ⟨w.heap.size + 1, 0, none⟩ = some (.int .i64 0) := (err_at hr2).1
    have f2 : (w1.setCell ⟨w.heap.size + 1, 0, none⟩ (.int .i64 0)).frozen? ⟨w.heap.size + 1, 0, none⟩ = false := (err_at hr2).2
    have hr3 := err_set _ _ _ hr2 0
    have k3 : ((w1.setCell ⟨w.heap.size + 1, 0, none⟩ (.int .i64 0)).setCell ⟨w.heap.size + 1, 0, none⟩ (.int .i64 0)).cell? ⟨w.heap.size + 1, 0, none⟩ = some (.int .i64 0) := (err_at hr3).1
    gi_wp2
    refine ⟨by simp, .inr ⟨by simp [Fence.wide], .func 32, _, 32, #[.pointer (some ⟨w.heap.size + 1, 0, none⟩)], rfl, by simp [invoke, go_sem], fun _ _ => trivial, (basic_idle _ _ _ k2 f2).mono ?_⟩⟩
    rintro e u w' ⟨rfl, rfl, rfl⟩
    exact ⟨.tuple #[.slice a m c, .int .i64 0], by simp [results, Try.results5, go_sem, k3], a, m, c, rfl, (own_far (own_far o1 (by rw [hz]; omega) _) (by rw [hz]; omega) _).rebaseX (by rw [hz]; omega), ((BX.trans (B1.mono BX.size)).setCell (Nat.le_succ _) _).setCell (Nat.le_succ _) _⟩
  · have e1 : wrC (baP v n) (baB v n) = [] := by unfold wrC; rw [if_neg h]
    have e2 : wrE (baP v n) = 150 := by unfold wrE; rw [if_neg h]
    rw [e1, e2]
    have hc := hide (fun W => writeBasic_no v n h W)
    clear h e1 e2
    gi_wp2
    refine ⟨trivial, (callsIn_wide.2 (hc.out _)).mono ?_⟩
    rintro e w1 ⟨rfl, B1⟩
    have hr1 := (B1.block _ (Array.getElem?_eq_some_iff.1 hr0).1).trans hr0
    have k0 : w1.cell? ⟨w.heap.size + 1, 0, none⟩ = some (.int .i64 0) := (err_at hr1).1
    have f0 : w1.frozen? ⟨w.heap.size + 1, 0, none⟩ = false := (err_at hr1).2
    have hr3 := err_set _ _ _ hr1 150
    have k3 : (w1.setCell ⟨w.heap.size + 1, 0, none⟩ (.int .i64 150)).cell? ⟨w.heap.size + 1, 0, none⟩ = some (.int .i64 150) := (err_at hr3).1
    refine ⟨by simp, .inr ⟨by simp [Fence.wide], .func 32, _, 32, #[.pointer (some ⟨w.heap.size + 1, 0, none⟩)], rfl, by simp [invoke, go_sem], fun _ _ => trivial, (basic_caught _ _ _ k0 f0).mono ?_⟩⟩
    rintro e u w' ⟨rfl, hu, rfl⟩
    simp only [hu]
    exact ⟨.tuple #[.slice none 0 0, .int .i64 150], by simp [results, Try.results5, go_sem, k3], none, 0, 0, rfl, OwnB.nil _ _, (BX.trans (B1.mono BX.size)).setCell (Nat.le_succ _) _⟩

end Go.Proofs.Ytaeddbkkkiefcaa
