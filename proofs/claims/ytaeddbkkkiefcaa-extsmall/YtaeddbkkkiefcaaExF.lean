/-
  ext: the faces that write: what gives up inside is told as an error.
-/
import Derived.Test.YtaeddbkkkiefcaaExP
namespace Go.Proofs.Ytaeddbkkkiefcaa
open Go.RowKit Go.IntWalk

theorem err_box (w : World) : (w.alloc (.cells #[.int .i64 0] 28)).heap[w.heap.size]? = some (.cells #[.int .i64 0] 28) := heap_alloc_new _ _
theorem err_at {W : World} {g : Nat} {v : Value} (h : W.heap[g]? = some (.cells #[v] 28)) : W.cell? ⟨g, 0, none⟩ = some v ∧ W.frozen? ⟨g, 0, none⟩ = false := by
  refine ⟨by simp [World.cell?, h], by simp [World.frozen?, h]⟩
theorem err_set (w1 : World) (g : Nat) (z : Value) (h : w1.heap[g]? = some (.cells #[z] 28)) (y : Int) : (w1.setCell ⟨g, 0, none⟩ (.int .i64 y)).heap[g]? = some (.cells #[.int .i64 y] 28) := by
  have := heap_setCell_same w1 g 0 _ _ (.int .i64 y) h
  rw [this]
  rfl
theorem own_far {w1 : World} {base g : Nat} {v : Value} {xs : List Int} (h : OwnB w1 base v xs) (hg : g < base) (y : Value) : OwnB (w1.setCell ⟨g, 0, none⟩ y) base v xs := by
  obtain ⟨hl, h⟩ := h
  refine ⟨hl, ?_⟩
  rcases h with h | ⟨q, cap, cur, rfl, hbg, hh, r⟩
  · exact .inl h
  · refine .inr ⟨q, cap, cur, rfl, hbg, ?_, r⟩
    rw [heap_setCell_other _ _ _ _ (by simp; omega)]
    exact hh

set_option maxRecDepth 100000 in
set_option maxHeartbeats 1000000 in
theorem usageF (s : Int) (w : World) :
    CallsIn Fence.wide 4 Try.prog 8 #[.int .u16 s] w fun e w' => ∃ a m c, e = .returned (.tuple #[.slice a m c, .int .i64 (wrE (usP s))]) ∧ OwnB w' w.heap.size (.slice a m c) (wrC (usP s) (usB s)) ∧ Below w.heap.size w w' := by
  have hmf : ∀ (fn : Fn) (first cap : Array Value) (w : World), (Instr.makeFunc fn first cap).run Try.prog w = .ok (.func fn first cap) w := fun _ _ _ _ => rfl
  have BX := xbelow w (.cells #[.int .i64 0] 28)
  have hz : (w.alloc (.cells #[.int .i64 0] 28)).heap.size = w.heap.size + 1 := by simp
  have hr0 := err_box w
  refine callsIn_of_wp_marks Try.func8 rfl trivial ?_ rfl
  simp only [Try.ntmps8, List.size_toArray, List.length_cons, List.length_nil, Nat.reduceAdd, Nat.reduceSub, Array.replicate_succ, Array.replicate_zero, List.push_toArray, List.append_toArray, List.nil_append, List.cons_append]
  by_cases h : usP s
  · have e1 : wrC (usP s) (usB s) = usB s := by unfold wrC; rw [if_pos h]
    have e2 : wrE (usP s) = 0 := by unfold wrE; rw [if_pos h]
    rw [e1, e2]
    have hc := hide (fun W => writeUsage_yes s h W)
    gi_wp2
    refine ⟨trivial, (callsIn_wide.2 (hc.out _)).mono ?_⟩
    rintro e w1 ⟨a, m, c, rfl, o1, B1⟩
    have hr1 := (B1.block _ (Array.getElem?_eq_some_iff.1 hr0).1).trans hr0
    have k0 : w1.cell? ⟨w.heap.size, 0, none⟩ = some (.int .i64 0) := (err_at hr1).1
    have f0 : w1.frozen? ⟨w.heap.size, 0, none⟩ = false := (err_at hr1).2
    have hr2 := err_set w1 _ _ hr1 0
    have k2 : (w1.setCell ⟨w.heap.size, 0, none⟩ (.int .i64 0)).cell? ⟨w.heap.size, 0, none⟩ = some (.int .i64 0) := (err_at hr2).1
    have f2 : (w1.setCell ⟨w.heap.size, 0, none⟩ (.int .i64 0)).frozen? ⟨w.heap.size, 0, none⟩ = false := (err_at hr2).2
    have hr3 := err_set _ _ _ hr2 0
    have k3 : ((w1.setCell ⟨w.heap.size, 0, none⟩ (.int .i64 0)).setCell ⟨w.heap.size, 0, none⟩ (.int .i64 0)).cell? ⟨w.heap.size, 0, none⟩ = some (.int .i64 0) := (err_at hr3).1
    gi_wp2
    refine ⟨by simp, .inr ⟨by simp [Fence.wide], .func 39, _, 39, #[.pointer (some ⟨w.heap.size, 0, none⟩)], rfl, by simp [invoke, go_sem], fun _ _ => trivial, (usage_idle _ _ _ k2 f2).mono ?_⟩⟩
    rintro e u w' ⟨rfl, rfl, rfl⟩
    exact ⟨.tuple #[.slice a m c, .int .i64 0], by simp [results, Try.results8, go_sem, k3], a, m, c, rfl, (own_far (own_far o1 (by rw [hz]; omega) _) (by rw [hz]; omega) _).rebaseX (by rw [hz]; omega), ((BX.trans (B1.mono BX.size)).setCell (Nat.le_refl _) _).setCell (Nat.le_refl _) _⟩
  · have e1 : wrC (usP s) (usB s) = [] := by unfold wrC; rw [if_neg h]
    have e2 : wrE (usP s) = 150 := by unfold wrE; rw [if_neg h]
    rw [e1, e2]
    have hc := hide (fun W => writeUsage_no s h W)
    have k0 : (w.alloc (.cells #[.int .i64 0] 28)).cell? ⟨w.heap.size, 0, none⟩ = some (.int .i64 0) := (err_at hr0).1
    have f0 : (w.alloc (.cells #[.int .i64 0] 28)).frozen? ⟨w.heap.size, 0, none⟩ = false := (err_at hr0).2
    have hr3 := err_set _ _ _ hr0 150
    have k3 : ((w.alloc (.cells #[.int .i64 0] 28)).setCell ⟨w.heap.size, 0, none⟩ (.int .i64 150)).cell? ⟨w.heap.size, 0, none⟩ = some (.int .i64 150) := (err_at hr3).1
    gi_wp2
    refine ⟨trivial, (callsIn_wide.2 (hc.out _)).mono ?_⟩
    rintro e w1 ⟨rfl, rfl⟩
    refine ⟨by simp, .inr ⟨by simp [Fence.wide], .func 39, _, 39, #[.pointer (some ⟨w.heap.size, 0, none⟩)], rfl, by simp [invoke, go_sem], fun _ _ => trivial, (usage_caught _ _ _ k0 f0).mono ?_⟩⟩
    rintro e u w' ⟨rfl, hu, rfl⟩
    simp only [hu]
    exact ⟨.tuple #[.slice none 0 0, .int .i64 150], by simp [results, Try.results8, go_sem], none, 0, 0, rfl, OwnB.nil _ _, BX.setCell (Nat.le_refl _) _⟩

set_option maxRecDepth 100000 in
set_option maxHeartbeats 1000000 in
theorem numberF (n : Int) (w : World) :
    CallsIn Fence.wide 4 Try.prog 10 #[.int .i64 n] w fun e w' => ∃ a m c, e = .returned (.tuple #[.slice a m c, .int .i64 (wrE (nuP n))]) ∧ OwnB w' w.heap.size (.slice a m c) (wrC (nuP n) (nuB n)) ∧ Below w.heap.size w w' := by
  have hmf : ∀ (fn : Fn) (first cap : Array Value) (w : World), (Instr.makeFunc fn first cap).run Try.prog w = .ok (.func fn first cap) w := fun _ _ _ _ => rfl
  have BX := xbelow w (.cells #[.int .i64 0] 28)
  have hz : (w.alloc (.cells #[.int .i64 0] 28)).heap.size = w.heap.size + 1 := by simp
  have hr0 := err_box w
  refine callsIn_of_wp_marks Try.func10 rfl trivial ?_ rfl
  simp only [Try.ntmps10, List.size_toArray, List.length_cons, List.length_nil, Nat.reduceAdd, Nat.reduceSub, Array.replicate_succ, Array.replicate_zero, List.push_toArray, List.append_toArray, List.nil_append, List.cons_append]
  by_cases h : nuP n
  · have e1 : wrC (nuP n) (nuB n) = nuB n := by unfold wrC; rw [if_pos h]
    have e2 : wrE (nuP n) = 0 := by unfold wrE; rw [if_pos h]
    rw [e1, e2]
    have hc := hide (fun W => writeNumber_yes n h W)
    gi_wp2
    refine ⟨trivial, (callsIn_wide.2 (hc.out _)).mono ?_⟩
    rintro e w1 ⟨a, m, c, rfl, o1, B1⟩
    have hr1 := (B1.block _ (Array.getElem?_eq_some_iff.1 hr0).1).trans hr0
    have k0 : w1.cell? ⟨w.heap.size, 0, none⟩ = some (.int .i64 0) := (err_at hr1).1
    have f0 : w1.frozen? ⟨w.heap.size, 0, none⟩ = false := (err_at hr1).2
    have hr2 := err_set w1 _ _ hr1 0
    have k2 : (w1.setCell ⟨w.heap.size, 0, none⟩ (.int .i64 0)).cell? ⟨w.heap.size, 0, none⟩ = some (.int .i64 0) := (err_at hr2).1
    have f2 : (w1.setCell ⟨w.heap.size, 0, none⟩ (.int .i64 0)).frozen? ⟨w.heap.size, 0, none⟩ = false := (err_at hr2).2
    have hr3 := err_set _ _ _ hr2 0
    have k3 : ((w1.setCell ⟨w.heap.size, 0, none⟩ (.int .i64 0)).setCell ⟨w.heap.size, 0, none⟩ (.int .i64 0)).cell? ⟨w.heap.size, 0, none⟩ = some (.int .i64 0) := (err_at hr3).1
    gi_wp2
    refine ⟨by simp, .inr ⟨by simp [Fence.wide], .func 42, _, 42, #[.pointer (some ⟨w.heap.size, 0, none⟩)], rfl, by simp [invoke, go_sem], fun _ _ => trivial, (number_idle _ _ _ k2 f2).mono ?_⟩⟩
    rintro e u w' ⟨rfl, rfl, rfl⟩
    exact ⟨.tuple #[.slice a m c, .int .i64 0], by simp [results, Try.results10, go_sem, k3], a, m, c, rfl, (own_far (own_far o1 (by rw [hz]; omega) _) (by rw [hz]; omega) _).rebaseX (by rw [hz]; omega), ((BX.trans (B1.mono BX.size)).setCell (Nat.le_refl _) _).setCell (Nat.le_refl _) _⟩
  · have e1 : wrC (nuP n) (nuB n) = [] := by unfold wrC; rw [if_neg h]
    have e2 : wrE (nuP n) = 150 := by unfold wrE; rw [if_neg h]
    rw [e1, e2]
    have hc := hide (fun W => writeNumber_no n h W)
    have k0 : (w.alloc (.cells #[.int .i64 0] 28)).cell? ⟨w.heap.size, 0, none⟩ = some (.int .i64 0) := (err_at hr0).1
    have f0 : (w.alloc (.cells #[.int .i64 0] 28)).frozen? ⟨w.heap.size, 0, none⟩ = false := (err_at hr0).2
    have hr3 := err_set _ _ _ hr0 150
    have k3 : ((w.alloc (.cells #[.int .i64 0] 28)).setCell ⟨w.heap.size, 0, none⟩ (.int .i64 150)).cell? ⟨w.heap.size, 0, none⟩ = some (.int .i64 150) := (err_at hr3).1
    gi_wp2
    refine ⟨trivial, (callsIn_wide.2 (hc.out _)).mono ?_⟩
    rintro e w1 ⟨rfl, rfl⟩
    refine ⟨by simp, .inr ⟨by simp [Fence.wide], .func 42, _, 42, #[.pointer (some ⟨w.heap.size, 0, none⟩)], rfl, by simp [invoke, go_sem], fun _ _ => trivial, (number_caught _ _ _ k0 f0).mono ?_⟩⟩
    rintro e u w' ⟨rfl, hu, rfl⟩
    simp only [hu]
    exact ⟨.tuple #[.slice none 0 0, .int .i64 150], by simp [results, Try.results10, go_sem], none, 0, 0, rfl, OwnB.nil _ _, BX.setCell (Nat.le_refl _) _⟩

set_option maxRecDepth 100000 in
set_option maxHeartbeats 1000000 in
theorem reasonF (n : Int) (w : World) :
    CallsIn Fence.wide 4 Try.prog 12 #[.int .i64 n] w fun e w' => ∃ a m c, e = .returned (.tuple #[.slice a m c, .int .i64 (wrE (reP n))]) ∧ OwnB w' w.heap.size (.slice a m c) (wrC (reP n) (reB n)) ∧ Below w.heap.size w w' := by
  have hmf : ∀ (fn : Fn) (first cap : Array Value) (w : World), (Instr.makeFunc fn first cap).run Try.prog w = .ok (.func fn first cap) w := fun _ _ _ _ => rfl
  have BX := xbelow w (.cells #[.int .i64 0] 28)
  have hz : (w.alloc (.cells #[.int .i64 0] 28)).heap.size = w.heap.size + 1 := by simp
  have hr0 := err_box w
  refine callsIn_of_wp_marks Try.func12 rfl trivial ?_ rfl
  simp only [Try.ntmps12, List.size_toArray, List.length_cons, List.length_nil, Nat.reduceAdd, Nat.reduceSub, Array.replicate_succ, Array.replicate_zero, List.push_toArray, List.append_toArray, List.nil_append, List.cons_append]
  by_cases h : reP n
  · have e1 : wrC (reP n) (reB n) = reB n := by unfold wrC; rw [if_pos h]
    have e2 : wrE (reP n) = 0 := by unfold wrE; rw [if_pos h]
    rw [e1, e2]
    have hc := hide (fun W => writeReason_yes n h W)
    gi_wp2
    refine ⟨trivial, (callsIn_wide.2 (hc.out _)).mono ?_⟩
    rintro e w1 ⟨a, m, c, rfl, o1, B1⟩
    have hr1 := (B1.block _ (Array.getElem?_eq_some_iff.1 hr0).1).trans hr0
    have k0 : w1.cell? ⟨w.heap.size, 0, none⟩ = some (.int .i64 0) := (err_at hr1).1
    have f0 : w1.frozen? ⟨w.heap.size, 0, none⟩ = false := (err_at hr1).2
    have hr2 := err_set w1 _ _ hr1 0
    have k2 : (w1.setCell ⟨w.heap.size, 0, none⟩ (.int .i64 0)).cell? ⟨w.heap.size, 0, none⟩ = some (.int .i64 0) := (err_at hr2).1
    have f2 : (w1.setCell ⟨w.heap.size, 0, none⟩ (.int .i64 0)).frozen? ⟨w.heap.size, 0, none⟩ = false := (err_at hr2).2
    have hr3 := err_set _ _ _ hr2 0
    have k3 : ((w1.setCell ⟨w.heap.size, 0, none⟩ (.int .i64 0)).setCell ⟨w.heap.size, 0, none⟩ (.int .i64 0)).cell? ⟨w.heap.size, 0, none⟩ = some (.int .i64 0) := (err_at hr3).1
    gi_wp2
    refine ⟨by simp, .inr ⟨by simp [Fence.wide], .func 44, _, 44, #[.pointer (some ⟨w.heap.size, 0, none⟩)], rfl, by simp [invoke, go_sem], fun _ _ => trivial, (reason_idle _ _ _ k2 f2).mono ?_⟩⟩
    rintro e u w' ⟨rfl, rfl, rfl⟩
    exact ⟨.tuple #[.slice a m c, .int .i64 0], by simp [results, Try.results12, go_sem, k3], a, m, c, rfl, (own_far (own_far o1 (by rw [hz]; omega) _) (by rw [hz]; omega) _).rebaseX (by rw [hz]; omega), ((BX.trans (B1.mono BX.size)).setCell (Nat.le_refl _) _).setCell (Nat.le_refl _) _⟩
  · have e1 : wrC (reP n) (reB n) = [] := by unfold wrC; rw [if_neg h]
    have e2 : wrE (reP n) = 150 := by unfold wrE; rw [if_neg h]
    rw [e1, e2]
    have hc := hide (fun W => writeReason_no n h W)
    have k0 : (w.alloc (.cells #[.int .i64 0] 28)).cell? ⟨w.heap.size, 0, none⟩ = some (.int .i64 0) := (err_at hr0).1
    have f0 : (w.alloc (.cells #[.int .i64 0] 28)).frozen? ⟨w.heap.size, 0, none⟩ = false := (err_at hr0).2
    have hr3 := err_set _ _ _ hr0 150
    have k3 : ((w.alloc (.cells #[.int .i64 0] 28)).setCell ⟨w.heap.size, 0, none⟩ (.int .i64 150)).cell? ⟨w.heap.size, 0, none⟩ = some (.int .i64 150) := (err_at hr3).1
    gi_wp2
    refine ⟨trivial, (callsIn_wide.2 (hc.out _)).mono ?_⟩
    rintro e w1 ⟨rfl, rfl⟩
    refine ⟨by simp, .inr ⟨by simp [Fence.wide], .func 44, _, 44, #[.pointer (some ⟨w.heap.size, 0, none⟩)], rfl, by simp [invoke, go_sem], fun _ _ => trivial, (reason_caught _ _ _ k0 f0).mono ?_⟩⟩
    rintro e u w' ⟨rfl, hu, rfl⟩
    simp only [hu]
    exact ⟨.tuple #[.slice none 0 0, .int .i64 150], by simp [results, Try.results12, go_sem], none, 0, 0, rfl, OwnB.nil _ _, BX.setCell (Nat.le_refl _) _⟩

end Go.Proofs.Ytaeddbkkkiefcaa
