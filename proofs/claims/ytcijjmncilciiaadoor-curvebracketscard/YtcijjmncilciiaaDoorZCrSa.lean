/-
  The document's sum, where a point is far.
-/
import Derived.Test.YtcijjmncilciiaaDoorZEcHToCrTw
import Derived.Deep.DeepCutAuto
namespace Go.Proofs.YtcijjmncilciiaaDoor
open Go.RowKit Go.IntWalk
attribute [local go_sem ↓] ld_F st_F eq_F ld_J st_J bd_J bd_F

set_option maxRecDepth 100000 in
set_option maxHeartbeats 8000000 in
theorem rsum_a (gf : Nat) (x1 y1 z1 x2 y2 z2 : Int) (b_z1 : Nb z1) (hz : z1 = 0)  (w : World) (hF : FF w gf) :
    Calls Tryd.prog 45 #[.pointer (some ⟨gf, 0, none⟩), .agg (j3 x1 y1 z1).toArray, .agg (j3 x2 y2 z2).toArray] w (Ans (.agg (j3 x2 y2 z2).toArray) w) := by
  have HF := hide hF
  have C22 : Hid (∀ W, Calls Tryd.prog 70 #[.agg (fL z1).toArray] W (Ans (.bool (decide (z1 = 0))) W)) := fun W => rzeroN b_z1 W
  have hS : Bx w [(w.heap.size, 92, (j3 x1 y1 z1)), (w.heap.size + 1, 92, (j3 x2 y2 z2)), (w.heap.size + 1 + 1, 92, z24)] (((w.alloc (.cells (j3 x1 y1 z1).toArray 92)).alloc (.cells (j3 x2 y2 z2).toArray 92)).alloc (.cells #[.int .u64 0, .int .u64 0, .int .u64 0, .int .u64 0, .int .u64 0, .int .u64 0, .int .u64 0, .int .u64 0, .int .u64 0, .int .u64 0, .int .u64 0, .int .u64 0, .int .u64 0, .int .u64 0, .int .u64 0, .int .u64 0, .int .u64 0, .int .u64 0, .int .u64 0, .int .u64 0, .int .u64 0, .int .u64 0, .int .u64 0, .int .u64 0] 92)) := ((((Bx.nil w).newAt 0 (w.heap.size) (by simp) 92 (j3 x1 y1 z1) _ rfl).newAt 1 (w.heap.size + 1) (by simp) 92 (j3 x2 y2 z2) _ rfl).newAt 2 (w.heap.size + 1 + 1) (by simp) 92 z24 _ rfl)
  have o1 := j3_one x1 y1 z1
  have o2 := j3_one x2 y2 z2
  have HZ : Hid (decide (z1 = 0) = true) := decide_eq_true hz
  clear hz HF
  clear hF b_z1
  go_enter Tryd.func45, Tryd.ntmps45
  have hl := (ldj3 (hS.get 0 rfl)).2.2
  go_wp2_with fail
  refine (C22.out _).mono ?_
  rintro e U901 ⟨rfl, LB⟩
  clear hl o1 o2
  have hS := hS.below LB
  clear LB
  rw [HZ.out]
  have hl := ldj (hS.get 1 rfl)
  have hst := stj (hS.get 2 rfl) rfl x2 y2 z2
  have hS' : Bx w [(w.heap.size, 92, (j3 x1 y1 z1)), (w.heap.size + 1, 92, (j3 x2 y2 z2)), (w.heap.size + 1 + 1, 92, (j3 x2 y2 z2))] (U901.setCells (w.heap.size + 1 + 1) 0 (j3 x2 y2 z2)) := hS.setAt 2 (j3 x2 y2 z2) rfl rfl
  clear hS
  have hS := hS'
  clear hS'
  go_wp2
  generalize U901.setCells (w.heap.size + 1 + 1) 0 (j3 x2 y2 z2) = U999 at hS ⊢
  refine bodyPost_ret (v := .agg (j3 x2 y2 z2).toArray) ?_ rfl ⟨rfl, hS.bl⟩
  exact res_one (T := 92) (p := 6) (ty := 92) (X := j3 x2 y2 z2) (by kernel_rfl) _ _ rfl Tryd.underlying92 rfl (by kernel_rfl) (hS.get 2 rfl)

set_option maxRecDepth 100000 in
set_option maxHeartbeats 8000000 in
theorem rsum_b (gf : Nat) (x1 y1 z1 x2 y2 z2 : Int) (b_z1 : Nb z1) (b_z2 : Nb z2) (hz : z1 ≠ 0) (hy : z2 = 0)  (w : World) (hF : FF w gf) :
    Calls Tryd.prog 45 #[.pointer (some ⟨gf, 0, none⟩), .agg (j3 x1 y1 z1).toArray, .agg (j3 x2 y2 z2).toArray] w (Ans (.agg (j3 x1 y1 z1).toArray) w) := by
  have HF := hide hF
  have C22 : Hid (∀ W, Calls Tryd.prog 70 #[.agg (fL z1).toArray] W (Ans (.bool (decide (z1 = 0))) W)) := fun W => rzeroN b_z1 W
  have C26 : Hid (∀ W, Calls Tryd.prog 70 #[.agg (fL z2).toArray] W (Ans (.bool (decide (z2 = 0))) W)) := fun W => rzeroN b_z2 W
  have hS : Bx w [(w.heap.size, 92, (j3 x1 y1 z1)), (w.heap.size + 1, 92, (j3 x2 y2 z2)), (w.heap.size + 1 + 1, 92, z24)] (((w.alloc (.cells (j3 x1 y1 z1).toArray 92)).alloc (.cells (j3 x2 y2 z2).toArray 92)).alloc (.cells #[.int .u64 0, .int .u64 0, .int .u64 0, .int .u64 0, .int .u64 0, .int .u64 0, .int .u64 0, .int .u64 0, .int .u64 0, .int .u64 0, .int .u64 0, .int .u64 0, .int .u64 0, .int .u64 0, .int .u64 0, .int .u64 0, .int .u64 0, .int .u64 0, .int .u64 0, .int .u64 0, .int .u64 0, .int .u64 0, .int .u64 0, .int .u64 0] 92)) := ((((Bx.nil w).newAt 0 (w.heap.size) (by simp) 92 (j3 x1 y1 z1) _ rfl).newAt 1 (w.heap.size + 1) (by simp) 92 (j3 x2 y2 z2) _ rfl).newAt 2 (w.heap.size + 1 + 1) (by simp) 92 z24 _ rfl)
  have o1 := j3_one x1 y1 z1
  have o2 := j3_one x2 y2 z2
  have HZ : Hid (decide (z1 = 0) = false) := decide_eq_false hz
  have HY : Hid (decide (z2 = 0) = true) := decide_eq_true hy
  clear hz hy HF
  clear hF b_z1 b_z2
  go_enter Tryd.func45, Tryd.ntmps45
  have hl := (ldj3 (hS.get 0 rfl)).2.2
  go_wp2_with fail
  refine (C22.out _).mono ?_
  rintro e U901 ⟨rfl, LB⟩
  clear hl o1 o2
  have hS := hS.below LB
  clear LB
  rw [HZ.out]
  have hl := (ldj3 (hS.get 1 rfl)).2.2
  go_wp2_with fail
  refine (C26.out _).mono ?_
  rintro e U902 ⟨rfl, LB⟩
  clear hl
  have hS := hS.below LB
  clear LB
  rw [HY.out]
  have hl := ldj (hS.get 0 rfl)
  have hst := stj (hS.get 2 rfl) rfl x1 y1 z1
  have hS' : Bx w [(w.heap.size, 92, (j3 x1 y1 z1)), (w.heap.size + 1, 92, (j3 x2 y2 z2)), (w.heap.size + 1 + 1, 92, (j3 x1 y1 z1))] (U902.setCells (w.heap.size + 1 + 1) 0 (j3 x1 y1 z1)) := hS.setAt 2 (j3 x1 y1 z1) rfl rfl
  clear hS
  have hS := hS'
  clear hS'
  go_wp2
  generalize U902.setCells (w.heap.size + 1 + 1) 0 (j3 x1 y1 z1) = U999 at hS ⊢
  refine bodyPost_ret (v := .agg (j3 x1 y1 z1).toArray) ?_ rfl ⟨rfl, hS.bl⟩
  exact res_one (T := 92) (p := 6) (ty := 92) (X := j3 x1 y1 z1) (by kernel_rfl) _ _ rfl Tryd.underlying92 rfl (by kernel_rfl) (hS.get 2 rfl)

end Go.Proofs.YtcijjmncilciiaaDoor
