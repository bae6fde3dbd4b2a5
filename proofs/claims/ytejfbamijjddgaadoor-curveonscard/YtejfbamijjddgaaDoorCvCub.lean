/-
  curve's thrice, products and cubic.
-/
import Derived.Test.YtejfbamijjddgaaDoorCvFld
namespace Go.Proofs.YtejfbamijjddgaaDoor
open Go.RowKit Go.IntWalk

attribute [local go_sem ↓] ld_num st_num ld_pln st_pln ld_ops st_ops

theorem opcells {T : TypeId} {w : World} {g : Nat} {b0 b1 b2 b3 : Int} (h : Blk T w g (opL b0 b1 b2 b3)) :
    w.cell? ⟨g, 0, none⟩ = some (.func (.func 66) #[] #[]) ∧ w.cell? ⟨g, 1, none⟩ = some (.func (.func 67) #[] #[]) ∧ w.cell? ⟨g, 2, none⟩ = some (.func (.func 68) #[] #[]) ∧ w.cell? ⟨g, 3, none⟩ = some (.func (.func 66) #[.agg #[.int .u64 b0, .int .u64 b1, .int .u64 b2, .int .u64 b3]] #[]) ∧ w.cell? ⟨g, 4, none⟩ = some (.func (.func 68) #[.agg #[.int .u64 b0, .int .u64 b1, .int .u64 b2, .int .u64 b3]] #[]) := by
  refine ⟨?_, ?_, ?_, ?_, ?_⟩ <;> rw [h.cell] <;> rfl

theorem thr_S {T T' : TypeId} {W : World} {g h : Nat} {b0 b1 b2 b3 a0 a1 a2 a3 : Int} (hO : Blk T W g (opL b0 b1 b2 b3)) (hX : Blk T' W h (L4 a0 a1 a2 a3)) :
    W.cell? ⟨g, 0, none⟩ = some (.func (.func 66) #[] #[]) ∧ (ldA 84 (.pointer (some ⟨h, 0, none⟩))).run Tryd.prog W = .ok (.agg #[.int .u64 a0, .int .u64 a1, .int .u64 a2, .int .u64 a3]) W := ⟨(opcells hO).1, ld4 hX⟩

theorem Blk.other {T : TypeId} {w : World} {g : Nat} {L : List Value} (h : Blk T w g L) {k o : Nat} {vs : List Value} (hne : g ≠ k) : Blk T (w.setCells k o vs) g L := h.kept (gSets k vs o w).1 (by simpa using hne)

/-- The worlds in which a call has its boxes. -/
def W3 (w : World) (A B C : List Value) (s t u : TypeId) : World := ((w.alloc (.cells A.toArray s)).alloc (.cells B.toArray t)).alloc (.cells C.toArray u)
theorem W3_a (w : World) (A B C : List Value) (s t u : TypeId) : Blk s (W3 w A B C s t u) w.heap.size A := ((Blk.new w _ _ _ rfl rfl).alloc _).alloc _
theorem W3_b (w : World) (A B C : List Value) (s t u : TypeId) : Blk t (W3 w A B C s t u) (w.heap.size + 1) B := (Blk.new _ _ _ _ rfl (by simp)).alloc _
theorem W3_c (w : World) (A B C : List Value) (s t u : TypeId) : Blk u (W3 w A B C s t u) (w.heap.size + 1 + 1) C := Blk.new _ _ _ _ rfl (by simp)
theorem W3_w (w : World) (A B C : List Value) (s t u : TypeId) : Below w.heap.size w (W3 w A B C s t u) := below3 w _ _ _

set_option maxRecDepth 100000 in
set_option maxHeartbeats 1000000 in
theorem thrice_any (b0 b1 b2 b3 a0 a1 a2 a3 x : Int) (ha : Nw a0 a1 a2 a3 x) (w : World) :
    Calls Tryd.prog 74 #[.agg (opL b0 b1 b2 b3).toArray, .agg #[.int .u64 a0, .int .u64 a1, .int .u64 a2, .int .u64 a3]] w (Rn (pa (pa x x) x) w) := by
  have HA := hide ha
  have O0 := hide (W3_a w (opL b0 b1 b2 b3) (L4 a0 a1 a2 a3) (L4 0 0 0 0) 81 84 84)
  have X0 := hide (W3_b w (opL b0 b1 b2 b3) (L4 a0 a1 a2 a3) (L4 0 0 0 0) 81 84 84)
  have Z0 := hide (W3_c w (opL b0 b1 b2 b3) (L4 a0 a1 a2 a3) (L4 0 0 0 0) 81 84 84)
  have L0 := hide (W3_w w (opL b0 b1 b2 b3) (L4 a0 a1 a2 a3) (L4 0 0 0 0) 81 84 84)
  clear ha
  go_enter Tryd.func74, Tryd.ntmps74
  simp only [opL]
  go_wp2
  go_region_held3 (fun W => W.cell? ⟨w.heap.size, 0, none⟩ = some (.func (.func 66) #[] #[]) ∧ (ldA 84 (.pointer (some ⟨w.heap.size + 1, 0, none⟩))).run Tryd.prog W = .ok (.agg #[.int .u64 a0, .int .u64 a1, .int .u64 a2, .int .u64 a3]) W) (first | exact thr_S (O2.out.other (by omega)) (X2.out.other (by omega)) | exact thr_S O2.out X2.out | exact thr_S O1.out X1.out | exact thr_S (O0.out.heap rfl) (X0.out.heap rfl)) (first | (go_at_call 66; refine (plus_any r0 r1 r2 r3 a0 a1 a2 a3 _ _ N1.out HA.out _).mono ?_; rintro e w2 ⟨s0, s1, s2, s3, rfl, HN, LB⟩; have N2 := hide HN; clear HN; have O2 := hide (O1.out.later LB rfl); have X2 := hide (X1.out.later LB rfl); have Z2 := hide (Z1.out.later LB rfl); have L2 := hide (below_then L1.out LB); clear LB; have hst := st4 Z2.out s0 s1 s2 s3) | (go_at_call 66; refine (plus_any a0 a1 a2 a3 a0 a1 a2 a3 _ _ HA.out HA.out _).mono ?_; rintro e w1 ⟨r0, r1, r2, r3, rfl, HN, LB⟩; have N1 := hide HN; clear HN; have O1 := hide (O0.out.later LB rfl); have X1 := hide (X0.out.later LB rfl); have Z1 := hide (Z0.out.later LB rfl); have L1 := hide (below_drew L0.out (by exact ⟨rfl, rfl, rfl, rfl⟩) LB); clear LB))
  go_wp2
  exact ret4 (p := 4) (by kernel_rfl) rfl Z2.out N2.out L2.out (by omega)

/-- What the square of y must be. -/
def cub (x : Int) : Int := pa BM (ps (mm (mm x x) x) (pa (pa x x) x))

theorem cub_S {T T' : TypeId} {W : World} {g h : Nat} {b0 b1 b2 b3 a0 a1 a2 a3 : Int} (hO : Blk T W g (opL b0 b1 b2 b3)) (hX : Blk T' W h (L4 a0 a1 a2 a3)) :
    W.cell? ⟨g, 1, none⟩ = some (.func (.func 67) #[] #[]) ∧ W.cell? ⟨g, 2, none⟩ = some (.func (.func 68) #[] #[]) ∧ W.cell? ⟨g, 3, none⟩ = some (.func (.func 66) #[.agg #[.int .u64 b0, .int .u64 b1, .int .u64 b2, .int .u64 b3]] #[]) ∧ (ldA 81 (.pointer (some ⟨g, 0, none⟩))).run Tryd.prog W = .ok (.agg #[.func (.func 66) #[] #[], .func (.func 67) #[] #[], .func (.func 68) #[] #[], .func (.func 66) #[.agg #[.int .u64 b0, .int .u64 b1, .int .u64 b2, .int .u64 b3]] #[], .func (.func 68) #[.agg #[.int .u64 b0, .int .u64 b1, .int .u64 b2, .int .u64 b3]] #[]]) W ∧ (ldA 84 (.pointer (some ⟨h, 0, none⟩))).run Tryd.prog W = .ok (.agg #[.int .u64 a0, .int .u64 a1, .int .u64 a2, .int .u64 a3]) W :=
  ⟨(opcells hO).2.1, (opcells hO).2.2.1, (opcells hO).2.2.2.1, ldO hO, ld4 hX⟩

set_option maxRecDepth 100000 in
set_option maxHeartbeats 1000000 in
theorem cubic_any (b0 b1 b2 b3 a0 a1 a2 a3 x : Int) (hb : Nw b0 b1 b2 b3 BM) (ha : Nw a0 a1 a2 a3 x) (w : World) :
    Calls Tryd.prog 70 #[.agg #[.int .u64 a0, .int .u64 a1, .int .u64 a2, .int .u64 a3], .agg (opL b0 b1 b2 b3).toArray] w (Rn (cub x) w) := by
  have HA := hide ha
  have HB := hide hb
  have X0 := hide (W3_a w (L4 a0 a1 a2 a3) (opL b0 b1 b2 b3) (L4 0 0 0 0) 84 81 84)
  have O0 := hide (W3_b w (L4 a0 a1 a2 a3) (opL b0 b1 b2 b3) (L4 0 0 0 0) 84 81 84)
  have Z0 := hide (W3_c w (L4 a0 a1 a2 a3) (opL b0 b1 b2 b3) (L4 0 0 0 0) 84 81 84)
  have L0 := hide (W3_w w (L4 a0 a1 a2 a3) (opL b0 b1 b2 b3) (L4 0 0 0 0) 84 81 84)
  clear ha hb
  go_enter Tryd.func70, Tryd.ntmps70
  simp only [opL]
  go_wp2
  go_region_held3 (fun W => W.cell? ⟨w.heap.size + 1, 1, none⟩ = some (.func (.func 67) #[] #[]) ∧ W.cell? ⟨w.heap.size + 1, 2, none⟩ = some (.func (.func 68) #[] #[]) ∧ W.cell? ⟨w.heap.size + 1, 3, none⟩ = some (.func (.func 66) #[.agg #[.int .u64 b0, .int .u64 b1, .int .u64 b2, .int .u64 b3]] #[]) ∧ (ldA 81 (.pointer (some ⟨w.heap.size + 1, 0, none⟩))).run Tryd.prog W = .ok (.agg #[.func (.func 66) #[] #[], .func (.func 67) #[] #[], .func (.func 68) #[] #[], .func (.func 66) #[.agg #[.int .u64 b0, .int .u64 b1, .int .u64 b2, .int .u64 b3]] #[], .func (.func 68) #[.agg #[.int .u64 b0, .int .u64 b1, .int .u64 b2, .int .u64 b3]] #[]]) W ∧ (ldA 84 (.pointer (some ⟨w.heap.size, 0, none⟩))).run Tryd.prog W = .ok (.agg #[.int .u64 a0, .int .u64 a1, .int .u64 a2, .int .u64 a3]) W) (first | exact cub_S (O5.out.other (by omega)) (X5.out.other (by omega)) | exact cub_S O5.out X5.out | exact cub_S O4.out X4.out | exact cub_S O3.out X3.out | exact cub_S O2.out X2.out | exact cub_S O1.out X1.out | exact cub_S (O0.out.heap rfl) (X0.out.heap rfl)) (first | (go_at_call 66; refine (plus_any b0 b1 b2 b3 u0 u1 u2 u3 _ _ HB.out N4.out _).mono ?_; rintro e w5 ⟨v0, v1, v2, v3, rfl, HN, LB⟩; have N5 := hide HN; clear HN; have O5 := hide (O4.out.later LB rfl); have X5 := hide (X4.out.later LB rfl); have Z5 := hide (Z4.out.later LB rfl); have L5 := hide (below_then L4.out LB); clear LB; have hst := st4 Z5.out v0 v1 v2 v3) | (go_at_call 67; refine (minus_any s0 s1 s2 s3 t0 t1 t2 t3 _ _ N2.out N3.out _).mono ?_; rintro e w4 ⟨u0, u1, u2, u3, rfl, HN, LB⟩; have N4 := hide HN; clear HN; have O4 := hide (O3.out.later LB rfl); have X4 := hide (X3.out.later LB rfl); have Z4 := hide (Z3.out.later LB rfl); have L4 := hide (below_then L3.out LB); clear LB) | (go_at_call 74; refine (thrice_any b0 b1 b2 b3 a0 a1 a2 a3 _ HA.out _).mono ?_; rintro e w3 ⟨t0, t1, t2, t3, rfl, HN, LB⟩; have N3 := hide HN; clear HN; have O3 := hide (O2.out.later LB rfl); have X3 := hide (X2.out.later LB rfl); have Z3 := hide (Z2.out.later LB rfl); have L3 := hide (below_then L2.out LB); clear LB) | (go_at_call 68; refine (times_any r0 r1 r2 r3 a0 a1 a2 a3 _ _ N1.out HA.out.i0 HA.out.i1 HA.out.i2 HA.out.i3 HA.out.v _).mono ?_; rintro e w2 ⟨s0, s1, s2, s3, rfl, HN, LB⟩; have N2 := hide HN; clear HN; have O2 := hide (O1.out.later LB rfl); have X2 := hide (X1.out.later LB rfl); have Z2 := hide (Z1.out.later LB rfl); have L2 := hide (below_then L1.out LB); clear LB) | (go_at_call 68; refine (times_any a0 a1 a2 a3 a0 a1 a2 a3 _ _ HA.out HA.out.i0 HA.out.i1 HA.out.i2 HA.out.i3 HA.out.v _).mono ?_; rintro e w1 ⟨r0, r1, r2, r3, rfl, HN, LB⟩; have N1 := hide HN; clear HN; have O1 := hide (O0.out.later LB rfl); have X1 := hide (X0.out.later LB rfl); have Z1 := hide (Z0.out.later LB rfl); have L1 := hide (below_drew L0.out (by exact ⟨rfl, rfl, rfl, rfl⟩) LB); clear LB))
  go_wp2
  exact ret4 (p := 4) (by kernel_rfl) rfl Z5.out N5.out L5.out (by omega)

end Go.Proofs.YtejfbamijjddgaaDoor
