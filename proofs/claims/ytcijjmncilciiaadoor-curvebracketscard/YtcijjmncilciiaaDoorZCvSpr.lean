/-
  curve.far, curve.spread: a point as a triple, and whether it is one of the curve.
-/
import Derived.Test.YtcijjmncilciiaaDoorZCvDigToCvEqP
namespace Go.Proofs.YtcijjmncilciiaaDoor
open Go.RowKit Go.IntWalk

def bdA (t : TypeId) (ps : Array (Nat × Value)) : Sem Value := Instr.build t ps
theorem bd_pnt (ps : Array (Nat × Value)) : Instr.build 25 ps = bdA 25 ps := rfl

attribute [local go_sem ↓] ld_num st_num ld_pln st_pln ld_ops st_ops ld_pnt st_pnt ld_dig st_dig ld_tri st_tri eq_num ne_num eq_pnt ne_pnt bd_pnt

def T12 (x0 x1 x2 x3 y0 y1 y2 y3 z0 z1 z2 z3 : Int) : List Value := [.int .u64 x0, .int .u64 x1, .int .u64 x2, .int .u64 x3, .int .u64 y0, .int .u64 y1, .int .u64 y2, .int .u64 y3, .int .u64 z0, .int .u64 z1, .int .u64 z2, .int .u64 z3]
theorem T12_one (x0 x1 x2 x3 y0 y1 y2 y3 z0 z1 z2 z3 : Int) : ∀ v ∈ T12 x0 x1 x2 x3 y0 y1 y2 y3 z0 z1 z2 z3, v.oneCell' = true := by
  intro v hv
  simp only [T12, List.mem_cons, List.not_mem_nil, or_false] at hv
  rcases hv with rfl | rfl | rfl | rfl | rfl | rfl | rfl | rfl | rfl | rfl | rfl | rfl <;> rfl
def T0 : List Value := T12 0 0 0 0 0 0 0 0 0 0 0 0
theorem stT {T : TypeId} {w : World} {g : Nat} {Z : List Value} (h : Blk T w g Z) (hZ : Z.length = 12) (x0 x1 x2 x3 y0 y1 y2 y3 z0 z1 z2 z3 : Int) : (stA 72 (.pointer (some ⟨g, 0, none⟩)) (.agg (T12 x0 x1 x2 x3 y0 y1 y2 y3 z0 z1 z2 z3).toArray)).run Tryd.prog w = .ok () (w.setCells g 0 (T12 x0 x1 x2 x3 y0 y1 y2 y3 z0 z1 z2 z3)) :=
  stA_all (vs := T12 x0 x1 x2 x3 y0 y1 y2 y3 z0 z1 z2 z3) (by kernel_rfl) h (by rw [hZ]; rfl) (T12_one _ _ _ _ _ _ _ _ _ _ _ _)

/-- The far point's triple. -/
def farL : List Value := T12 0 0 0 0 1 18446744069414584320 18446744073709551615 4294967294 0 0 0 0

theorem stF {T : TypeId} {w : World} {g : Nat} {Z : List Value} (h : Blk T w g Z) (hZ : Z.length = 12) : (stA 72 (.pointer (some ⟨g, 0, none⟩)) (.agg farL.toArray)).run Tryd.prog w = .ok () (w.setCells g 0 farL) := stT h hZ 0 0 0 0 1 18446744069414584320 18446744073709551615 4294967294 0 0 0 0

set_option maxRecDepth 100000 in
set_option maxHeartbeats 1000000 in
theorem far_any (w : World) (hC : Cv w) :
    Calls Tryd.prog 28 #[] w fun e w' => e = .returned (.agg farL.toArray) ∧ Below w.heap.size w w' := by
  have hgl : (ldA 70 (.pointer (some ⟨4, 0, none⟩))).run Tryd.prog (w.alloc (.cells T0.toArray 72)) = .ok (.agg #[.int .u64 1, .int .u64 18446744069414584320, .int .u64 18446744073709551615, .int .u64 4294967294]) (w.alloc (.cells T0.toArray 72)) := ldA_range Tryd.underlying70 rfl (by kernel_rfl) (hC.alloc _).on
  have HZ := hide (Blk.new (T := 72) w T0 _ _ rfl rfl)
  have hst := stT HZ.out rfl 0 0 0 0 1 18446744069414584320 18446744073709551615 4294967294 0 0 0 0
  clear hC
  simp only [T0, T12] at hgl hst
  go_enter Tryd.func28, Tryd.ntmps28
  go_wp2
  refine bodyPost_ret (v := .agg farL.toArray) ?_ rfl ⟨rfl, below_sets (below1 w _) (Nat.le_refl _) (by simp) _ _⟩
  exact res_one (T := 72) (p := 0) (ty := 72) (g := w.heap.size) (X := farL) (by kernel_rfl) _ _ rfl Tryd.underlying72 rfl (by kernel_rfl) (blk_all HZ.out rfl)

theorem lifted_yes (a0 a1 a2 a3 x : Int) (i0 : is64 a0) (i1 : is64 a1) (i2 : is64 a2) (i3 : is64 a3) (hx : V4 a0 a1 a2 a3 = x) (hl : x < PP) (w : World) (hC : Cv w) :
    Calls Tryd.prog 59 #[.agg #[.int .u64 a0, .int .u64 a1, .int .u64 a2, .int .u64 a3]] w fun e w' => ∃ r0 r1 r2 r3, e = .returned (.tuple #[.agg #[.int .u64 r0, .int .u64 r1, .int .u64 r2, .int .u64 r3], .bool true]) ∧ Nw r0 r1 r2 r3 (mm x SQ) ∧ Below w.heap.size w w' := by
  refine (lifted_any a0 a1 a2 a3 x i0 i1 i2 i3 hx w hC).mono ?_
  rintro e w1 ⟨r0, r1, r2, r3, rfl, hN, hB⟩
  rw [if_pos hl] at hN
  exact ⟨r0, r1, r2, r3, by rw [decide_eq_true hl], hN, hB⟩

theorem lifted_no (a0 a1 a2 a3 x : Int) (i0 : is64 a0) (i1 : is64 a1) (i2 : is64 a2) (i3 : is64 a3) (hx : V4 a0 a1 a2 a3 = x) (hl : PP ≤ x) (w : World) (hC : Cv w) :
    Calls Tryd.prog 59 #[.agg #[.int .u64 a0, .int .u64 a1, .int .u64 a2, .int .u64 a3]] w fun e w' => ∃ r0 r1 r2 r3, e = .returned (.tuple #[.agg #[.int .u64 r0, .int .u64 r1, .int .u64 r2, .int .u64 r3], .bool false]) ∧ Nw r0 r1 r2 r3 0 ∧ Below w.heap.size w w' := by
  refine (lifted_any a0 a1 a2 a3 x i0 i1 i2 i3 hx w hC).mono ?_
  rintro e w1 ⟨r0, r1, r2, r3, rfl, hN, hB⟩
  have hl' : ¬ x < PP := by omega
  rw [if_neg hl'] at hN
  exact ⟨r0, r1, r2, r3, by rw [decide_eq_false hl'], hN, hB⟩

/-- A digest of noughts; the far point. -/
def z32 : List Int := List.replicate 32 0
theorem bd_far (w : World) : (bdA 25 #[(2, .bool true)]).run Tryd.prog w = .ok (.agg (pL z32 z32 true).toArray) w := by kernel_rfl
theorem info_pnt : (Tryd.prog.info? 25).map (·.size) = some 65 := by kernel_rfl

/-- Is it a point of the curve? -/
def onP (X Y : List Int) (f : Bool) : Bool := if f = true then decide (X = z32 ∧ Y = z32) else decide (dn X < PP ∧ dn Y < PP ∧ mm (mm (dn Y) SQ) (mm (dn Y) SQ) = cub (mm (dn X) SQ))

theorem pL_len {X Y : List Int} (hX : X.length = 32) (hY : Y.length = 32) (f : Bool) : (pL X Y f).length = 65 := by simp [pL, hX, hY]
theorem pL_one (X Y : List Int) (f : Bool) : ∀ v ∈ pL X Y f, v.oneCell' = true := by
  intro v hv
  simp only [pL, List.mem_append, List.mem_map, List.mem_singleton] at hv
  rcases hv with (⟨x, _, rfl⟩ | ⟨x, _, rfl⟩) | rfl <;> rfl

theorem pnt_ld {T : TypeId} {w : World} {g : Nat} {X Y : List Int} {f : Bool} (hX : X.length = 32) (hY : Y.length = 32) (h : Blk T w g (pL X Y f)) :
    (ldA 25 (.pointer (some ⟨g, 0, none⟩))).run Tryd.prog w = .ok (.agg (pL X Y f).toArray) w ∧ (ldA 23 (.pointer (some ⟨g, 0, none⟩))).run Tryd.prog w = .ok (.agg (bV X).toArray) w ∧ (ldA 23 (.pointer (some ⟨g, 32, none⟩))).run Tryd.prog w = .ok (.agg (bV Y).toArray) w ∧ w.cell? ⟨g, 64, none⟩ = some (.bool f) := by
  refine ⟨?_, ?_, ?_, ?_⟩
  · exact ldA_all Tryd.underlying25 rfl (by rw [pL_len hX hY]; exact info_pnt) h
  · refine ldA_mid (T := T) (A := []) (X := bV X) (C := bV Y ++ [.bool f]) Tryd.underlying23 rfl (by rw [bV_len, hX]; exact info_dig) ?_ rfl
    rw [List.nil_append, ← List.append_assoc]
    exact h
  · exact ldA_mid (A := bV X) (X := bV Y) (C := [.bool f]) Tryd.underlying23 rfl (by rw [bV_len, hY]; exact info_dig) h (by rw [bV_len, hX])
  · rw [h.cell]
    simp [pL, hX, hY]

set_option maxRecDepth 100000 in
set_option maxHeartbeats 1000000 in
theorem spread_far (X Y : List Int) (hX : X.length = 32) (hY : Y.length = 32) (b0 b1 b2 b3 : Int) (w : World) (hC : Cv w) :
    Calls Tryd.prog 29 #[.agg (pL X Y true).toArray, .agg (opL b0 b1 b2 b3).toArray] w fun e w' => e = .returned (.tuple #[.agg farL.toArray, .bool (onP X Y true)]) ∧ Below w.heap.size w w' := by
  have HC := hide hC
  have HE : Hid (∀ W : World, (eqA 25 (.agg (pL X Y true).toArray) (.agg (pL z32 z32 true).toArray)).run Tryd.prog W = .ok (.bool (onP X Y true)) W) := by
    intro W
    rw [eqP X Y z32 z32 true true hX hY rfl rfl W]
    simp [onP]
  have HB := hide bd_far
  obtain ⟨L, hL⟩ : ∃ L, pL X Y true = L := ⟨_, rfl⟩
  obtain ⟨FL, hFL⟩ : ∃ L, pL z32 z32 true = L := ⟨_, rfl⟩
  have K0 := hide (W3_a w (pL X Y true) (opL b0 b1 b2 b3) T0 25 67 72)
  have HLD : Hid (∀ W, Blk 25 W w.heap.size L → (ldA 25 (.pointer (some ⟨w.heap.size, 0, none⟩))).run Tryd.prog W = .ok (.agg L.toArray) W) := by
    intro W h
    rw [← hL] at h ⊢
    exact (pnt_ld hX hY h).1
  have c0 : L[64]? = some (.bool true) := by rw [← hL]; simp [pL, hX, hY]
  have hone : ∀ v ∈ L, v.oneCell' = true := by rw [← hL]; exact pL_one X Y true
  rw [hL] at HE K0 ⊢
  rw [hFL] at HE HB
  clear hL hFL hX hY hC
  have Z0 := hide (W3_c w L (opL b0 b1 b2 b3) T0 25 67 72)
  have L0 := hide (W3_w w L (opL b0 b1 b2 b3) T0 25 67 72)
  have C0 := hide (HC.out.below L0.out)
  have l0 := HLD.out _ K0.out
  have hbd := HB.out
  have heq := HE.out
  simp only [W3, opL, T0, T12] at l0
  go_enter Tryd.func29, Tryd.ntmps29
  simp only [opL]
  go_wp2
  go_region_held3 (fun W => (ldA 25 (.pointer (some ⟨w.heap.size, 0, none⟩))).run Tryd.prog W = .ok (.agg L.toArray) W) (first | exact HLD.out _ (K1.out.other (by omega)) | exact HLD.out _ K1.out | exact HLD.out _ (K0.out.heap (by rfl))) ((go_at_call 28; refine (far_any _ ?_).mono ?_; exact Cv.heap C0.out rfl; rintro e w1 ⟨rfl, LB⟩; have K1 := hide (K0.out.later LB rfl); have Z1 := hide (Z0.out.later LB rfl); have L1 := hide (below_drew L0.out (by exact ⟨rfl, rfl, rfl, rfl⟩) LB); clear LB; have hst := stF Z1.out rfl))
  go_wp2
  refine bodyPost_ret (v := .tuple #[.agg farL.toArray, .bool (onP X Y true)]) ?_ rfl ⟨rfl, below_sets L1.out (by omega) L1.out.size _ _⟩
  exact res_two (p := 4) (q := 5) (T := 72) (X := farL) (g := w.heap.size + 1 + 1) (by kernel_rfl) _ _ rfl Tryd.underlying72 rfl (by kernel_rfl) (blk_all Z1.out rfl)


theorem Cv.lt {w : World} (h : Cv w) : 3 < w.heap.size ∧ 4 < w.heap.size ∧ 5 < w.heap.size := ⟨range_lt h.co, range_lt h.on, range_lt h.li⟩
theorem range_sets {w : World} {g k o : Nat} {X vs : List Value} (h : w.rangeAt g 0 X) (hne : g < w.heap.size ∧ g ≠ k) : (w.setCells k o vs).rangeAt g 0 X :=
  fun j u hu => (World.cell?_of_block ((gSets k vs o w).1.block g hne.1 (by simpa using hne.2))).trans (h j u hu)
theorem Cv.sets {w : World} (h : Cv w) {k o : Nat} {vs : List Value} (hk : 3 < k ∧ 4 < k ∧ 5 < k) : Cv (w.setCells k o vs) :=
  ⟨range_sets h.co ⟨h.lt.1, by omega⟩, range_sets h.on ⟨h.lt.2.1, by omega⟩, range_sets h.li ⟨h.lt.2.2, by omega⟩⟩

theorem spr_S {T T' T'' : TypeId} {W : World} {gx gy go : Nat} {b0 b1 b2 b3 x0 x1 x2 x3 y0 y1 y2 y3 : Int} (hx : Blk T W gx (L4 x0 x1 x2 x3)) (hy : Blk T' W gy (L4 y0 y1 y2 y3)) (hC : Cv W) (hO : Blk T'' W go (opL b0 b1 b2 b3)) :
    (ldA 70 (.pointer (some ⟨gx, 0, none⟩))).run Tryd.prog W = .ok (.agg #[.int .u64 x0, .int .u64 x1, .int .u64 x2, .int .u64 x3]) W ∧ (ldA 70 (.pointer (some ⟨gy, 0, none⟩))).run Tryd.prog W = .ok (.agg #[.int .u64 y0, .int .u64 y1, .int .u64 y2, .int .u64 y3]) W ∧ (ldA 70 (.pointer (some ⟨4, 0, none⟩))).run Tryd.prog W = .ok (.agg #[.int .u64 1, .int .u64 18446744069414584320, .int .u64 18446744073709551615, .int .u64 4294967294]) W ∧ W.cell? ⟨go, 2, none⟩ = some (.func (.func 62) #[] #[]) ∧ (ldA 67 (.pointer (some ⟨go, 0, none⟩))).run Tryd.prog W = .ok (.agg #[.func (.func 60) #[] #[], .func (.func 61) #[] #[], .func (.func 62) #[] #[], .func (.func 60) #[.agg #[.int .u64 b0, .int .u64 b1, .int .u64 b2, .int .u64 b3]] #[], .func (.func 62) #[.agg #[.int .u64 b0, .int .u64 b1, .int .u64 b2, .int .u64 b3]] #[]]) W :=
  ⟨ld4 hx, ld4 hy, ldA_range Tryd.underlying70 rfl (by kernel_rfl) hC.on, (opcells hO).2.2.1, ldO hO⟩

/-- What spread tells of a point that is not far. -/
def Sp (X Y : List Int) (w : World) (e : Ending) (w' : World) : Prop :=
  ∃ x0 x1 x2 x3 y0 y1 y2 y3, e = .returned (.tuple #[.agg (T12 x0 x1 x2 x3 y0 y1 y2 y3 1 18446744069414584320 18446744073709551615 4294967294).toArray, .bool (onP X Y false)]) ∧ Nw x0 x1 x2 x3 (if dn X < PP then mm (dn X) SQ else 0) ∧ Nw y0 y1 y2 y3 (if dn Y < PP then mm (dn Y) SQ else 0) ∧ Below w.heap.size w w'

set_option maxRecDepth 100000 in
set_option maxHeartbeats 2000000 in
theorem spread_yy (X Y : List Int) (hX : X.length = 32) (hY : Y.length = 32) (dX : Dg 256 X) (dY : Dg 256 Y) (b0 b1 b2 b3 : Int) (hb : Nw b0 b1 b2 b3 BM) (w : World) (hC : Cv w) (hPX : dn X < PP) (hPY : dn Y < PP) :
    Calls Tryd.prog 29 #[.agg (pL X Y false).toArray, .agg (opL b0 b1 b2 b3).toArray] w (Sp X Y w) := by
  have HPX := hide hPX
  have HPY := hide hPY
  clear hPX hPY
  obtain ⟨L, hL⟩ : ∃ L, pL X Y false = L := ⟨_, rfl⟩
  have K0 := hide (W3_a w (pL X Y false) (opL b0 b1 b2 b3) T0 25 67 72)
  have HLX : Hid (∀ W, Blk 25 W w.heap.size L → (ldA 23 (.pointer (some ⟨w.heap.size, 0, none⟩))).run Tryd.prog W = .ok (.agg (bV X).toArray) W) := by
    intro W h
    rw [← hL] at h
    exact (pnt_ld hX hY h).2.1
  have HLY : Hid (∀ W, Blk 25 W w.heap.size L → (ldA 23 (.pointer (some ⟨w.heap.size, 32, none⟩))).run Tryd.prog W = .ok (.agg (bV Y).toArray) W) := by
    intro W h
    rw [← hL] at h
    exact (pnt_ld hX hY h).2.2.1
  have c0 : L[64]? = some (.bool false) := by rw [← hL]; simp [pL, hX, hY]
  have hone : ∀ v ∈ L, v.oneCell' = true := by rw [← hL]; exact pL_one X Y false
  rw [hL] at K0 ⊢
  have HFX : Hid (∀ W, Calls Tryd.prog 63 #[.agg (bV X).toArray] W fun e w' => ∃ r0 r1 r2 r3, e = .returned (.agg #[.int .u64 r0, .int .u64 r1, .int .u64 r2, .int .u64 r3]) ∧ is64 r0 ∧ is64 r1 ∧ is64 r2 ∧ is64 r3 ∧ V4 r0 r1 r2 r3 = dn X ∧ Below W.heap.size W w') := fun W => fromDigest_any X dX hX W
  have HFY : Hid (∀ W, Calls Tryd.prog 63 #[.agg (bV Y).toArray] W fun e w' => ∃ r0 r1 r2 r3, e = .returned (.agg #[.int .u64 r0, .int .u64 r1, .int .u64 r2, .int .u64 r3]) ∧ is64 r0 ∧ is64 r1 ∧ is64 r2 ∧ is64 r3 ∧ V4 r0 r1 r2 r3 = dn Y ∧ Below W.heap.size W w') := fun W => fromDigest_any Y dY hY W
  have HC := hide hC
  have HBb := hide hb
  clear hL hX hY hC dX dY hb
  have O0 := hide (W3_b w L (opL b0 b1 b2 b3) T0 25 67 72)
  have Z0 := hide (W3_c w L (opL b0 b1 b2 b3) T0 25 67 72)
  have U0 := hide (W3_w w L (opL b0 b1 b2 b3) T0 25 67 72)
  have C0 := hide (HC.out.below U0.out)
  have l0 := HLX.out _ K0.out
  simp only [W3, opL, T0, T12] at l0
  go_enter Tryd.func29, Tryd.ntmps29
  simp only [opL]
  go_wp2_with fail
  refine (HFX.out _).mono ?_
  rintro e w1 ⟨r0, r1, r2, r3, rfl, ri0, ri1, ri2, ri3, rv, LB⟩
  have K1 := hide (K0.out.below LB)
  have O1 := hide (O0.out.below LB)
  have Z1 := hide (Z0.out.below LB)
  have U1 := hide (below_then U0.out LB)
  have C1 := hide (C0.out.below LB)
  go_wp2_with fail
  refine (lifted_yes r0 r1 r2 r3 (dn X) ri0 ri1 ri2 ri3 rv HPX.out _ C1.out).mono ?_
  rintro e w2 ⟨x0, x1, x2, x3, rfl, NX, LB⟩
  have NX := hide NX
  have K2 := hide (K1.out.below LB)
  have O2 := hide (O1.out.below LB)
  have Z2 := hide (Z1.out.below LB)
  have U2 := hide (below_then U1.out LB)
  have C2 := hide (C1.out.below LB)
  clear ri0 ri1 ri2 ri3 rv
  have hst := st4n w2 x0 x1 x2 x3
  have K3 := hide (K2.out.alloc (.cells #[.int .u64 x0, .int .u64 x1, .int .u64 x2, .int .u64 x3] 70))
  have O3 := hide (O2.out.alloc (.cells #[.int .u64 x0, .int .u64 x1, .int .u64 x2, .int .u64 x3] 70))
  have Z3 := hide (Z2.out.alloc (.cells #[.int .u64 x0, .int .u64 x1, .int .u64 x2, .int .u64 x3] 70))
  have U3 := hide (U2.out.alloc U2.out.size (.cells #[.int .u64 x0, .int .u64 x1, .int .u64 x2, .int .u64 x3] 70))
  have C3 := hide (C2.out.alloc (.cells #[.int .u64 x0, .int .u64 x1, .int .u64 x2, .int .u64 x3] 70))
  have X3 := hide (Blk.new (T := 70) w2 (L4 x0 x1 x2 x3) #[.int .u64 x0, .int .u64 x1, .int .u64 x2, .int .u64 x3] w2.heap.size rfl rfl)
  have l3 := HLY.out _ K3.out
  go_wp2_with fail
  refine (HFY.out _).mono ?_
  rintro e w4 ⟨r0, r1, r2, r3, rfl, ri0, ri1, ri2, ri3, rv, LB⟩
  have K4 := hide (K3.out.below LB)
  have O4 := hide (O3.out.below LB)
  have Z4 := hide (Z3.out.below LB)
  have U4 := hide (below_then U3.out LB)
  have C4 := hide (C3.out.below LB)
  have X4 := hide (X3.out.below LB)
  go_wp2_with fail
  refine (lifted_yes r0 r1 r2 r3 (dn Y) ri0 ri1 ri2 ri3 rv HPY.out _ C4.out).mono ?_
  rintro e w5 ⟨y0, y1, y2, y3, rfl, NY, LB⟩
  have NY := hide NY
  have K5 := hide (K4.out.below LB)
  have O5 := hide (O4.out.below LB)
  have Z5 := hide (Z4.out.below LB)
  have U5 := hide (below_then U4.out LB)
  have C5 := hide (C4.out.below LB)
  have X5 := hide (X4.out.below LB)
  clear ri0 ri1 ri2 ri3 rv hst
  have hst := st4n w5 y0 y1 y2 y3
  have K6 := hide (K5.out.alloc (.cells #[.int .u64 y0, .int .u64 y1, .int .u64 y2, .int .u64 y3] 70))
  have O6 := hide (O5.out.alloc (.cells #[.int .u64 y0, .int .u64 y1, .int .u64 y2, .int .u64 y3] 70))
  have Z6 := hide (Z5.out.alloc (.cells #[.int .u64 y0, .int .u64 y1, .int .u64 y2, .int .u64 y3] 70))
  have U6 := hide (U5.out.alloc U5.out.size (.cells #[.int .u64 y0, .int .u64 y1, .int .u64 y2, .int .u64 y3] 70))
  have C6 := hide (C5.out.alloc (.cells #[.int .u64 y0, .int .u64 y1, .int .u64 y2, .int .u64 y3] 70))
  have X6 := hide (X5.out.alloc (.cells #[.int .u64 y0, .int .u64 y1, .int .u64 y2, .int .u64 y3] 70))
  have Y6 := hide (Blk.new (T := 70) w5 (L4 y0 y1 y2 y3) #[.int .u64 y0, .int .u64 y1, .int .u64 y2, .int .u64 y3] w5.heap.size rfl rfl)
  have nXZ : w.heap.size + 1 + 1 < w2.heap.size := Z2.out.lt
  have nYZ : w.heap.size + 1 + 1 < w5.heap.size := Z5.out.lt
  have NXZ := hide nXZ
  have NYZ := hide nYZ
  clear nXZ nYZ
  go_wp2
  have heq := eqB_num
  have HGG : Hid (3 < w.heap.size + 1 + 1 ∧ 4 < w.heap.size + 1 + 1 ∧ 5 < w.heap.size + 1 + 1) := by have := HC.out.lt; unfold Hid; omega
  go_region_held3 (fun W => (ldA 70 (.pointer (some ⟨w2.heap.size, 0, none⟩))).run Tryd.prog W = .ok (.agg #[.int .u64 x0, .int .u64 x1, .int .u64 x2, .int .u64 x3]) W ∧ (ldA 70 (.pointer (some ⟨w5.heap.size, 0, none⟩))).run Tryd.prog W = .ok (.agg #[.int .u64 y0, .int .u64 y1, .int .u64 y2, .int .u64 y3]) W ∧ (ldA 70 (.pointer (some ⟨4, 0, none⟩))).run Tryd.prog W = .ok (.agg #[.int .u64 1, .int .u64 18446744069414584320, .int .u64 18446744073709551615, .int .u64 4294967294]) W ∧ W.cell? ⟨w.heap.size + 1, 2, none⟩ = some (.func (.func 62) #[] #[]) ∧ (ldA 67 (.pointer (some ⟨w.heap.size + 1, 0, none⟩))).run Tryd.prog W = .ok (.agg #[.func (.func 60) #[] #[], .func (.func 61) #[] #[], .func (.func 62) #[] #[], .func (.func 60) #[.agg #[.int .u64 b0, .int .u64 b1, .int .u64 b2, .int .u64 b3]] #[], .func (.func 62) #[.agg #[.int .u64 b0, .int .u64 b1, .int .u64 b2, .int .u64 b3]] #[]]) W) (first | exact spr_S (X8.out.other (by have := NXZ.out; omega)) (Y8.out.other (by have := NYZ.out; omega)) (C8.out.sets HGG.out) (O8.out.other (by omega)) | exact spr_S X8.out Y8.out C8.out O8.out | exact spr_S X7.out Y7.out C7.out O7.out | exact spr_S (X6.out.heap rfl) (Y6.out.heap rfl) (C6.out.heap rfl) (O6.out.heap rfl)) (first | (go_at_call 62; refine (times_any y0 y1 y2 y3 y0 y1 y2 y3 _ _ NY.out NY.out.i0 NY.out.i1 NY.out.i2 NY.out.i3 NY.out.v _).mono ?_; rintro e w7 ⟨s0, s1, s2, s3, rfl, N7, LB⟩; have N7 := hide N7; have X7 := hide (X6.out.later LB rfl); have Y7 := hide (Y6.out.later LB rfl); have O7 := hide (O6.out.later LB rfl); have Z7 := hide (Z6.out.later LB rfl); have U7 := hide (below_drew U6.out (by exact ⟨rfl, rfl, rfl, rfl⟩) LB); have C7 := hide (Cv.later C6.out LB rfl); clear LB) | (go_at_call 64; refine (cubic_any b0 b1 b2 b3 x0 x1 x2 x3 _ HBb.out NX.out _).mono ?_; rintro e w8 ⟨t0, t1, t2, t3, rfl, N8, LB⟩; have N8 := hide N8; have X8 := hide (X7.out.later LB rfl); have Y8 := hide (Y7.out.later LB rfl); have O8 := hide (O7.out.later LB rfl); have Z8 := hide (Z7.out.later LB rfl); have U8 := hide (below_then U7.out LB); have C8 := hide (Cv.later C7.out LB rfl); clear LB; have hst8 := stT Z8.out rfl x0 x1 x2 x3 y0 y1 y2 y3 1 18446744069414584320 18446744073709551615 4294967294; simp only [T12] at hst8))
  have hon : onP X Y false = eqB s0 s1 s2 s3 t0 t1 t2 t3 := by
    rw [eqB_nw N7.out N8.out]
    simp [onP, HPX.out, HPY.out]
  have HON := hide hon
  clear hon
  go_wp2
  refine bodyPost_ret (v := .tuple #[.agg (T12 x0 x1 x2 x3 y0 y1 y2 y3 1 18446744069414584320 18446744073709551615 4294967294).toArray, .bool (eqB s0 s1 s2 s3 t0 t1 t2 t3)]) ?_ rfl ⟨x0, x1, x2, x3, y0, y1, y2, y3, by rw [HON.out], by rw [if_pos HPX.out]; exact NX.out, by rw [if_pos HPY.out]; exact NY.out, below_sets U8.out (by omega) U8.out.size _ _⟩
  exact res_two (p := 4) (q := 5) (T := 72) (X := T12 x0 x1 x2 x3 y0 y1 y2 y3 1 18446744069414584320 18446744073709551615 4294967294) (g := w.heap.size + 1 + 1) (by kernel_rfl) _ _ rfl Tryd.underlying72 rfl (by kernel_rfl) (blk_all Z8.out rfl)

end Go.Proofs.YtcijjmncilciiaaDoor
