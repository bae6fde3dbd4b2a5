/-
  curve.lifted, lowered: into the form in which products are reckoned, and out of it; the constants.
-/
import Derived.Test.YtejfbamijjddgaaDoorCvEq
namespace Go.Proofs.YtejfbamijjddgaaDoor
open Go.RowKit Go.IntWalk

/-- The package's constants. -/
structure Cv (w : World) : Prop where
  co : w.rangeAt 3 0 (L4 4309448131093880907 7285987128567378166 12964664127075681980 6540974713487397863)
  on : w.rangeAt 4 0 (L4 1 18446744069414584320 18446744073709551615 4294967294)
  li : w.rangeAt 5 0 (L4 3 18446744056529682431 18446744073709551614 21474836477)

theorem range_lt {w : World} {g : Nat} {v : Value} {r : List Value} (h : w.rangeAt g 0 (v :: r)) : g < w.heap.size := by
  have := h 0 v rfl
  exact ltCell this
theorem range_carry {w w' : World} {g : Nat} {v : Value} {r : List Value} (h : w.rangeAt g 0 (v :: r)) (hb : Below w.heap.size w w') : w'.rangeAt g 0 (v :: r) :=
  fun j u hu => (World.cell?_of_block (hb.block g (range_lt h))).trans (h j u hu)
theorem Cv.below {w w' : World} (h : Cv w) (hb : Below w.heap.size w w') : Cv w' := ⟨range_carry h.co hb, range_carry h.on hb, range_carry h.li hb⟩
theorem Cv.heap {w w' : World} (h : Cv w) (e : w'.heap = w.heap) : Cv w' := ⟨fun j v hv => (World.cell?_of_block (by rw [e])).trans (h.co j v hv), fun j v hv => (World.cell?_of_block (by rw [e])).trans (h.on j v hv), fun j v hv => (World.cell?_of_block (by rw [e])).trans (h.li j v hv)⟩
theorem Cv.later {w W w' : World} (h : Cv w) (hb : Below W.heap.size W w') (e : W.heap = w.heap) : Cv w' := (h.heap e).below hb
theorem Cv.alloc {w : World} (h : Cv w) (o : Obj) : Cv (w.alloc o) := h.below (below1 w o)

theorem ldA_range {t : TypeId} {d : TypeDesc} {w : World} {g : Nat} {X : List Value} (hu : Tryd.prog.underlying t = some d) (hd : d.isRow = true) (hi : (Tryd.prog.info? t).map (·.size) = some X.length) (h : w.rangeAt g 0 X) :
    (ldA t (.pointer (some ⟨g, 0, none⟩))).run Tryd.prog w = .ok (.agg X.toArray) w := run_loadAt_mid w g 0 t X d h hu hd hi

attribute [local go_sem ↓] ld_num st_num ld_pln st_pln eq_num ne_num

theorem lift_v : V4 3 18446744056529682431 18446744073709551614 21474836477 = SQ := by decide
theorem one_v : V4 1 18446744069414584320 18446744073709551615 4294967294 = ONE := by decide
theorem one_w : Nw 1 18446744069414584320 18446744073709551615 4294967294 ONE := by
  refine ⟨⟨by decide, by decide⟩, ⟨by decide, by decide⟩, ⟨by decide, by decide⟩, ⟨by decide, by decide⟩, one_v, by decide⟩

theorem nw_zero : Nw 0 0 0 0 0 := by
  refine ⟨⟨by decide, by decide⟩, ⟨by decide, by decide⟩, ⟨by decide, by decide⟩, ⟨by decide, by decide⟩, by decide, by decide⟩

/-- A result in a variable, and one beside it. -/
theorem res_two {fn : Func} {p q : Tmp} {ty : TypeId} (h : fn.results = #[.cell p ty, .tmp q]) (tmps : Array Value) (w : World) {g : Nat} {X : List Value} {d : TypeDesc} {T : TypeId} (hp : tmps.getD p undef = .pointer (some ⟨g, 0, none⟩))
    (hu : Tryd.prog.underlying ty = some d) (hd : d.isRow = true) (hi : (Tryd.prog.info? ty).map (·.size) = some X.length) (hB : Blk T w g X) :
    (results fn tmps).run Tryd.prog w = .ok (.tuple #[.agg X.toArray, tmps.getD q undef]) w := by
  have := run_loadVar_mid (P := Tryd.prog) w g 0 ty X d (Blk.range (A := []) (C := []) (by simpa using hB) 0 rfl) hu hd hi
  have hp' : tmps[p]?.getD undef = .pointer (some ⟨g, 0, none⟩) := by simpa using hp
  simp only [results, h]
  simp [hp', asAddr, this]

/-- What lifted answers. -/
def Lf (x : Int) (w : World) (e : Ending) (w' : World) : Prop :=
  ∃ r0 r1 r2 r3, e = .returned (.tuple #[.agg #[.int .u64 r0, .int .u64 r1, .int .u64 r2, .int .u64 r3], .bool (decide (x < PP))]) ∧ Nw r0 r1 r2 r3 (if x < PP then mm x SQ else 0) ∧ Below w.heap.size w w'

set_option maxRecDepth 100000 in
set_option maxHeartbeats 1000000 in
theorem lifted_any (a0 a1 a2 a3 x : Int) (i0 : is64 a0) (i1 : is64 a1) (i2 : is64 a2) (i3 : is64 a3) (hx : V4 a0 a1 a2 a3 = x) (w : World) (hC : Cv w) :
    Calls Tryd.prog 65 #[.agg #[.int .u64 a0, .int .u64 a1, .int .u64 a2, .int .u64 a3]] w (Lf x w) := by
  have hb0 := V4_bd a0 a1 a2 a3 i0 i1 i2 i3
  have hbel : ∀ W, Calls Tryd.prog 87 #[.int .u64 a0, .int .u64 a1, .int .u64 a2, .int .u64 a3, .int .u64 0] W (Rn (x % PP) W) := by
    intro W
    have := below_any a0 a1 a2 a3 0 i0 i1 i2 i3 (by omega) (by have := RR_PP2; rw [Int.mul_zero]; omega) W
    rw [Int.mul_zero, Int.add_zero, hx] at this
    exact this
  rw [hx] at hb0
  have HB := hide hbel
  have HC := hide hC
  clear hbel hC
  have HD : Hid (∀ r0 r1 r2 r3, Nw r0 r1 r2 r3 (x % PP) → eqB r0 r1 r2 r3 a0 a1 a2 a3 = decide (x < PP)) := by
    intro r0 r1 r2 r3 hr
    unfold eqB
    by_cases hlt : x < PP
    · have e : x % PP = x := Int.emod_eq_of_lt hb0.1 hlt
      have := V4_inj hr.i0 hr.i1 hr.i2 i0 i1 i2 (by rw [hr.v, e, hx])
      simp [this, hlt]
    · have : ¬ [r0, r1, r2, r3] = [a0, a1, a2, a3] := by
        intro h
        simp only [List.cons.injEq, and_true] at h
        obtain ⟨rfl, rfl, rfl, rfl⟩ := h
        have h1 := hr.v
        have h2 := hr.l
        omega
      simp [this, hlt]
  have HW : Hid (x < PP → Nw a0 a1 a2 a3 x) := fun h => ⟨i0, i1, i2, i3, hx, h⟩
  clear i0 i1 i2 i3 hx hb0
  have hld : ∀ W : World, Blk 104 W w.heap.size (L4 a0 a1 a2 a3) → (ldA 104 (.pointer (some ⟨w.heap.size, 0, none⟩))).run Tryd.prog W = .ok (.agg #[.int .u64 a0, .int .u64 a1, .int .u64 a2, .int .u64 a3]) W := fun W h => ldp4 h
  have HLD := hide hld
  clear hld
  have hne := neB_num
  have HK0 : Hid (Blk 104 ((w.alloc (.cells #[.int .u64 a0, .int .u64 a1, .int .u64 a2, .int .u64 a3] 104)).alloc (.cells #[.int .u64 0, .int .u64 0, .int .u64 0, .int .u64 0] 84)) w.heap.size (L4 a0 a1 a2 a3)) := (Blk.new w _ _ _ rfl rfl).alloc _
  have HZ0 : Hid (Blk 84 ((w.alloc (.cells #[.int .u64 a0, .int .u64 a1, .int .u64 a2, .int .u64 a3] 104)).alloc (.cells #[.int .u64 0, .int .u64 0, .int .u64 0, .int .u64 0] 84)) (w.heap.size + 1) (L4 0 0 0 0)) := Blk.new _ _ _ _ rfl (by simp)
  have hl0 := HLD.out _ HK0.out
  by_cases hlt : x < PP
  · have HNx := hide (HW.out hlt)
    have HD2 : Hid (∀ r0 r1 r2 r3, Nw r0 r1 r2 r3 (x % PP) → eqB r0 r1 r2 r3 a0 a1 a2 a3 = true) := fun r0 r1 r2 r3 h => by rw [HD.out _ _ _ _ h]; exact decide_eq_true hlt
    have HL := hide hlt
    clear hlt HD
    go_enter Tryd.func65, Tryd.ntmps65
    go_wp2
    go_region_held3 (fun W => W.cell? ⟨w.heap.size, 0, none⟩ = some (.int .u64 a0) ∧ W.cell? ⟨w.heap.size, 1, none⟩ = some (.int .u64 a1) ∧ W.cell? ⟨w.heap.size, 2, none⟩ = some (.int .u64 a2) ∧ W.cell? ⟨w.heap.size, 3, none⟩ = some (.int .u64 a3) ∧ (ldA 104 (.pointer (some ⟨w.heap.size, 0, none⟩))).run Tryd.prog W = .ok (.agg #[.int .u64 a0, .int .u64 a1, .int .u64 a2, .int .u64 a3]) W) (refine ⟨?_, ?_, ?_, ?_, ?_⟩ <;> first | assumption | exact HLD.out _ (HK0.out.heap rfl) | (simp [*]; done)) ((go_at_call 87; refine (HB.out _).mono ?_; rintro e w1 ⟨r0, r1, r2, r3, rfl, HN, LB⟩; have HK := hide (HK0.out.later LB rfl); have HZ := hide (HZ0.out.later LB rfl); obtain ⟨k0, k1, k2, k3⟩ := blk4 HK.out; have hl1 := HLD.out _ HK.out; have LB1 := hide (belowd2 LB); clear LB; have hd : eqB r0 r1 r2 r3 a0 a1 a2 a3 = true := HD2.out _ _ _ _ HN))
    have HC1 := hide (HC.out.below LB1.out)
    have hgl : (ldA 84 (.pointer (some ⟨5, 0, none⟩))).run Tryd.prog w1 = .ok (.agg #[.int .u64 3, .int .u64 18446744056529682431, .int .u64 18446744073709551614, .int .u64 21474836477]) w1 := ldA_range Tryd.underlying84 rfl (by kernel_rfl) HC1.out.li
    have HT := hide (times_any a0 a1 a2 a3 3 18446744056529682431 18446744073709551614 21474836477 x SQ HNx.out ⟨by decide, by decide⟩ ⟨by decide, by decide⟩ ⟨by decide, by decide⟩ ⟨by decide, by decide⟩ lift_v w1)
    go_wp2_with fail
    refine HT.out.mono ?_
    rintro e w2 ⟨s0, s1, s2, s3, rfl, HN2, LB2⟩
    have HZ2 := hide (HZ.out.below LB2)
    have hst := st4 HZ2.out s0 s1 s2 s3
    have LB3 := hide (below_then LB1.out LB2)
    go_wp2
    refine bodyPost_ret (v := .tuple #[.agg #[.int .u64 s0, .int .u64 s1, .int .u64 s2, .int .u64 s3], .bool true]) ?_ rfl ⟨s0, s1, s2, s3, by rw [decide_eq_true HL.out], by rw [if_pos HL.out]; exact HN2, below_sets LB3.out (by omega) LB3.out.size _ _⟩
    exact res_two (p := 2) (q := 3) (T := 84) (X := L4 s0 s1 s2 s3) (g := w.heap.size + 1) (by kernel_rfl) _ _ rfl Tryd.underlying84 rfl (by kernel_rfl) (blk_all HZ2.out rfl)
  · have HD2 : Hid (∀ r0 r1 r2 r3, Nw r0 r1 r2 r3 (x % PP) → eqB r0 r1 r2 r3 a0 a1 a2 a3 = false) := fun r0 r1 r2 r3 h => by rw [HD.out _ _ _ _ h]; exact decide_eq_false hlt
    have HL := hide hlt
    clear hlt HD
    go_enter Tryd.func65, Tryd.ntmps65
    go_wp2
    go_region_held3 (fun W => W.cell? ⟨w.heap.size, 0, none⟩ = some (.int .u64 a0) ∧ W.cell? ⟨w.heap.size, 1, none⟩ = some (.int .u64 a1) ∧ W.cell? ⟨w.heap.size, 2, none⟩ = some (.int .u64 a2) ∧ W.cell? ⟨w.heap.size, 3, none⟩ = some (.int .u64 a3) ∧ (ldA 104 (.pointer (some ⟨w.heap.size, 0, none⟩))).run Tryd.prog W = .ok (.agg #[.int .u64 a0, .int .u64 a1, .int .u64 a2, .int .u64 a3]) W) (refine ⟨?_, ?_, ?_, ?_, ?_⟩ <;> first | assumption | exact HLD.out _ (HK0.out.heap rfl) | (simp [*]; done)) ((go_at_call 87; refine (HB.out _).mono ?_; rintro e w1 ⟨r0, r1, r2, r3, rfl, HN, LB⟩; have HK := hide (HK0.out.later LB rfl); have HZ := hide (HZ0.out.later LB rfl); obtain ⟨k0, k1, k2, k3⟩ := blk4 HK.out; have hl1 := HLD.out _ HK.out; have LB1 := hide (belowd2 LB); clear LB; have hd : eqB r0 r1 r2 r3 a0 a1 a2 a3 = false := HD2.out _ _ _ _ HN))
    have HC1 := hide (HC.out.below LB1.out)
    have hst := st4 HZ.out 0 0 0 0
    go_wp2
    have HQ : ¬ x < PP := by have := HL.out; omega
    refine bodyPost_ret (v := .tuple #[.agg #[.int .u64 0, .int .u64 0, .int .u64 0, .int .u64 0], .bool false]) ?_ rfl ⟨0, 0, 0, 0, by rw [decide_eq_false HQ], by rw [if_neg HQ]; exact nw_zero, below_sets LB1.out (by omega) LB1.out.size _ _⟩
    exact res_two (p := 2) (q := 3) (T := 84) (X := L4 0 0 0 0) (g := w.heap.size + 1) (by kernel_rfl) _ _ rfl Tryd.underlying84 rfl (by kernel_rfl) (blk_all HZ.out rfl)

set_option maxRecDepth 100000 in
set_option maxHeartbeats 1000000 in
theorem lowered_any (a0 a1 a2 a3 x : Int) (ha : Nw a0 a1 a2 a3 x) (w : World) :
    Calls Tryd.prog 72 #[.agg #[.int .u64 a0, .int .u64 a1, .int .u64 a2, .int .u64 a3]] w (Rn (mm x 1) w) := by
  have HT : Hid (∀ W, Calls Tryd.prog 68 #[.agg #[.int .u64 a0, .int .u64 a1, .int .u64 a2, .int .u64 a3], .agg #[.int .u64 1, .int .u64 0, .int .u64 0, .int .u64 0]] W (Rn (mm x 1) W)) := fun W => times_any a0 a1 a2 a3 1 0 0 0 x 1 ha ⟨by decide, by decide⟩ ⟨by decide, by decide⟩ ⟨by decide, by decide⟩ ⟨by decide, by decide⟩ (by decide) W
  have HZ0 : Hid (Blk 104 ((w.alloc (.cells #[.int .u64 a0, .int .u64 a1, .int .u64 a2, .int .u64 a3] 84)).alloc (.cells #[.int .u64 0, .int .u64 0, .int .u64 0, .int .u64 0] 104)) (w.heap.size + 1) (L4 0 0 0 0)) := Blk.new _ _ _ _ rfl (by simp)
  have HK0 : Hid (Blk 84 ((w.alloc (.cells #[.int .u64 a0, .int .u64 a1, .int .u64 a2, .int .u64 a3] 84)).alloc (.cells #[.int .u64 0, .int .u64 0, .int .u64 0, .int .u64 0] 104)) w.heap.size (L4 a0 a1 a2 a3)) := (Blk.new _ _ _ _ rfl (by simp)).alloc _
  have hld := ld4 HK0.out
  clear ha
  go_enter Tryd.func72, Tryd.ntmps72
  go_wp2_with fail
  refine (HT.out _).mono ?_
  rintro e w2 ⟨s0, s1, s2, s3, rfl, HN2, LB2⟩
  have HZ2 := hide (HZ0.out.below LB2)
  have hst := stp4 HZ2.out s0 s1 s2 s3
  have LB3 := hide (below_then (below2 w _ _) LB2)
  go_wp2
  refine bodyPost_ret (v := .agg #[.int .u64 s0, .int .u64 s1, .int .u64 s2, .int .u64 s3]) ?_ rfl ⟨s0, s1, s2, s3, rfl, HN2, below_sets LB3.out (by omega) LB3.out.size _ _⟩
  exact res_one (T := 104) (p := 2) (ty := 104) (g := w.heap.size + 1) (X := L4 s0 s1 s2 s3) (by kernel_rfl) _ _ rfl Tryd.underlying104 rfl (by kernel_rfl) (blk_all HZ2.out rfl)

end Go.Proofs.YtejfbamijjddgaaDoor
