/-
  Arrays of whole numbers, and points, compared.
  curve.lifted, lowered: into the form in which products are reckoned, and out of it; the constants.
-/
import Derived.Test.YtcijjmncilciiaaDoorZCvTimes
import Derived.ChangeKeysEq
import Derived.Laws.StructEq
namespace Go.Proofs.YtcijjmncilciiaaDoor
open Go.RowKit Go.IntWalk

theorem run_items (d : Nat) (e : TypeId) (κ : IntKind) (he : Tryd.prog.underlying e = some (.int κ)) (xs ys : List Int) (n : Nat) (hx : xs.length = n) (hy : ys.length = n) (w : World) : ∀ is : List Nat, (∀ i ∈ is, i < n) →
    (Op.eqItems (d + 1) e 1 (xs.map (Value.int κ)).toArray (ys.map (Value.int κ)).toArray is).run Tryd.prog w = .ok (decide (∀ i ∈ is, xs.getD i 0 = ys.getD i 0)) w
  | [], _ => by simp [Op.eqItems]
  | i :: is, h => by
    have hi : i < n := h i (by simp)
    have px : ∀ zs : List Int, zs.length = n → (part e (zs.map (Value.int κ)).toArray (i * 1)).run Tryd.prog w = .ok (.int κ (zs.getD i 0)) w := by
      intro zs hz
      simp [part, isAgg, run_underlying he, List.getD, List.getElem?_eq_getElem (show i < zs.length by omega)]
    have ih := run_items d e κ he xs ys n hx hy w is (fun j hj => h j (by simp [hj]))
    simp only [Op.eqItems, Sem.run_bind, px xs hx, px ys hy, Result.andThen_ok, run_equalIn_int w d e κ κ _ _ he]
    by_cases hq : xs.getD i 0 = ys.getD i 0
    · rw [hq]
      simp only [BEq.rfl, Bool.not_true, Bool.false_eq_true, if_false, ih, List.mem_cons, forall_eq_or_imp, hq, true_and]
    · have : (xs.getD i 0 == ys.getD i 0) = false := by simpa using hq
      simp only [this, Bool.not_false, if_true, Sem.run_pure, List.mem_cons, forall_eq_or_imp, hq, false_and, decide_false]

theorem getD_ext {xs ys : List Int} {n : Nat} (hx : xs.length = n) (hy : ys.length = n) : (∀ i ∈ List.range n, xs.getD i 0 = ys.getD i 0) ↔ xs = ys := by
  constructor
  · intro h
    refine List.ext_getElem (by omega) fun i h1 h2 => ?_
    have := h i (by simp; omega)
    simpa [List.getD, h1, h2] using this
  · rintro rfl i _
    rfl

theorem run_equalIn_arr (d : Nat) (t e : TypeId) (n : Nat) (κ : IntKind) (ht : Tryd.prog.underlying t = some (.array n e)) (he : Tryd.prog.underlying e = some (.int κ)) {inf : TypeInfo} (hi : Tryd.prog.info? e = some inf) (hs : Tryd.prog.cellsOf e = 1) (xs ys : List Int) (hx : xs.length = n) (hy : ys.length = n) (w : World) :
    (Op.equalIn (d + 2) t (.agg (xs.map (Value.int κ)).toArray) (.agg (ys.map (Value.int κ)).toArray)).run Tryd.prog w = .ok (decide (xs = ys)) w := by
  rw [run_equalIn_array w (d + 1) _ _ ht hi, hs, run_items d e κ he xs ys n hx hy w _ (fun i h => by simpa using h)]
  simp only [getD_ext hx hy]

/-- Comparisons, kept whole in the walk. -/
def eqA (t : TypeId) (x y : Value) : Sem Value := binOp .eql t x y
def neA (t : TypeId) (x y : Value) : Sem Value := binOp .neq t x y
theorem eq_num (x y : Value) : binOp .eql 70 x y = eqA 70 x y := rfl
theorem ne_num (x y : Value) : binOp .neq 70 x y = neA 70 x y := rfl
theorem eq_pnt (x y : Value) : binOp .eql 25 x y = eqA 25 x y := rfl
theorem ne_pnt (x y : Value) : binOp .neq 25 x y = neA 25 x y := rfl
theorem eq_rpt (x y : Value) : binOp .eql 33 x y = eqA 33 x y := rfl
theorem eq_dgs (x y : Value) : binOp .eql 23 x y = eqA 23 x y := rfl
theorem eq_F (x y : Value) : binOp .eql 80 x y = eqA 80 x y := rfl

theorem eqA_arr {t e : TypeId} {n : Nat} {κ : IntKind} (ht : Tryd.prog.underlying t = some (.array n e)) (he : Tryd.prog.underlying e = some (.int κ)) {inf : TypeInfo} (hi : Tryd.prog.info? e = some inf) (hs : Tryd.prog.cellsOf e = 1) (xs ys : List Int) (hx : xs.length = n) (hy : ys.length = n) (w : World) :
    (eqA t (.agg (xs.map (Value.int κ)).toArray) (.agg (ys.map (Value.int κ)).toArray)).run Tryd.prog w = .ok (.bool (decide (xs = ys))) w := by
  unfold eqA
  rw [run_eql_struct, run_equalIn_arr 9998 t e n κ ht he hi hs xs ys hx hy w]
  rfl
theorem neA_arr {t e : TypeId} {n : Nat} {κ : IntKind} (ht : Tryd.prog.underlying t = some (.array n e)) (he : Tryd.prog.underlying e = some (.int κ)) {inf : TypeInfo} (hi : Tryd.prog.info? e = some inf) (hs : Tryd.prog.cellsOf e = 1) (xs ys : List Int) (hx : xs.length = n) (hy : ys.length = n) (w : World) :
    (neA t (.agg (xs.map (Value.int κ)).toArray) (.agg (ys.map (Value.int κ)).toArray)).run Tryd.prog w = .ok (.bool (!decide (xs = ys))) w := by
  unfold neA
  rw [run_neq_struct, run_equalIn_arr 9998 t e n κ ht he hi hs xs ys hx hy w]
  rfl

theorem info_u64 : ∃ i, Tryd.prog.info? 57 = some i := info_of_underlying Tryd.underlying57
theorem info_u8 : ∃ i, Tryd.prog.info? 5 = some i := info_of_underlying Tryd.underlying5

theorem eqA_num (a0 a1 a2 a3 b0 b1 b2 b3 : Int) (w : World) : (eqA 70 (.agg #[.int .u64 a0, .int .u64 a1, .int .u64 a2, .int .u64 a3]) (.agg #[.int .u64 b0, .int .u64 b1, .int .u64 b2, .int .u64 b3])).run Tryd.prog w = .ok (.bool (decide ([a0, a1, a2, a3] = [b0, b1, b2, b3]))) w := by
  obtain ⟨i, hi⟩ := info_u64
  exact eqA_arr (xs := [a0, a1, a2, a3]) (ys := [b0, b1, b2, b3]) Tryd.underlying70 Tryd.underlying57 hi (by kernel_rfl) rfl rfl w
theorem neA_num (a0 a1 a2 a3 b0 b1 b2 b3 : Int) (w : World) : (neA 70 (.agg #[.int .u64 a0, .int .u64 a1, .int .u64 a2, .int .u64 a3]) (.agg #[.int .u64 b0, .int .u64 b1, .int .u64 b2, .int .u64 b3])).run Tryd.prog w = .ok (.bool (!decide ([a0, a1, a2, a3] = [b0, b1, b2, b3]))) w := by
  obtain ⟨i, hi⟩ := info_u64
  exact neA_arr (xs := [a0, a1, a2, a3]) (ys := [b0, b1, b2, b3]) Tryd.underlying70 Tryd.underlying57 hi (by kernel_rfl) rfl rfl w

/-- Are four words the same as four others? -/
def eqB (a0 a1 a2 a3 b0 b1 b2 b3 : Int) : Bool := decide ([a0, a1, a2, a3] = [b0, b1, b2, b3])
theorem eqB_num (a0 a1 a2 a3 b0 b1 b2 b3 : Int) (w : World) : (eqA 70 (.agg #[.int .u64 a0, .int .u64 a1, .int .u64 a2, .int .u64 a3]) (.agg #[.int .u64 b0, .int .u64 b1, .int .u64 b2, .int .u64 b3])).run Tryd.prog w = .ok (.bool (eqB a0 a1 a2 a3 b0 b1 b2 b3)) w := eqA_num a0 a1 a2 a3 b0 b1 b2 b3 w
theorem neB_num (a0 a1 a2 a3 b0 b1 b2 b3 : Int) (w : World) : (neA 70 (.agg #[.int .u64 a0, .int .u64 a1, .int .u64 a2, .int .u64 a3]) (.agg #[.int .u64 b0, .int .u64 b1, .int .u64 b2, .int .u64 b3])).run Tryd.prog w = .ok (.bool (!eqB a0 a1 a2 a3 b0 b1 b2 b3)) w := neA_num a0 a1 a2 a3 b0 b1 b2 b3 w

/-- The words are the same just if the numbers are. -/
theorem eqB_nw {a0 a1 a2 a3 b0 b1 b2 b3 x y : Int} (ha : Nw a0 a1 a2 a3 x) (hb : Nw b0 b1 b2 b3 y) : eqB a0 a1 a2 a3 b0 b1 b2 b3 = decide (x = y) := by
  unfold eqB
  by_cases h : x = y
  · have := V4_inj ha.i0 ha.i1 ha.i2 hb.i0 hb.i1 hb.i2 (by rw [ha.v, hb.v, h])
    simp [this, h]
  · have : ¬ [a0, a1, a2, a3] = [b0, b1, b2, b3] := by
      intro e
      simp only [List.cons.injEq, and_true] at e
      obtain ⟨rfl, rfl, rfl, rfl⟩ := e
      exact h (ha.v.symm.trans hb.v)
    simp [this, h]

/-- A point's cells. -/
def pL (X Y : List Int) (f : Bool) : List Value := X.map (Value.int .u8) ++ Y.map (Value.int .u8) ++ [.bool f]

set_option maxRecDepth 100000 in
theorem part_arr {e : TypeId} {n : Nat} {t' : TypeId} (hu : Tryd.prog.underlying e = some (.array n t')) (hi : (Tryd.prog.info? e).map (·.size) = some n) (A X C : List Value) (o : Nat) (ho : A.length = o) (hX : X.length = n) (w : World) : (part e (A ++ X ++ C).toArray o).run Tryd.prog w = .ok (.agg X.toArray) w := by
  obtain ⟨i, hi, hsz⟩ := Option.map_eq_some_iff.1 hi
  have hs : (sizeOf e).run Tryd.prog w = .ok n w := by rw [run_sizeOf w hi]; unfold Program.cellsOf; rw [hi]; simp [hsz]
  simp only [part, isAgg, Sem.run_bind, run_underlying hu, Result.andThen_ok, Sem.run_pure, if_true, hs]
  congr 2
  subst ho hX
  simp

end Go.Proofs.YtcijjmncilciiaaDoor

namespace Go.Proofs.YtcijjmncilciiaaDoor
open Go.RowKit Go.IntWalk

/-- The package's constants. -/
structure Cv (w : World) : Prop where
  co : w.rangeAt 3 0 (L4 4309448131093880907 7285987128567378166 12964664127075681980 6540974713487397863)
  on : w.rangeAt 4 0 (L4 1 18446744069414584320 18446744073709551615 4294967294)
  li : w.rangeAt 5 0 (L4 3 18446744056529682431 18446744073709551614 21474836477)

theorem range_lt {w : World} {g : Nat} {v : Value} {r : List Value} (h : w.rangeAt g 0 (v :: r)) : g < w.heap.size := by
  have := h 0 v rfl
  exact ltCell this
theorem range_carry {w w' : World} {g : Nat} {v : Value} {r : List Value} (h : w.rangeAt g 0 (v :: r)) (hb : Below w.heap.size w w') : w'.rangeAt g 0 (v :: r) :=
  fun j u hu => (World.cell?_of_block (hb.block g (range_lt h))).trans (h j u hu)
theorem Cv.below {w w' : World} (h : Cv w) (hb : Below w.heap.size w w') : Cv w' := ⟨range_carry h.co hb, range_carry h.on hb, range_carry h.li hb⟩
theorem Cv.heap {w w' : World} (h : Cv w) (e : w'.heap = w.heap) : Cv w' := ⟨fun j v hv => (World.cell?_of_block (by rw [e])).trans (h.co j v hv), fun j v hv => (World.cell?_of_block (by rw [e])).trans (h.on j v hv), fun j v hv => (World.cell?_of_block (by rw [e])).trans (h.li j v hv)⟩
theorem Cv.later {w W w' : World} (h : Cv w) (hb : Below W.heap.size W w') (e : W.heap = w.heap) : Cv w' := (h.heap e).below hb
theorem Cv.alloc {w : World} (h : Cv w) (o : Obj) : Cv (w.alloc o) := h.below (below1 w o)

theorem ldA_range {t : TypeId} {d : TypeDesc} {w : World} {g : Nat} {X : List Value} (hu : Tryd.prog.underlying t = some d) (hd : d.isRow = true) (hi : (Tryd.prog.info? t).map (·.size) = some X.length) (h : w.rangeAt g 0 X) :
    (ldA t (.pointer (some ⟨g, 0, none⟩))).run Tryd.prog w = .ok (.agg X.toArray) w := run_loadAt_mid w g 0 t X d h hu hd hi

attribute [local go_sem ↓] ld_num st_num ld_pln st_pln eq_num ne_num

theorem lift_v : V4 3 18446744056529682431 18446744073709551614 21474836477 = SQ := by decide
theorem one_v : V4 1 18446744069414584320 18446744073709551615 4294967294 = ONE := by decide
theorem one_w : Nw 1 18446744069414584320 18446744073709551615 4294967294 ONE := by
  refine ⟨⟨by decide, by decide⟩, ⟨by decide, by decide⟩, ⟨by decide, by decide⟩, ⟨by decide, by decide⟩, one_v, by decide⟩

theorem nw_zero : Nw 0 0 0 0 0 := by
  refine ⟨⟨by decide, by decide⟩, ⟨by decide, by decide⟩, ⟨by decide, by decide⟩, ⟨by decide, by decide⟩, by decide, by decide⟩

/-- A result in a variable, and one beside it. -/
theorem res_two {fn : Func} {p q : Tmp} {ty : TypeId} (h : fn.results = #[.cell p ty, .tmp q]) (tmps : Array Value) (w : World) {g : Nat} {X : List Value} {d : TypeDesc} {T : TypeId} (hp : tmps.getD p undef = .pointer (some ⟨g, 0, none⟩))
    (hu : Tryd.prog.underlying ty = some d) (hd : d.isRow = true) (hi : (Tryd.prog.info? ty).map (·.size) = some X.length) (hB : Blk T w g X) :
    (results fn tmps).run Tryd.prog w = .ok (.tuple #[.agg X.toArray, tmps.getD q undef]) w := by
  have := run_loadVar_mid (P := Tryd.prog) w g 0 ty X d (Blk.range (A := []) (C := []) (by simpa using hB) 0 rfl) hu hd hi
  have hp' : tmps[p]?.getD undef = .pointer (some ⟨g, 0, none⟩) := by simpa using hp
  simp only [results, h]
  simp [hp', asAddr, this]

/-- What lifted answers. -/
def Lf (x : Int) (w : World) (e : Ending) (w' : World) : Prop :=
  ∃ r0 r1 r2 r3, e = .returned (.tuple #[.agg #[.int .u64 r0, .int .u64 r1, .int .u64 r2, .int .u64 r3], .bool (decide (x < PP))]) ∧ Nw r0 r1 r2 r3 (if x < PP then mm x SQ else 0) ∧ Below w.heap.size w w'

set_option maxRecDepth 100000 in
set_option maxHeartbeats 1000000 in
theorem lifted_any (a0 a1 a2 a3 x : Int) (i0 : is64 a0) (i1 : is64 a1) (i2 : is64 a2) (i3 : is64 a3) (hx : V4 a0 a1 a2 a3 = x) (w : World) (hC : Cv w) :
    Calls Tryd.prog 59 #[.agg #[.int .u64 a0, .int .u64 a1, .int .u64 a2, .int .u64 a3]] w (Lf x w) := by
  have hb0 := V4_bd a0 a1 a2 a3 i0 i1 i2 i3
  have hbel : ∀ W, Calls Tryd.prog 83 #[.int .u64 a0, .int .u64 a1, .int .u64 a2, .int .u64 a3, .int .u64 0] W (Rn (x % PP) W) := by
    intro W
    have := below_any a0 a1 a2 a3 0 i0 i1 i2 i3 (by omega) (by have := RR_PP2; rw [Int.mul_zero]; omega) W
    rw [Int.mul_zero, Int.add_zero, hx] at this
    exact this
  rw [hx] at hb0
  have HB := hide hbel
  have HC := hide hC
  clear hbel hC
  have HD : Hid (∀ r0 r1 r2 r3, Nw r0 r1 r2 r3 (x % PP) → eqB r0 r1 r2 r3 a0 a1 a2 a3 = decide (x < PP)) := by
    intro r0 r1 r2 r3 hr
    unfold eqB
    by_cases hlt : x < PP
    · have e : x % PP = x := Int.emod_eq_of_lt hb0.1 hlt
      have := V4_inj hr.i0 hr.i1 hr.i2 i0 i1 i2 (by rw [hr.v, e, hx])
      simp [this, hlt]
    · have : ¬ [r0, r1, r2, r3] = [a0, a1, a2, a3] := by
        intro h
        simp only [List.cons.injEq, and_true] at h
        obtain ⟨rfl, rfl, rfl, rfl⟩ := h
        have h1 := hr.v
        have h2 := hr.l
        omega
      simp [this, hlt]
  have HW : Hid (x < PP → Nw a0 a1 a2 a3 x) := fun h => ⟨i0, i1, i2, i3, hx, h⟩
  clear i0 i1 i2 i3 hx hb0
  have hld : ∀ W : World, Blk 99 W w.heap.size (L4 a0 a1 a2 a3) → (ldA 99 (.pointer (some ⟨w.heap.size, 0, none⟩))).run Tryd.prog W = .ok (.agg #[.int .u64 a0, .int .u64 a1, .int .u64 a2, .int .u64 a3]) W := fun W h => ldp4 h
  have HLD := hide hld
  clear hld
  have hne := neB_num
  have HK0 : Hid (Blk 99 ((w.alloc (.cells #[.int .u64 a0, .int .u64 a1, .int .u64 a2, .int .u64 a3] 99)).alloc (.cells #[.int .u64 0, .int .u64 0, .int .u64 0, .int .u64 0] 70)) w.heap.size (L4 a0 a1 a2 a3)) := (Blk.new w _ _ _ rfl rfl).alloc _
  have HZ0 : Hid (Blk 70 ((w.alloc (.cells #[.int .u64 a0, .int .u64 a1, .int .u64 a2, .int .u64 a3] 99)).alloc (.cells #[.int .u64 0, .int .u64 0, .int .u64 0, .int .u64 0] 70)) (w.heap.size + 1) (L4 0 0 0 0)) := Blk.new _ _ _ _ rfl (by simp)
  have hl0 := HLD.out _ HK0.out
  by_cases hlt : x < PP
  · have HNx := hide (HW.out hlt)
    have HD2 : Hid (∀ r0 r1 r2 r3, Nw r0 r1 r2 r3 (x % PP) → eqB r0 r1 r2 r3 a0 a1 a2 a3 = true) := fun r0 r1 r2 r3 h => by rw [HD.out _ _ _ _ h]; exact decide_eq_true hlt
    have HL := hide hlt
    clear hlt HD
    go_enter Tryd.func59, Tryd.ntmps59
    go_wp2
    go_region_held3 (fun W => W.cell? ⟨w.heap.size, 0, none⟩ = some (.int .u64 a0) ∧ W.cell? ⟨w.heap.size, 1, none⟩ = some (.int .u64 a1) ∧ W.cell? ⟨w.heap.size, 2, none⟩ = some (.int .u64 a2) ∧ W.cell? ⟨w.heap.size, 3, none⟩ = some (.int .u64 a3) ∧ (ldA 99 (.pointer (some ⟨w.heap.size, 0, none⟩))).run Tryd.prog W = .ok (.agg #[.int .u64 a0, .int .u64 a1, .int .u64 a2, .int .u64 a3]) W) (refine ⟨?_, ?_, ?_, ?_, ?_⟩ <;> first | assumption | exact HLD.out _ (HK0.out.heap rfl) | (simp [*]; done)) ((go_at_call 83; refine (HB.out _).mono ?_; rintro e w1 ⟨r0, r1, r2, r3, rfl, HN, LB⟩; have HK := hide (HK0.out.later LB rfl); have HZ := hide (HZ0.out.later LB rfl); obtain ⟨k0, k1, k2, k3⟩ := blk4 HK.out; have hl1 := HLD.out _ HK.out; have LB1 := hide (belowd2 LB); clear LB; have hd : eqB r0 r1 r2 r3 a0 a1 a2 a3 = true := HD2.out _ _ _ _ HN))
    have HC1 := hide (HC.out.below LB1.out)
    have hgl : (ldA 70 (.pointer (some ⟨5, 0, none⟩))).run Tryd.prog w1 = .ok (.agg #[.int .u64 3, .int .u64 18446744056529682431, .int .u64 18446744073709551614, .int .u64 21474836477]) w1 := ldA_range Tryd.underlying70 rfl (by kernel_rfl) HC1.out.li
    have HT := hide (times_any a0 a1 a2 a3 3 18446744056529682431 18446744073709551614 21474836477 x SQ HNx.out ⟨by decide, by decide⟩ ⟨by decide, by decide⟩ ⟨by decide, by decide⟩ ⟨by decide, by decide⟩ lift_v w1)
    go_wp2_with fail
    refine HT.out.mono ?_
    rintro e w2 ⟨s0, s1, s2, s3, rfl, HN2, LB2⟩
    have HZ2 := hide (HZ.out.below LB2)
    have hst := st4 HZ2.out s0 s1 s2 s3
    have LB3 := hide (below_then LB1.out LB2)
    go_wp2
    refine bodyPost_ret (v := .tuple #[.agg #[.int .u64 s0, .int .u64 s1, .int .u64 s2, .int .u64 s3], .bool true]) ?_ rfl ⟨s0, s1, s2, s3, by rw [decide_eq_true HL.out], by rw [if_pos HL.out]; exact HN2, below_sets LB3.out (by omega) LB3.out.size _ _⟩
    exact res_two (p := 2) (q := 3) (T := 70) (X := L4 s0 s1 s2 s3) (g := w.heap.size + 1) (by kernel_rfl) _ _ rfl Tryd.underlying70 rfl (by kernel_rfl) (blk_all HZ2.out rfl)
  · have HD2 : Hid (∀ r0 r1 r2 r3, Nw r0 r1 r2 r3 (x % PP) → eqB r0 r1 r2 r3 a0 a1 a2 a3 = false) := fun r0 r1 r2 r3 h => by rw [HD.out _ _ _ _ h]; exact decide_eq_false hlt
    have HL := hide hlt
    clear hlt HD
    go_enter Tryd.func59, Tryd.ntmps59
    go_wp2
    go_region_held3 (fun W => W.cell? ⟨w.heap.size, 0, none⟩ = some (.int .u64 a0) ∧ W.cell? ⟨w.heap.size, 1, none⟩ = some (.int .u64 a1) ∧ W.cell? ⟨w.heap.size, 2, none⟩ = some (.int .u64 a2) ∧ W.cell? ⟨w.heap.size, 3, none⟩ = some (.int .u64 a3) ∧ (ldA 99 (.pointer (some ⟨w.heap.size, 0, none⟩))).run Tryd.prog W = .ok (.agg #[.int .u64 a0, .int .u64 a1, .int .u64 a2, .int .u64 a3]) W) (refine ⟨?_, ?_, ?_, ?_, ?_⟩ <;> first | assumption | exact HLD.out _ (HK0.out.heap rfl) | (simp [*]; done)) ((go_at_call 83; refine (HB.out _).mono ?_; rintro e w1 ⟨r0, r1, r2, r3, rfl, HN, LB⟩; have HK := hide (HK0.out.later LB rfl); have HZ := hide (HZ0.out.later LB rfl); obtain ⟨k0, k1, k2, k3⟩ := blk4 HK.out; have hl1 := HLD.out _ HK.out; have LB1 := hide (belowd2 LB); clear LB; have hd : eqB r0 r1 r2 r3 a0 a1 a2 a3 = false := HD2.out _ _ _ _ HN))
    have HC1 := hide (HC.out.below LB1.out)
    have hst := st4 HZ.out 0 0 0 0
    go_wp2
    have HQ : ¬ x < PP := by have := HL.out; omega
    refine bodyPost_ret (v := .tuple #[.agg #[.int .u64 0, .int .u64 0, .int .u64 0, .int .u64 0], .bool false]) ?_ rfl ⟨0, 0, 0, 0, by rw [decide_eq_false HQ], by rw [if_neg HQ]; exact nw_zero, below_sets LB1.out (by omega) LB1.out.size _ _⟩
    exact res_two (p := 2) (q := 3) (T := 70) (X := L4 0 0 0 0) (g := w.heap.size + 1) (by kernel_rfl) _ _ rfl Tryd.underlying70 rfl (by kernel_rfl) (blk_all HZ.out rfl)

set_option maxRecDepth 100000 in
set_option maxHeartbeats 1000000 in
theorem lowered_any (a0 a1 a2 a3 x : Int) (ha : Nw a0 a1 a2 a3 x) (w : World) :
    Calls Tryd.prog 68 #[.agg #[.int .u64 a0, .int .u64 a1, .int .u64 a2, .int .u64 a3]] w (Rn (mm x 1) w) := by
  have HT : Hid (∀ W, Calls Tryd.prog 62 #[.agg #[.int .u64 a0, .int .u64 a1, .int .u64 a2, .int .u64 a3], .agg #[.int .u64 1, .int .u64 0, .int .u64 0, .int .u64 0]] W (Rn (mm x 1) W)) := fun W => times_any a0 a1 a2 a3 1 0 0 0 x 1 ha ⟨by decide, by decide⟩ ⟨by decide, by decide⟩ ⟨by decide, by decide⟩ ⟨by decide, by decide⟩ (by decide) W
  have HZ0 : Hid (Blk 99 ((w.alloc (.cells #[.int .u64 a0, .int .u64 a1, .int .u64 a2, .int .u64 a3] 70)).alloc (.cells #[.int .u64 0, .int .u64 0, .int .u64 0, .int .u64 0] 99)) (w.heap.size + 1) (L4 0 0 0 0)) := Blk.new _ _ _ _ rfl (by simp)
  have HK0 : Hid (Blk 70 ((w.alloc (.cells #[.int .u64 a0, .int .u64 a1, .int .u64 a2, .int .u64 a3] 70)).alloc (.cells #[.int .u64 0, .int .u64 0, .int .u64 0, .int .u64 0] 99)) w.heap.size (L4 a0 a1 a2 a3)) := (Blk.new _ _ _ _ rfl (by simp)).alloc _
  have hld := ld4 HK0.out
  clear ha
  go_enter Tryd.func68, Tryd.ntmps68
  go_wp2_with fail
  refine (HT.out _).mono ?_
  rintro e w2 ⟨s0, s1, s2, s3, rfl, HN2, LB2⟩
  have HZ2 := hide (HZ0.out.below LB2)
  have hst := stp4 HZ2.out s0 s1 s2 s3
  have LB3 := hide (below_then (below2 w _ _) LB2)
  go_wp2
  refine bodyPost_ret (v := .agg #[.int .u64 s0, .int .u64 s1, .int .u64 s2, .int .u64 s3]) ?_ rfl ⟨s0, s1, s2, s3, rfl, HN2, below_sets LB3.out (by omega) LB3.out.size _ _⟩
  exact res_one (T := 99) (p := 2) (ty := 99) (g := w.heap.size + 1) (X := L4 s0 s1 s2 s3) (by kernel_rfl) _ _ rfl Tryd.underlying99 rfl (by kernel_rfl) (blk_all HZ2.out rfl)

end Go.Proofs.YtcijjmncilciiaaDoor
