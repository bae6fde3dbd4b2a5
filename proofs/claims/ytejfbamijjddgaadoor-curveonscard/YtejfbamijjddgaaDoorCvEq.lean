/-
  Arrays of whole numbers, and points, compared.
-/
import Derived.Test.YtejfbamijjddgaaDoorCvTimes
import Derived.ChangeKeysEq
import Derived.Laws.StructEq
namespace Go.Proofs.YtejfbamijjddgaaDoor
open Go.RowKit Go.IntWalk

theorem run_items (d : Nat) (e : TypeId) (κ : IntKind) (he : Tryd.prog.underlying e = some (.int κ)) (xs ys : List Int) (n : Nat) (hx : xs.length = n) (hy : ys.length = n) (w : World) : ∀ is : List Nat, (∀ i ∈ is, i < n) →
    (Op.eqItems (d + 1) e 1 (xs.map (Value.int κ)).toArray (ys.map (Value.int κ)).toArray is).run Tryd.prog w = .ok (decide (∀ i ∈ is, xs.getD i 0 = ys.getD i 0)) w
  | [], _ => by simp [Op.eqItems]
  | i :: is, h => by
    have hi : i < n := h i (by simp)
    have px : ∀ zs : List Int, zs.length = n → (part e (zs.map (Value.int κ)).toArray (i * 1)).run Tryd.prog w = .ok (.int κ (zs.getD i 0)) w := by
      intro zs hz
      simp [part, isAgg, run_underlying he, List.getD, List.getElem?_eq_getElem (show i < zs.length by omega)]
    have ih := run_items d e κ he xs ys n hx hy w is (fun j hj => h j (by simp [hj]))
    simp only [Op.eqItems, Sem.run_bind, px xs hx, px ys hy, Result.andThen_ok, run_equalIn_int w d e κ κ _ _ he]
    by_cases hq : xs.getD i 0 = ys.getD i 0
    · rw [hq]
      simp only [BEq.rfl, Bool.not_true, Bool.false_eq_true, if_false, ih, List.mem_cons, forall_eq_or_imp, hq, true_and]
    · have : (xs.getD i 0 == ys.getD i 0) = false := by simpa using hq
      simp only [this, Bool.not_false, if_true, Sem.run_pure, List.mem_cons, forall_eq_or_imp, hq, false_and, decide_false]

theorem getD_ext {xs ys : List Int} {n : Nat} (hx : xs.length = n) (hy : ys.length = n) : (∀ i ∈ List.range n, xs.getD i 0 = ys.getD i 0) ↔ xs = ys := by
  constructor
  · intro h
    refine List.ext_getElem (by omega) fun i h1 h2 => ?_
    have := h i (by simp; omega)
    simpa [List.getD, h1, h2] using this
  · rintro rfl i _
    rfl

theorem run_equalIn_arr (d : Nat) (t e : TypeId) (n : Nat) (κ : IntKind) (ht : Tryd.prog.underlying t = some (.array n e)) (he : Tryd.prog.underlying e = some (.int κ)) {inf : TypeInfo} (hi : Tryd.prog.info? e = some inf) (hs : Tryd.prog.cellsOf e = 1) (xs ys : List Int) (hx : xs.length = n) (hy : ys.length = n) (w : World) :
    (Op.equalIn (d + 2) t (.agg (xs.map (Value.int κ)).toArray) (.agg (ys.map (Value.int κ)).toArray)).run Tryd.prog w = .ok (decide (xs = ys)) w := by
  rw [run_equalIn_array w (d + 1) _ _ ht hi, hs, run_items d e κ he xs ys n hx hy w _ (fun i h => by simpa using h)]
  simp only [getD_ext hx hy]

/-- Comparisons, kept whole in the walk. -/
def eqA (t : TypeId) (x y : Value) : Sem Value := binOp .eql t x y
def neA (t : TypeId) (x y : Value) : Sem Value := binOp .neq t x y
theorem eq_num (x y : Value) : binOp .eql 84 x y = eqA 84 x y := rfl
theorem ne_num (x y : Value) : binOp .neq 84 x y = neA 84 x y := rfl
theorem eq_pnt (x y : Value) : binOp .eql 25 x y = eqA 25 x y := rfl
theorem ne_pnt (x y : Value) : binOp .neq 25 x y = neA 25 x y := rfl
theorem eq_rpt (x y : Value) : binOp .eql 27 x y = eqA 27 x y := rfl
theorem eq_dgs (x y : Value) : binOp .eql 23 x y = eqA 23 x y := rfl
theorem eq_F (x y : Value) : binOp .eql 69 x y = eqA 69 x y := rfl

theorem eqA_arr {t e : TypeId} {n : Nat} {κ : IntKind} (ht : Tryd.prog.underlying t = some (.array n e)) (he : Tryd.prog.underlying e = some (.int κ)) {inf : TypeInfo} (hi : Tryd.prog.info? e = some inf) (hs : Tryd.prog.cellsOf e = 1) (xs ys : List Int) (hx : xs.length = n) (hy : ys.length = n) (w : World) :
    (eqA t (.agg (xs.map (Value.int κ)).toArray) (.agg (ys.map (Value.int κ)).toArray)).run Tryd.prog w = .ok (.bool (decide (xs = ys))) w := by
  unfold eqA
  rw [run_eql_struct, run_equalIn_arr 9998 t e n κ ht he hi hs xs ys hx hy w]
  rfl
theorem neA_arr {t e : TypeId} {n : Nat} {κ : IntKind} (ht : Tryd.prog.underlying t = some (.array n e)) (he : Tryd.prog.underlying e = some (.int κ)) {inf : TypeInfo} (hi : Tryd.prog.info? e = some inf) (hs : Tryd.prog.cellsOf e = 1) (xs ys : List Int) (hx : xs.length = n) (hy : ys.length = n) (w : World) :
    (neA t (.agg (xs.map (Value.int κ)).toArray) (.agg (ys.map (Value.int κ)).toArray)).run Tryd.prog w = .ok (.bool (!decide (xs = ys))) w := by
  unfold neA
  rw [run_neq_struct, run_equalIn_arr 9998 t e n κ ht he hi hs xs ys hx hy w]
  rfl

theorem info_u64 : ∃ i, Tryd.prog.info? 66 = some i := info_of_underlying Tryd.underlying66
theorem info_u8 : ∃ i, Tryd.prog.info? 5 = some i := info_of_underlying Tryd.underlying5

theorem eqA_num (a0 a1 a2 a3 b0 b1 b2 b3 : Int) (w : World) : (eqA 84 (.agg #[.int .u64 a0, .int .u64 a1, .int .u64 a2, .int .u64 a3]) (.agg #[.int .u64 b0, .int .u64 b1, .int .u64 b2, .int .u64 b3])).run Tryd.prog w = .ok (.bool (decide ([a0, a1, a2, a3] = [b0, b1, b2, b3]))) w := by
  obtain ⟨i, hi⟩ := info_u64
  exact eqA_arr (xs := [a0, a1, a2, a3]) (ys := [b0, b1, b2, b3]) Tryd.underlying84 Tryd.underlying66 hi (by kernel_rfl) rfl rfl w
theorem neA_num (a0 a1 a2 a3 b0 b1 b2 b3 : Int) (w : World) : (neA 84 (.agg #[.int .u64 a0, .int .u64 a1, .int .u64 a2, .int .u64 a3]) (.agg #[.int .u64 b0, .int .u64 b1, .int .u64 b2, .int .u64 b3])).run Tryd.prog w = .ok (.bool (!decide ([a0, a1, a2, a3] = [b0, b1, b2, b3]))) w := by
  obtain ⟨i, hi⟩ := info_u64
  exact neA_arr (xs := [a0, a1, a2, a3]) (ys := [b0, b1, b2, b3]) Tryd.underlying84 Tryd.underlying66 hi (by kernel_rfl) rfl rfl w

/-- Are four words the same as four others? -/
def eqB (a0 a1 a2 a3 b0 b1 b2 b3 : Int) : Bool := decide ([a0, a1, a2, a3] = [b0, b1, b2, b3])
theorem eqB_num (a0 a1 a2 a3 b0 b1 b2 b3 : Int) (w : World) : (eqA 84 (.agg #[.int .u64 a0, .int .u64 a1, .int .u64 a2, .int .u64 a3]) (.agg #[.int .u64 b0, .int .u64 b1, .int .u64 b2, .int .u64 b3])).run Tryd.prog w = .ok (.bool (eqB a0 a1 a2 a3 b0 b1 b2 b3)) w := eqA_num a0 a1 a2 a3 b0 b1 b2 b3 w
theorem neB_num (a0 a1 a2 a3 b0 b1 b2 b3 : Int) (w : World) : (neA 84 (.agg #[.int .u64 a0, .int .u64 a1, .int .u64 a2, .int .u64 a3]) (.agg #[.int .u64 b0, .int .u64 b1, .int .u64 b2, .int .u64 b3])).run Tryd.prog w = .ok (.bool (!eqB a0 a1 a2 a3 b0 b1 b2 b3)) w := neA_num a0 a1 a2 a3 b0 b1 b2 b3 w

/-- The words are the same just if the numbers are. -/
theorem eqB_nw {a0 a1 a2 a3 b0 b1 b2 b3 x y : Int} (ha : Nw a0 a1 a2 a3 x) (hb : Nw b0 b1 b2 b3 y) : eqB a0 a1 a2 a3 b0 b1 b2 b3 = decide (x = y) := by
  unfold eqB
  by_cases h : x = y
  · have := V4_inj ha.i0 ha.i1 ha.i2 hb.i0 hb.i1 hb.i2 (by rw [ha.v, hb.v, h])
    simp [this, h]
  · have : ¬ [a0, a1, a2, a3] = [b0, b1, b2, b3] := by
      intro e
      simp only [List.cons.injEq, and_true] at e
      obtain ⟨rfl, rfl, rfl, rfl⟩ := e
      exact h (ha.v.symm.trans hb.v)
    simp [this, h]

/-- A point's cells. -/
def pL (X Y : List Int) (f : Bool) : List Value := X.map (Value.int .u8) ++ Y.map (Value.int .u8) ++ [.bool f]

set_option maxRecDepth 100000 in
theorem part_arr {e : TypeId} {n : Nat} {t' : TypeId} (hu : Tryd.prog.underlying e = some (.array n t')) (hi : (Tryd.prog.info? e).map (·.size) = some n) (A X C : List Value) (o : Nat) (ho : A.length = o) (hX : X.length = n) (w : World) : (part e (A ++ X ++ C).toArray o).run Tryd.prog w = .ok (.agg X.toArray) w := by
  obtain ⟨i, hi, hsz⟩ := Option.map_eq_some_iff.1 hi
  have hs : (sizeOf e).run Tryd.prog w = .ok n w := by rw [run_sizeOf w hi]; unfold Program.cellsOf; rw [hi]; simp [hsz]
  simp only [part, isAgg, Sem.run_bind, run_underlying hu, Result.andThen_ok, Sem.run_pure, if_true, hs]
  congr 2
  subst ho hX
  simp

end Go.Proofs.YtejfbamijjddgaaDoor
