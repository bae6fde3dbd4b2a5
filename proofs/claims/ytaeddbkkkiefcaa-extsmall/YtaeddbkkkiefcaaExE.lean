/-
  Arrays of whole numbers compared; the statements' own call names.
-/
import Derived.Test.YtaeddbkkkiefcaaExS
import Derived.ChangeKeysEq
import Derived.Laws.StructEq
namespace Go.Proofs.Ytaeddbkkkiefcaa
open Go.RowKit Go.IntWalk

theorem run_itemsX (d : Nat) (e : TypeId) (κ : IntKind) (he : Try.prog.underlying e = some (.int κ)) (xs ys : List Int) (n : Nat) (hx : xs.length = n) (hy : ys.length = n) (w : World) : ∀ is : List Nat, (∀ i ∈ is, i < n) →
    (Op.eqItems (d + 1) e 1 (xs.map (Value.int κ)).toArray (ys.map (Value.int κ)).toArray is).run Try.prog w = .ok (decide (∀ i ∈ is, xs.getD i 0 = ys.getD i 0)) w
  | [], _ => by simp [Op.eqItems]
  | i :: is, h => by
    have hi : i < n := h i (by simp)
    have px : ∀ zs : List Int, zs.length = n → (part e (zs.map (Value.int κ)).toArray (i * 1)).run Try.prog w = .ok (.int κ (zs.getD i 0)) w := by
      intro zs hz
      simp [part, isAgg, run_underlying he, List.getD, List.getElem?_eq_getElem (show i < zs.length by omega)]
    have ih := run_itemsX d e κ he xs ys n hx hy w is (fun j hj => h j (by simp [hj]))
    simp only [Op.eqItems, Sem.run_bind, px xs hx, px ys hy, Result.andThen_ok, run_equalIn_int w d e κ κ _ _ he]
    by_cases hq : xs.getD i 0 = ys.getD i 0
    · rw [hq]
      simp only [BEq.rfl, Bool.not_true, Bool.false_eq_true, if_false, ih, List.mem_cons, forall_eq_or_imp, hq, true_and]
    · have : (xs.getD i 0 == ys.getD i 0) = false := by simpa using hq
      simp only [this, Bool.not_false, if_true, Sem.run_pure, List.mem_cons, forall_eq_or_imp, hq, false_and, decide_false]

theorem getD_extX {xs ys : List Int} {n : Nat} (hx : xs.length = n) (hy : ys.length = n) : (∀ i ∈ List.range n, xs.getD i 0 = ys.getD i 0) ↔ xs = ys := by
  constructor
  · intro h
    refine List.ext_getElem (by omega) fun i h1 h2 => ?_
    have := h i (by simp; omega)
    simpa [List.getD, h1, h2] using this
  · rintro rfl i _
    rfl

theorem run_equalIn_arrX (d : Nat) (t e : TypeId) (n : Nat) (κ : IntKind) (ht : Try.prog.underlying t = some (.array n e)) (he : Try.prog.underlying e = some (.int κ)) {inf : TypeInfo} (hi : Try.prog.info? e = some inf) (hs : Try.prog.cellsOf e = 1) (xs ys : List Int) (hx : xs.length = n) (hy : ys.length = n) (w : World) :
    (Op.equalIn (d + 2) t (.agg (xs.map (Value.int κ)).toArray) (.agg (ys.map (Value.int κ)).toArray)).run Try.prog w = .ok (decide (xs = ys)) w := by
  rw [run_equalIn_array w (d + 1) _ _ ht hi, hs, run_itemsX d e κ he xs ys n hx hy w _ (fun i h => by simpa using h)]
  simp only [getD_extX hx hy]


theorem info_intX : ∃ i, Try.prog.info? 3 = some i := info_of_underlying Try.underlying3
/-- The nine numbers of errors. -/
def nine : List Int := [14, 15, 17, 19, 20, 21, 30, 35, 37]
theorem nine_eq (w : World) : (Op.equalIn 10000 70 (.agg #[.int .i64 14, .int .i64 15, .int .i64 17, .int .i64 19, .int .i64 20, .int .i64 21, .int .i64 30, .int .i64 35, .int .i64 37]) (.agg #[.int .i64 14, .int .i64 15, .int .i64 17, .int .i64 19, .int .i64 20, .int .i64 21, .int .i64 30, .int .i64 35, .int .i64 37])).run Try.prog w = .ok true w := by
  obtain ⟨i, hi⟩ := info_intX
  have h := run_equalIn_arrX 9998 70 3 9 .i64 Try.underlying70 Try.underlying3 hi (by kernel_rfl) nine nine rfl rfl w
  rw [decide_eq_true rfl] at h
  exact h

set_option maxRecDepth 100000 in
set_option maxHeartbeats 1000000 in
theorem names15_any (w : World) : Calls Try.prog 18 #[] w fun e w' => e = .returned (.bool true) ∧ Below w.heap.size w w' := by
  have BX := xbelow w
  have hq := nine_eq
  go_enter Try.func18, Try.ntmps18
  go_wp2
  go_ret
  exact ⟨rfl, BX _⟩

end Go.Proofs.Ytaeddbkkkiefcaa
