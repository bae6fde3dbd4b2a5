/-
  Points compared.
-/
import Derived.Test.YtnabmdpgibnkaabDoorYCvEqToCvLift
namespace Go.Proofs.YtnabmdpgibnkaabDoor
open Go.RowKit Go.IntWalk

theorem eqF_nil (d : Nat) (xs ys : Array Value) (w : World) : (Op.eqFields d xs ys []).run Tryd.prog w = .ok true w := by simp [Op.eqFields]
theorem eqF_step {d : Nat} {xs ys : Array Value} {f : Field} {fs : List Field} {a b : Value} {r : Bool} {w : World} (hn : f.name ≠ "_") (pa : (part f.type xs f.offset).run Tryd.prog w = .ok a w) (pb : (part f.type ys f.offset).run Tryd.prog w = .ok b w) (pe : (Op.equalIn d f.type a b).run Tryd.prog w = .ok r w) :
    (Op.eqFields d xs ys (f :: fs)).run Tryd.prog w = if r = true then (Op.eqFields d xs ys fs).run Tryd.prog w else .ok false w := by
  simp only [Op.eqFields, hn, ne_eq, not_false_eq_true, if_true, Sem.run_bind, pa, pb, pe, Result.andThen_ok]
  cases r <;> simp

theorem run_part_bool (xs : Array Value) (o : Nat) (b : Bool) (h : xs[o]? = some (.bool b)) (w : World) : (part 4 xs o).run Tryd.prog w = .ok (.bool b) w := by
  simp [part, isAgg, run_underlying Tryd.underlying4, h]

theorem fields_pnt : (Tryd.prog.fieldsOf 34).toList.map (fun f => (f.name, f.type, f.offset)) = [("X", 24, 0), ("Y", 24, 32), ("Inf", 4, 64)] := by kernel_rfl

set_option maxRecDepth 100000 in
theorem eqA_pnt (X Y X' Y' : List Int) (f f' : Bool) (hX : X.length = 32) (hY : Y.length = 32) (hX' : X'.length = 32) (hY' : Y'.length = 32) (w : World) :
    (Op.equalIn 10000 34 (.agg (pL X Y f).toArray) (.agg (pL X' Y' f').toArray)).run Tryd.prog w = .ok (decide (X = X' ∧ Y = Y' ∧ f = f')) w := by
  obtain ⟨inf, hinf⟩ := info_u8
  have hf := fields_pnt
  rw [run_equalIn_struct w 9999 34 _ _ (by kernel_rfl) (by kernel_rfl)]
  generalize (Tryd.prog.fieldsOf 34).toList = fs at hf
  obtain ⟨f1, fs1, rfl, e1, hf⟩ := List.map_eq_cons_iff.1 hf
  obtain ⟨f2, fs2, rfl, e2, hf⟩ := List.map_eq_cons_iff.1 hf
  obtain ⟨f3, fs3, rfl, e3, hf⟩ := List.map_eq_cons_iff.1 hf
  obtain rfl := List.map_eq_nil_iff.1 hf
  simp only [Prod.mk.injEq] at e1 e2 e3
  obtain ⟨n1, t1, o1⟩ := e1
  obtain ⟨n2, t2, o2⟩ := e2
  obtain ⟨n3, t3, o3⟩ := e3
  have pX : ∀ (A B : List Int) (g : Bool), A.length = 32 → (part f1.type (pL A B g).toArray f1.offset).run Tryd.prog w = .ok (.agg (A.map (Value.int .u8)).toArray) w := by
    intro A B g hA
    rw [t1, o1]
    have := part_arr Tryd.underlying24 (by kernel_rfl) [] (A.map (Value.int .u8)) (B.map (Value.int .u8) ++ [.bool g]) 0 rfl (by simpa using hA) w
    rw [List.nil_append, ← List.append_assoc] at this
    exact this
  have pY : ∀ (A B : List Int) (g : Bool), A.length = 32 → B.length = 32 → (part f2.type (pL A B g).toArray f2.offset).run Tryd.prog w = .ok (.agg (B.map (Value.int .u8)).toArray) w := by
    intro A B g hA hB
    rw [t2, o2]
    exact part_arr Tryd.underlying24 (by kernel_rfl) (A.map (Value.int .u8)) (B.map (Value.int .u8)) [.bool g] 32 (by simpa using hA) (by simpa using hB) w
  have pI : ∀ (A B : List Int) (g : Bool), A.length = 32 → B.length = 32 → (part f3.type (pL A B g).toArray f3.offset).run Tryd.prog w = .ok (.bool g) w := by
    intro A B g hA hB
    rw [t3, o3]
    refine run_part_bool _ _ _ ?_ w
    simp [pL, hA, hB]
  have eq : ∀ A B : List Int, A.length = 32 → B.length = 32 → (Op.equalIn 9999 24 (.agg (A.map (Value.int .u8)).toArray) (.agg (B.map (Value.int .u8)).toArray)).run Tryd.prog w = .ok (decide (A = B)) w := fun A B hA hB =>
    run_equalIn_arr 9997 24 5 32 .u8 Tryd.underlying24 Tryd.underlying5 hinf (by kernel_rfl) A B hA hB w
  rw [eqF_step (by rw [n1]; decide) (pX X Y f hX) (pX X' Y' f' hX') (by rw [t1]; exact eq X X' hX hX')]
  rw [eqF_step (by rw [n2]; decide) (pY X Y f hX hY) (pY X' Y' f' hX' hY') (by rw [t2]; exact eq Y Y' hY hY')]
  rw [eqF_step (by rw [n3]; decide) (pI X Y f hX hY) (pI X' Y' f' hX' hY') (by rw [t3]; exact run_equalIn_bool' w 9998 4 f f' Tryd.underlying4)]
  rw [eqF_nil]
  by_cases h1 : X = X'
  · by_cases h2 : Y = Y'
    · cases f <;> cases f' <;> simp [h1, h2]
    · simp [h2]
  · simp [h1]

theorem fields_rpt : (Tryd.prog.fieldsOf 41).toList.map (fun f => (f.name, f.type, f.offset)) = [("X", 23, 0), ("Y", 23, 32), ("Inf", 4, 64)] := by kernel_rfl

set_option maxRecDepth 100000 in
theorem eqA_rpt (X Y X' Y' : List Int) (f f' : Bool) (hX : X.length = 32) (hY : Y.length = 32) (hX' : X'.length = 32) (hY' : Y'.length = 32) (w : World) :
    (Op.equalIn 10000 41 (.agg (pL X Y f).toArray) (.agg (pL X' Y' f').toArray)).run Tryd.prog w = .ok (decide (X = X' ∧ Y = Y' ∧ f = f')) w := by
  obtain ⟨inf, hinf⟩ := info_u8
  have hf := fields_rpt
  rw [run_equalIn_struct w 9999 41 _ _ (by kernel_rfl) (by kernel_rfl)]
  generalize (Tryd.prog.fieldsOf 41).toList = fs at hf
  obtain ⟨f1, fs1, rfl, e1, hf⟩ := List.map_eq_cons_iff.1 hf
  obtain ⟨f2, fs2, rfl, e2, hf⟩ := List.map_eq_cons_iff.1 hf
  obtain ⟨f3, fs3, rfl, e3, hf⟩ := List.map_eq_cons_iff.1 hf
  obtain rfl := List.map_eq_nil_iff.1 hf
  simp only [Prod.mk.injEq] at e1 e2 e3
  obtain ⟨n1, t1, o1⟩ := e1
  obtain ⟨n2, t2, o2⟩ := e2
  obtain ⟨n3, t3, o3⟩ := e3
  have pX : ∀ (A B : List Int) (g : Bool), A.length = 32 → (part f1.type (pL A B g).toArray f1.offset).run Tryd.prog w = .ok (.agg (A.map (Value.int .u8)).toArray) w := by
    intro A B g hA
    rw [t1, o1]
    have := part_arr Tryd.underlying23 (by kernel_rfl) [] (A.map (Value.int .u8)) (B.map (Value.int .u8) ++ [.bool g]) 0 rfl (by simpa using hA) w
    rw [List.nil_append, ← List.append_assoc] at this
    exact this
  have pY : ∀ (A B : List Int) (g : Bool), A.length = 32 → B.length = 32 → (part f2.type (pL A B g).toArray f2.offset).run Tryd.prog w = .ok (.agg (B.map (Value.int .u8)).toArray) w := by
    intro A B g hA hB
    rw [t2, o2]
    exact part_arr Tryd.underlying23 (by kernel_rfl) (A.map (Value.int .u8)) (B.map (Value.int .u8)) [.bool g] 32 (by simpa using hA) (by simpa using hB) w
  have pI : ∀ (A B : List Int) (g : Bool), A.length = 32 → B.length = 32 → (part f3.type (pL A B g).toArray f3.offset).run Tryd.prog w = .ok (.bool g) w := by
    intro A B g hA hB
    rw [t3, o3]
    refine run_part_bool _ _ _ ?_ w
    simp [pL, hA, hB]
  have eq : ∀ A B : List Int, A.length = 32 → B.length = 32 → (Op.equalIn 9999 23 (.agg (A.map (Value.int .u8)).toArray) (.agg (B.map (Value.int .u8)).toArray)).run Tryd.prog w = .ok (decide (A = B)) w := fun A B hA hB =>
    run_equalIn_arr 9997 23 5 32 .u8 Tryd.underlying23 Tryd.underlying5 hinf (by kernel_rfl) A B hA hB w
  rw [eqF_step (by rw [n1]; decide) (pX X Y f hX) (pX X' Y' f' hX') (by rw [t1]; exact eq X X' hX hX')]
  rw [eqF_step (by rw [n2]; decide) (pY X Y f hX hY) (pY X' Y' f' hX' hY') (by rw [t2]; exact eq Y Y' hY hY')]
  rw [eqF_step (by rw [n3]; decide) (pI X Y f hX hY) (pI X' Y' f' hX' hY') (by rw [t3]; exact run_equalIn_bool' w 9998 4 f f' Tryd.underlying4)]
  rw [eqF_nil]
  by_cases h1 : X = X'
  · by_cases h2 : Y = Y'
    · cases f <;> cases f' <;> simp [h1, h2]
    · simp [h2]
  · simp [h1]

theorem eqP (X Y X' Y' : List Int) (f f' : Bool) (hX : X.length = 32) (hY : Y.length = 32) (hX' : X'.length = 32) (hY' : Y'.length = 32) (w : World) :
    (eqA 34 (.agg (pL X Y f).toArray) (.agg (pL X' Y' f').toArray)).run Tryd.prog w = .ok (.bool (decide (X = X' ∧ Y = Y' ∧ f = f'))) w := by
  unfold eqA
  rw [run_eql_struct, eqA_pnt X Y X' Y' f f' hX hY hX' hY' w]
  rfl
theorem neP (X Y X' Y' : List Int) (f f' : Bool) (hX : X.length = 32) (hY : Y.length = 32) (hX' : X'.length = 32) (hY' : Y'.length = 32) (w : World) :
    (neA 34 (.agg (pL X Y f).toArray) (.agg (pL X' Y' f').toArray)).run Tryd.prog w = .ok (.bool (!decide (X = X' ∧ Y = Y' ∧ f = f'))) w := by
  unfold neA
  rw [run_neq_struct, eqA_pnt X Y X' Y' f f' hX hY hX' hY' w]
  rfl
theorem eqR (X Y X' Y' : List Int) (f f' : Bool) (hX : X.length = 32) (hY : Y.length = 32) (hX' : X'.length = 32) (hY' : Y'.length = 32) (w : World) :
    (eqA 41 (.agg (pL X Y f).toArray) (.agg (pL X' Y' f').toArray)).run Tryd.prog w = .ok (.bool (decide (X = X' ∧ Y = Y' ∧ f = f'))) w := by
  unfold eqA
  rw [run_eql_struct, eqA_rpt X Y X' Y' f f' hX hY hX' hY' w]
  rfl

end Go.Proofs.YtnabmdpgibnkaabDoor
