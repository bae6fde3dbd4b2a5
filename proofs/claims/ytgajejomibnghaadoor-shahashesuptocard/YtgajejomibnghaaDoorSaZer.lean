/-
  'append(s, make([]byte, m)...)': bytes 0 behind a row that the call owns.
-/
import Derived.Test.YtgajejomibnghaaDoorSaWk
namespace Go.Proofs.YtgajejomibnghaaDoor
open Go.RowKit Go.IntWalk

theorem zeros_cells (m : Nat) : (Builtin.zeroCells (Value.int .u8 0).cells m).toList = List.replicate m (.int .u8 0) := by
  have : (Value.int .u8 0).cells = #[Value.int .u8 0] := rfl
  rw [this]
  unfold Builtin.zeroCells
  apply List.ext_getElem?
  intro j
  by_cases hj : j < m
  · simp [hj, Nat.mod_one]
  · simp [hj]

theorem run_zeros_room (w : World) (ty : TypeId) (g n cap m : Nat) (cur : Array Value) (hg : w.heap[g]? = some (.cells cur 5 (0, 0))) (hroom : n + m ≤ cap) (hfit : n + m ≤ cur.size) (hm : m ≤ 64) :
    (Builtin.append_ #[22, 3] ty #[.slice (some ⟨g, 0, none⟩) n cap, .int .i64 (m : Int)]).run Tryd.prog w =
      .ok (.slice (some ⟨g, 0, none⟩) (n + m) cap) (w.setRow g (cur.toList.take n ++ List.replicate m (Value.int .u8 0) ++ cur.toList.drop (n + m)).toArray) := by
  obtain ⟨i0, hi, hz0, hz1, hz2⟩ := info_parts Tryd.infoB8
  have hw : IntKind.i64.wrap (m : Int) = (m : Int) := i64_in _ (by omega)
  have hst := run_storeCells_at Tryd.prog g n 5 (List.replicate m (Value.int .u8 0)) 0 cur w hg (by simpa using hfit) (by intro v hv; simp at hv; rw [hv.2]; rfl)
  simp only [Nat.add_zero, List.length_replicate] at hst
  have h1 : ¬ ((m : Int) < 0) := by omega
  have h2 : ¬ (281474976710656 < (m : Int)) := by omega
  simp [Builtin.append_, run_underlying Tryd.underlying22, run_underlying Tryd.underlying3, sizeOf, typeInfo, zeroValue, hi, hz0, hz1, hz2, asInt, asIntOf, hw, h1, h2, hroom, Addr.add_lit]
  rw [zeros_cells]
  split
  · rename_i h0
    subst h0
    rw [List.replicate_zero] at hst
    rw [hst]
    simp
  · rw [hst]
    simp

theorem run_zeros_grow (w : World) (ty : TypeId) (b : Addr) (n cap m : Nat) (olds : List Value) (hlo : olds.length = n) (holds : ∀ j v, olds[j]? = some v → w.cell? (b.add j) = some v) (hg : cap < n + m) (hn : n ≤ 64) (hm : m ≤ 64) :
    (Builtin.append_ #[22, 3] ty #[.slice (some b) n cap, .int .i64 (m : Int)]).run Tryd.prog w =
      .ok (.slice (some ⟨w.heap.size, 0, none⟩) (n + m) (grownCap w (n + m) cap 5)) (w.drew.alloc (.cells (olds.toArray ++ (List.replicate m (Value.int .u8 0)).toArray ++ Builtin.zeroCells (Value.int .u8 0).cells (grownCap w (n + m) cap 5 - (n + m))) 5)) := by
  obtain ⟨i0, hi, hz0, hz1, hz2⟩ := info_parts Tryd.infoB8
  have hw : IntKind.i64.wrap (m : Int) = (m : Int) := i64_in _ (by omega)
  have h1 : ¬ ((m : Int) < 0) := by omega
  have h2 : ¬ (281474976710656 < (m : Int)) := by omega
  have h3 : ¬ (n + m ≤ cap) := by omega
  have h4 : ¬ (9223372036854775807 < ((n : Int) + (m : Int))) := by omega
  have h5 : ¬ (281474976710656 < Builtin.nextslicecap (n + m) cap) := by have := growslice_fits (bytes := 1) (need := n + m) (old := cap) (by omega) (by omega); omega
  have hz : Builtin.zeroCells (Value.int .u8 0).cells m = (List.replicate m (Value.int .u8 0)).toArray := by rw [← zeros_cells]
  have hfo := run_firstCells_some (P := Tryd.prog) w.drew 1 n b n cap olds (by omega) (by simpa using holds)
  simp [Builtin.append_, run_underlying Tryd.underlying22, run_underlying Tryd.underlying3, sizeOf, typeInfo, zeroValue, hi, hz0, hz1, hz2, asInt, asIntOf, hw, h1, h2, h3, h4, h5, Question.forced, hfo, newRow, grownCap]
  split
  · rename_i h0
    subst h0
    simp
  · rw [hz]
    simp

theorem zeros_own (w : World) (ty : TypeId) (base g n cap m : Nat) (xs : List Int) (hown : OwnG .u8 5 w base (.slice (some ⟨g, 0, none⟩) n cap) xs) (hn : n ≤ 64) (hm : m ≤ 64) (hbase : base ≤ w.heap.size) :
    ∃ g' c' w', (Builtin.append_ #[22, 3] ty #[.slice (some ⟨g, 0, none⟩) n cap, .int .i64 (m : Int)]).run Tryd.prog w = .ok (.slice (some ⟨g', 0, none⟩) (n + m) c') w' ∧ OwnG .u8 5 w' base (.slice (some ⟨g', 0, none⟩) (n + m) c') (xs ++ List.replicate m 0) ∧ base ≤ g' ∧ g' < w'.heap.size ∧ w.grownBy w' (some g) := by
  have hl := hown.eqlen
  subst hl
  have hcells := hown.cell
  obtain ⟨hlen, h⟩ := hown
  rcases h with ⟨h, _⟩ | ⟨g0, cap0, cur, he, hbg, hg, hnc, hcm, hcs, htake⟩
  · simp at h
  · simp only [Value.slice.injEq, Option.some.injEq, Addr.mk.injEq, and_true, true_and] at he
    obtain ⟨rfl, rfl⟩ := he
    rw [Nat.mul_one] at hcs htake
    have hll : (xs ++ List.replicate m (0 : Int)).length = xs.length + m := by simp
    by_cases hroom : xs.length + m ≤ cap
    · have hr := run_zeros_room w ty g xs.length cap m cur hg hroom (by omega) hm
      refine ⟨_, _, _, hr, ⟨by simp, .inr ⟨g, cap, _, by rw [hll], hbg, setRow_heap w g cur _ 5 _ hg, by omega, hcm, ?_, ?_⟩⟩, hbg, ?_, ⟨rfl, rfl, rfl, by simp, fun k _ hk => setRow_other w g k _ (fun e => hk (by simp [e]))⟩⟩
      · simp only [List.size_toArray, List.length_append, List.length_take, List.length_drop, Array.length_toList, List.length_replicate]
        omega
      · rw [htake, hll]
        simp only [List.map_append, List.map_replicate]
        have e : xs.length + m = (xs.map (Value.int .u8) ++ List.replicate m (Value.int .u8 0)).length := by simp
        rw [Nat.mul_one, e]
        exact List.take_left
      · have := (Array.getElem?_eq_some_iff.1 hg).1
        simpa using this
    · have hge := grownCap_ge w (xs.length + m) cap 5
      have hcm2 : grownCap w (xs.length + m) cap 5 ≤ maxLen := grownCap_le_maxLen w (xs.length + m) cap 5 (by unfold maxLen; omega)
      have hr := run_zeros_grow w ty ⟨g, 0, none⟩ xs.length cap m (xs.map (Value.int .u8)) (by simp) (by
        intro j v hv
        have hj : j < xs.length := by have := (List.getElem?_eq_some_iff.1 hv).1; simpa using this
        rw [addNone, Nat.zero_add, hcells j hj]
        simp [List.getElem?_eq_getElem hj] at hv
        subst hv
        simp [List.getD, hj]) (by omega) hn hm
      refine ⟨_, _, _, hr, ⟨by simp, .inr ⟨w.heap.size, _, _, by rw [hll], hbase, heap_alloc_new w.drew _, by rw [hll]; exact hge, hcm2, ?_, ?_⟩⟩, hbase, by simp, ⟨rfl, rfl, rfl, by simp, fun k hk _ => Below.heap_alloc w.drew _ k hk⟩⟩
      · have e1 : (Value.int .u8 0).cells.size = 1 := rfl
        simp only [Array.size_append, List.size_toArray, size_zeroCells, e1, List.length_map, List.length_replicate]
        omega
      · simp only [Array.toList_append, List.map_append, List.map_replicate]
        have e : (xs ++ List.replicate m (0 : Int)).length * 1 = (xs.map (Value.int .u8) ++ List.replicate m (Value.int .u8 0)).length := by simp
        rw [e]
        exact List.take_left

theorem wpList_zeros {ops : Array Oper} {rest : List Oper} {o : Oper} {a : Act} {Q : Exit → Act → World → Prop} (w : World) (hgd : o.guard = none) (s x : Operand) (ho : o.op = .call { callee := .builtin .append, args := #[s, x], argTypes := #[22, 3] })
    (base g n cap m : Nat) (xs : List Int) (hs : a.eval s = .slice (some ⟨g, 0, none⟩) n cap) (M : Int) (hM : M = (m : Int)) (hx : a.eval x = .int .i64 M) (hown : OwnG .u8 5 w base (.slice (some ⟨g, 0, none⟩) n cap) xs) (hn : n ≤ 64) (hm : m ≤ 64) (hbase : base ≤ w.heap.size) (t : Nat) (ht : n + m = t)
    (h : ∀ g' c' w', OwnG .u8 5 w' base (.slice (some ⟨g', 0, none⟩) t c') (xs ++ List.replicate m 0) → base ≤ g' → g' < w'.heap.size → w.grownBy w' (some g) → wpList Tryd.prog ops Q rest (a.put o.dst (.slice (some ⟨g', 0, none⟩) t c')) w') : wpList Tryd.prog ops Q (o :: rest) a w := by
  subst hM ht
  obtain ⟨g', c', w', hr, h1, h2, h3, h4⟩ := zeros_own w o.type base g n cap m xs hown hn hm hbase
  refine wpList_plain hgd fun K hK => ?_
  unfold Oper.wp execOp
  simp only [ho, resolve, invoke, builtin, Sem.run_bind, Sem.run_pure, Result.andThen_ok, List.map_toArray, List.map_cons, List.map_nil, hs, hx, hr]
  exact hK _ _ (h g' c' w' h1 h2 h3 h4)

theorem keyOf_zeros {key : List Int} (h : key.length ≤ 64) : keyOf (key ++ List.replicate (64 - key.length) 0) = keyOf key := by
  rw [keyOf_short h, keyOf_short (by simp; omega)]
  have : 64 - (key ++ List.replicate (64 - key.length) (0 : Int)).length = 0 := by simp; omega
  rw [this]
  simp
theorem keyOf_dig {key : List Int} (h : 64 < key.length) : keyOf (dig key) = keyOf key := by
  rw [keyOf_long h, keyOf_short (by rw [dig_len]; omega), dig_len]
theorem macD_key {k l : List Int} (h : keyOf k = keyOf l) (xs : List Int) : macD k xs = macD l xs := by unfold macD; rw [h]

end Go.Proofs.YtgajejomibnghaaDoor
