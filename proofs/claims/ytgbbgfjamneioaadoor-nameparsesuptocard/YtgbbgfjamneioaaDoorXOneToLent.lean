/-
  der.One answers as the plain function of the bytes says, the content copied into new memory.
  'append' of bytes to a row of the call's own, as one step of a region that draws its order.
  The reference's IsTag answers as the plain function of the number says.
  The reference's Take answers as the plain function of the bytes says, the content copied into new memory.
  The reference's One answers as the plain function of the bytes says; 'same' says true of elements of one tag and one content.
  The document's Row: all elements that stand one behind the other, their places, where they end, and why.
  What the statements' own helpers do: 'lent' copies bytes and lays a mark behind them; 'kept' says true of what was lent and is as it was; 'spoil' writes into the row that it is handed, and nowhere else.
-/
import Derived.Test.YtgbbgfjamneioaaDoorXElemToTake
import Derived.Test.YtgbbgfjamneioaaDoorXBaseToBts
import Derived.Deep.RegionHeld3
import Derived.WalkSpells
import Derived.Test.YtgbbgfjamneioaaDoorXCloneToFindIt
import Derived.Test.YtgbbgfjamneioaaDoorXMoreToNextS
import Derived.Maps.AppendAt
import Derived.Test.YtgbbgfjamneioaaDoorXSpansToEach
import Derived.Deep.QuietTactic
import Derived.BigQuiet
namespace Go.Proofs.YtgbbgfjamneioaaDoor
open Go.RowKit Go.IntWalk

/-- Tag, content and the error's number where bytes are to be just one element. -/
def oneS (xs : List Int) : Int × List Int × Int :=
  if (findS xs).2.2.2 ≠ 0 then (0, [], (findS xs).2.2.2)
  else if (findS xs).2.2.1 < (xs.length : Int) then (0, [], 13)
  else ((findS xs).1, contS xs, 0)

set_option maxRecDepth 100000 in
set_option maxHeartbeats 2000000 in
theorem one_any (ao : Option Addr) (n cap : Nat) (xs : List Int) (w : World) (hs : Src w ao n cap xs) (hN : (n : Int) ≤ 140737488355328) :
    Calls Tryd.prog 40 #[.slice ao n cap] w fun e w' => ∃ ao' m c',
      e = .returned (.tuple #[.agg #[.int .i64 (oneS xs).1, .slice ao' m c'], .int .i64 (oneS xs).2.2]) ∧ OwnB w' w.heap.size (.slice ao' m c') (oneS xs).2.1 ∧ Below w.heap.size w w' := by
  have hl := hs.hlen
  rcases findS_cases xs hs.hbyt with ⟨err, h1, h2, h3, he⟩ | ⟨l, h, he, h1, h2, h3, h4, h5⟩
  · have ho : oneS xs = (0, [], err) := by unfold oneS; rw [he, if_pos h1]
    have HE := hide he
    have HO := hide ho
    have h1' : (err != 0) = true := by simpa using h1
    clear he ho h1 hl
    go_enter Tryd.func40, Tryd.ntmps40
    go_wp2_with (go_at_call 62; refine (find_any _ _ _ xs _ (by exact hs.alloc _) hN).mono ?_; rintro e w1 ⟨rfl, hb1⟩; rw [HE.out]; unfold spanV; obtain ⟨hc, hf⟩ := bcell hb1; have hz : w.heap.size < w1.heap.size := by (have := hb1.size; simp at this; omega))
    refine bodyPost_ret (v := .tuple #[.agg #[.int .i64 0, .slice none 0 0], .int .i64 err]) (by simp [results, Tryd.results40, go_sem, hc, hz]) rfl ⟨none, 0, 0, by rw [HO.out], by rw [HO.out]; exact OwnB.nil _ _, ?_⟩
    exact (((((Below.refl _ _).alloc (Nat.le_refl _) _).trans (hb1.mono (by simp))).setCell (by simp) _).setCell (by simp) _).alloc (by simp; omega) _
  · have hcs : contS xs = (xs.take h).drop l := by unfold contS; rw [he]; simp
    rw [hl] at h4
    generalize xs.getD 0 0 = t at he
    by_cases h6 : h < n
    · have ho : oneS xs = (0, [], 13) := by unfold oneS; rw [he, hl, if_neg (by simp), if_pos (by simp only []; omega)]
      have HE := hide he
      have HO := hide ho
      clear he ho hcs hl
      go_enter Tryd.func40, Tryd.ntmps40
      go_wp2_with (go_at_call 62; refine (find_any _ _ _ xs _ (by exact hs.alloc _) hN).mono ?_; rintro e w1 ⟨rfl, hb1⟩; rw [HE.out]; unfold spanV; obtain ⟨hc, hf⟩ := bcell hb1; have hz : w.heap.size < w1.heap.size := by (have := hb1.size; simp at this; omega))
      refine bodyPost_ret (v := .tuple #[.agg #[.int .i64 0, .slice none 0 0], .int .i64 13]) (by simp [results, Tryd.results40, go_sem, hc, hz]) rfl ⟨none, 0, 0, by rw [HO.out], by rw [HO.out]; exact OwnB.nil _ _, ?_⟩
      exact (((((Below.refl _ _).alloc (Nat.le_refl _) _).trans (hb1.mono (by simp))).setCell (by simp) _).setCell (by simp) _).alloc (by simp; omega) _
    · have ho : oneS xs = (t, (xs.take h).drop l, 0) := by unfold oneS; rw [he, hl, if_neg (by simp), if_neg (by simp only []; omega), hcs]
      have HE := hide he
      have HO := hide ho
      clear he ho hcs hl
      go_enter Tryd.func40, Tryd.ntmps40
      go_wp2_with (first | (go_at_call 62; refine (find_any _ _ _ xs _ (by exact hs.alloc _) hN).mono ?_; rintro e w1 ⟨rfl, hb1⟩; rw [HE.out]; unfold spanV; obtain ⟨hc, hf⟩ := bcell hb1; have hz : w.heap.size < w1.heap.size := (by have := hb1.size; simp at this; omega); have i0 : w1.cell? ⟨w.heap.size, 0, none⟩ = some (.int .i64 0) := (by rw [hc _ _ (by simp)]; simp); have i1 : w1.cell? ⟨w.heap.size, 1, none⟩ = some (.slice none 0 0) := (by rw [hc _ _ (by simp)]; simp)) | (go_at_call 63; refine (element_any _ l h _ _ _ xs _ (by exact ((hs.alloc _).below hb1).alloc _) hN h3 h4).mono ?_; rintro e w2 ⟨ao', c', rfl, hv, hb2⟩; obtain ⟨hc2, hf2⟩ := bcell hb2; have j0 : w2.cell? ⟨w.heap.size, 0, none⟩ = some (.int .i64 0) := (hc2 _ _ (by simp; omega)).trans ((World.cell?_alloc_lt _ _ _ hz).trans i0); have j1 : w2.cell? ⟨w.heap.size, 1, none⟩ = some (.slice none 0 0) := (hc2 _ _ (by simp; omega)).trans ((World.cell?_alloc_lt _ _ _ hz).trans i1); have hz2 : w1.heap.size < w2.heap.size := (by have := hb2.size; simp at this; omega)))
      refine bodyPost_ret (v := .tuple #[.agg #[.int .i64 t, .slice ao' (h - l) c'], .int .i64 0]) (by simp [results, Tryd.results40, go_sem, j0, j1]) rfl ⟨ao', h - l, c', by rw [HO.out], ?_, ?_⟩
      · rw [HO.out]
        exact ((hv.setBelow (by simp; omega) _).setBelow (by simp; omega) _).rebase (by simp; omega)
      · exact ((((((Below.refl _ _).alloc (Nat.le_refl _) _).trans (hb1.mono (by simp))).alloc (by omega) _).trans (hb2.mono (by simp; omega))).setCell (by simp) _).setCell (by simp) _

end Go.Proofs.YtgbbgfjamneioaaDoor

namespace Go.Proofs.YtgbbgfjamneioaaDoor
open Go.RowKit

theorem run_appB (w : World) (ty : TypeId) (base : Nat) (v : Value) (xs : List Int) (hown : OwnB w base v xs)
    (ao : Option Addr) (m c : Nat) (ys : List Int) (hsrc : Src w ao m c ys) (hb : xs.length + m ≤ 140737488355328) (hbase : base ≤ w.heap.size) :
    ∃ v' w', (Builtin.append_ #[25, 25] ty #[v, .slice ao m c]).run Tryd.prog w = .ok v' w' ∧ OwnB w' base v' (xs ++ ys) ∧ w.grownBy w' v.ownBlock ∧ (v ≠ .slice none 0 0 → v' ≠ .slice none 0 0) := by
  obtain ⟨i0, hi, hz0, hz1, hz2⟩ := info_parts Tryd.infoB
  obtain ⟨hlen, hcap, hmax, hnil, hrd, hbyt⟩ := hsrc
  cases ao with
  | none =>
    obtain ⟨rfl, rfl⟩ := hnil rfl
    obtain rfl : ys = [] := List.eq_nil_of_length_eq_zero hlen
    exact ⟨v, w, run_append_owned_none (P := Tryd.prog) w base 25 ty 5 i0 1 Tryd.underlying25 hi v _ _ hown, by simpa using hown, ⟨rfl, rfl, rfl, Nat.le_refl _, fun _ _ _ => rfl⟩, fun h => h⟩
  | some ad =>
    obtain ⟨v', w', h1, h2, h3, h4⟩ := run_append_own (P := Tryd.prog) w base 25 ty 5 i0 (.int .u8 0) 1 1 Tryd.underlying25 hi hz0 hz1 hz2 rfl (by decide) v _ _ hown ad m c (ys.map (Value.int .u8)) (by simpa using hlen)
      (by
        intro j u hj
        have hjl : j < ys.length := by
          rcases Nat.lt_or_ge j ys.length with h | h
          · exact h
          · simp [List.getElem?_eq_none (show (ys.map (Value.int .u8)).length ≤ j by simpa using h)] at hj
        obtain ⟨b, off, he, hc⟩ := hrd (by intro h; simp [h] at hjl)
        cases he
        rw [add_none, hc j hjl]
        simp [List.getElem?_eq_getElem hjl] at hj
        subst hj
        simp [List.getD, List.getElem?_eq_getElem hjl])
      (ints_one _ _) (by unfold maxLen; omega) (by omega) hbase
    refine ⟨v', w', h1, ?_, h3, fun hv hv' => hv (h4.1 hv').1⟩
    unfold OwnB
    have e1 : (xs ++ ys).length = xs.length + m := by simp [hlen]
    rw [e1]
    simpa using h2

theorem run_appN (w : World) (ty : TypeId) (base : Nat) (v : Value) (xs : List Int) (hown : OwnB w base v xs)
    (ao : Option Addr) (m c : Nat) (ys : List Int) (hsrc : Src w ao m c ys)
    (t : Nat) (ht : (xs ++ ys).length = t) (hne : v ≠ .slice none 0 0 ∨ ys ≠ []) (hb : t ≤ 140737488355328) (hbase : base ≤ w.heap.size) :
    ∃ g c' w', (Builtin.append_ #[25, 25] ty #[v, .slice ao m c]).run Tryd.prog w = .ok (.slice (some ⟨g, 0, none⟩) t c') w' ∧ OwnB w' base (.slice (some ⟨g, 0, none⟩) t c') (xs ++ ys) ∧
      base ≤ g ∧ g < w'.heap.size ∧ t ≤ c' ∧ c' ≤ maxLen ∧ w.grownBy w' v.ownBlock := by
  have ht' : xs.length + m = t := by rw [← ht, List.length_append, hsrc.hlen]
  obtain ⟨v', w', h1, h2, h3, h4⟩ := run_appB w ty base v xs hown ao m c ys hsrc (by omega) hbase
  rcases h2.split with ⟨hv, hx'⟩ | ⟨g, c', hv, hb', hl', hc', hm'⟩
  · rcases hne with hne | hne
    · exact absurd hv (h4 hne)
    · simp at hx'; exact absurd hx'.2 hne
  · rw [ht] at hv hc'
    subst hv
    exact ⟨g, c', w', h1, h2, hb', hl', hc', hm', h3⟩

/-- The same where what comes of it may be nil. -/
theorem step_appS {ops : Array Oper} {o : Oper} {a : Act} {K : Act → World → Prop} {Q : Exit → Act → World → Prop} {E : Prop} (w : World) (hgd : o.guard = none) (s x : Operand)
    (ho : o.op = .call { callee := .builtin .append, args := #[s, x], argTypes := #[25, 25] })
    (base : Nat) (v : Value) (xs : List Int) (hs : a.eval s = v) (hown : OwnB w base v xs)
    (ao : Option Addr) (m c : Nat) (ys : List Int) (hx : a.eval x = .slice ao m c) (hsrc : Src w ao m c ys)
    (t : Nat) (ht : (xs ++ ys).length = t) (hb : t ≤ 140737488355328) (hbase : base ≤ w.heap.size)
    (hK : ∀ ad c' w', OwnB w' base (.slice ad t c') (xs ++ ys) → w.grownBy w' v.ownBlock → K (a.put o.dst (.slice ad t c')) w') :
    if Region.wanted o (yielded ops a.tmps) = true then Oper.wp Tryd.prog o a w K Q else E := by
  have hw : Region.wanted o (yielded ops a.tmps) = true := by simp [Region.wanted, hgd]
  rw [if_pos hw]
  have ht' : xs.length + m = t := by rw [← ht, List.length_append, hsrc.hlen]
  obtain ⟨v', w', hrun, h2, h3, h4⟩ := run_appB w o.type base v xs hown ao m c ys hsrc (by omega) hbase
  have hshape : ∃ ad c', v' = .slice ad t c' := by
    rcases h2.split with ⟨hv, hx'⟩ | ⟨g, c', hv, _⟩
    · rw [hx'] at ht
      simp at ht
      exact ⟨none, 0, by rw [hv, ← ht]⟩
    · exact ⟨some ⟨g, 0, none⟩, c', by rw [hv, ht]⟩
  obtain ⟨ad, c', rfl⟩ := hshape
  unfold Oper.wp
  simp [execOp, ho, resolve, invoke, builtin, hs, hx, hrun, Result.andThen]
  exact hK ad c' w' h2 h3

theorem step_appN {ops : Array Oper} {o : Oper} {a : Act} {K : Act → World → Prop} {Q : Exit → Act → World → Prop} {E : Prop} (w : World) (hgd : o.guard = none) (s x : Operand)
    (ho : o.op = .call { callee := .builtin .append, args := #[s, x], argTypes := #[25, 25] })
    (base : Nat) (v : Value) (xs : List Int) (hs : a.eval s = v) (hown : OwnB w base v xs)
    (ao : Option Addr) (m c : Nat) (ys : List Int) (hx : a.eval x = .slice ao m c) (hsrc : Src w ao m c ys)
    (t : Nat) (ht : (xs ++ ys).length = t) (hne : v ≠ .slice none 0 0 ∨ ys ≠ []) (hb : t ≤ 140737488355328) (hbase : base ≤ w.heap.size)
    (hK : ∀ g c' w', OwnB w' base (.slice (some ⟨g, 0, none⟩) t c') (xs ++ ys) → base ≤ g → g < w'.heap.size → t ≤ c' → c' ≤ maxLen → w.grownBy w' v.ownBlock → K (a.put o.dst (.slice (some ⟨g, 0, none⟩) t c')) w') :
    if Region.wanted o (yielded ops a.tmps) = true then Oper.wp Tryd.prog o a w K Q else E := by
  have hw : Region.wanted o (yielded ops a.tmps) = true := by simp [Region.wanted, hgd]
  rw [if_pos hw]
  obtain ⟨g, c', w', hrun, h1, h2, h3, h4, h5, h6⟩ := run_appN w o.type base v xs hown ao m c ys hsrc t ht hne hb hbase
  unfold Oper.wp
  simp [execOp, ho, resolve, invoke, builtin, hs, hx, hrun, Result.andThen]
  exact hK g c' w' h1 h2 h3 h4 h5 h6

end Go.Proofs.YtgbbgfjamneioaaDoor

namespace Go.Proofs.YtgbbgfjamneioaaDoor
open Go.RowKit Go.IntWalk

end Go.Proofs.YtgbbgfjamneioaaDoor

namespace Go.Proofs.YtgbbgfjamneioaaDoor
open Go.RowKit Go.IntWalk

theorem tl_cases (xs : List Int) (hb : ∀ x ∈ xs, 0 ≤ x ∧ x < 256) (h2 : 2 ≤ xs.length) :
    (xs.getD 1 0 ≤ 127 ∧ takeLenS (xs.drop 1) = (xs.getD 1 0, 1, 0)) ∨
    ((xs.getD 1 0 = 128 ∨ 131 < xs.getD 1 0) ∧ takeLenS (xs.drop 1) = (0, 0, 12)) ∨
    ∃ k : Nat, xs.getD 1 0 = 128 + (k : Int) ∧ 1 ≤ k ∧ k ≤ 3 ∧
      ((2 < xs.length ∧ xs.getD 2 0 = 0 ∧ takeLenS (xs.drop 1) = (0, 0, 12)) ∨
       ((2 < xs.length → xs.getD 2 0 ≠ 0) ∧ xs.length < 2 + k ∧ takeLenS (xs.drop 1) = (0, 0, 10)) ∨
       (2 < xs.length ∧ xs.getD 2 0 ≠ 0 ∧ 2 + k ≤ xs.length ∧ takeLenS (xs.drop 1) = if numOf ((xs.drop 2).take k) ≤ 127 then (0, 0, 12) else (numOf ((xs.drop 2).take k), 1 + (k : Int), 0))) := by
  have g0 : (xs.drop 1).getD 0 0 = xs.getD 1 0 := by simp [List.getD]
  have g1 : (xs.drop 1).getD 1 0 = xs.getD 2 0 := by simp [List.getD]
  have gl : (xs.drop 1).length = xs.length - 1 := by simp
  have gd : (xs.drop 1).drop 1 = xs.drop 2 := by simp
  have hf := hb (xs.getD 1 0) (by simp [List.getD, List.getElem?_eq_getElem (show 1 < xs.length by omega)])
  unfold takeLenS
  rw [g0, g1, gl, gd]
  generalize xs.getD 1 0 = f at *
  by_cases h3 : f ≤ 127
  · rw [if_pos h3]; exact .inl ⟨h3, rfl⟩
  · rw [if_neg h3]
    by_cases h4 : f = 128 ∨ 131 < f
    · rw [if_pos h4]; exact .inr (.inl ⟨h4, rfl⟩)
    · rw [if_neg h4]
      refine .inr (.inr ⟨(f - 128).toNat, by omega, by omega, by omega, ?_⟩)
      by_cases h5 : 1 < xs.length - 1 ∧ xs.getD 2 0 = 0
      · rw [if_pos h5]; exact .inl ⟨by omega, h5.2, rfl⟩
      · rw [if_neg h5]
        by_cases h6 : ((xs.length - 1 : Nat) : Int) < 1 + (f - 128)
        · rw [if_pos h6]; exact .inr (.inl ⟨fun h => by intro h'; exact h5 ⟨by omega, h'⟩, by omega, rfl⟩)
        · rw [if_neg h6]
          refine .inr (.inr ⟨by omega, fun h' => h5 ⟨by omega, h'⟩, by omega, ?_⟩)
          by_cases h7 : numOf ((xs.drop 2).take (f - 128).toNat) ≤ 127
          · rw [if_pos h7, if_pos h7]
          · rw [if_neg h7, if_neg h7, Int.toNat_of_nonneg (by omega)]

theorem ne_own {b n : Nat} (h : b < n) {l c : Nat} : some b ≠ (Value.slice (some ⟨n + 1, 0, none⟩) l c).ownBlock := by
  simp [Value.ownBlock]; omega
theorem ne_own2 (n : Nat) {l c : Nat} : some n ≠ (Value.slice (some ⟨n + 1, 0, none⟩) l c).ownBlock := by
  simp [Value.ownBlock]
theorem grown_frozen {w w1 : World} {r : Option Nat} (h : w.grownBy w1 r) (b : Nat) (hb : b < w.heap.size) (hr : some b ≠ r) : ∀ o, w1.frozen? ⟨b, o, none⟩ = w.frozen? ⟨b, o, none⟩ :=
  fun _ => World.frozen?_of_block (h.block b hb hr)
theorem cell?_alloc_lt2 {w : World} {b off : Nat} {v : Value} {o o' : Obj} (hb : b < w.heap.size) (hc : w.cell? ⟨b, off, none⟩ = some v) : ((w.alloc o).alloc o').cell? ⟨b, off, none⟩ = some v :=
  (World.cell?_alloc_lt _ _ _ (by simp; omega)).trans ((World.cell?_alloc_lt _ _ _ hb).trans hc)

end Go.Proofs.YtgbbgfjamneioaaDoor

namespace Go.Proofs.YtgbbgfjamneioaaDoor
open Go.RowKit Go.IntWalk

theorem contS_byte (xs : List Int) (hb : ∀ x ∈ xs, 0 ≤ x ∧ x < 256) : ∀ x ∈ contS xs, 0 ≤ x ∧ x < 256 := fun x hx => hb x (List.mem_of_mem_take (List.mem_of_mem_drop hx))

theorem oneS_byte (xs : List Int) (hb : ∀ x ∈ xs, 0 ≤ x ∧ x < 256) : ∀ x ∈ (oneS xs).2.1, 0 ≤ x ∧ x < 256 := by
  intro x hx
  unfold oneS at hx
  split at hx
  · simp at hx
  · split at hx
    · simp at hx
    · exact contS_byte xs hb x hx

end Go.Proofs.YtgbbgfjamneioaaDoor

namespace Go.Proofs.YtgbbgfjamneioaaDoor
open Go.RowKit Go.IntWalk

theorem Tryd.infoR : (Tryd.prog.info? 85).map (fun i => (i.zero, i.size, i.bytes)) = some (some (.agg #[.int .i64 0, .slice none 0 0]), 2, 32) := by kernel_rfl

/-- The block of a row is of the row's type. -/
theorem row_type {W : World} {base : Nat} {e : TypeId} {size : Nat} {v : Value} {k : Nat} {xs : List Value} (h : W.ownsRow base e size v k xs) : ∀ r, v.ownBlock = some r → ∃ c, W.heap[r]? = some (Obj.cells c e (0, 0)) := by
  intro r hr
  obtain ⟨hl, ⟨rfl, _⟩ | ⟨g, cap, cur, rfl, hb, hh, rest⟩⟩ := h
  · simp [Value.ownBlock] at hr
  · simp [Value.ownBlock] at hr
    subst hr
    exact ⟨cur, hh⟩

/-- A row of another type stays while one grows. -/
theorem row_apart {W W' : World} {base base' : Nat} {e e' : TypeId} {size size' : Nat} {v v' : Value} {k k' : Nat} {xs xs' : List Value} (h : W.ownsRow base e size v k xs) (h' : W.ownsRow base' e' size' v' k' xs') (hne : e ≠ e') (hg : W.grownBy W' v'.ownBlock) : W'.ownsRow base e size v k xs :=
  row_kept h hg (fun r hr c hc => by
    obtain ⟨c', h2⟩ := row_type h' r hr
    rw [hc] at h2
    cases h2
    exact hne rfl)

theorem row_below {W W' : World} {base : Nat} {e : TypeId} {size : Nat} {v : Value} {k : Nat} {xs : List Value} (h : W.ownsRow base e size v k xs) (hb : Below W.heap.size W W') : W'.ownsRow base e size v k xs :=
  row_kept h (grown_of_below (r := none) hb) (by intro r e; cases e)

/-- Why no element stands behind them. -/
def rowErr (xs : List Int) : Int := if endS xs (placesS xs 0) < xs.length then (findS (xs.drop (endS xs (placesS xs 0)))).2.2.2 else 0

structure RowSt (w : World) (base : Nat) (L P : Value) (xs : List Int) (ps : List Nat) (cs : List Value) : Prop where
  hl : w.ownsRow base 85 2 L ps.length cs
  hm : EMatch w base cs (ps.map (elS xs))
  hp : OwnI w base P (ps.map fun p : Nat => (p : Int))

theorem RowSt.below {w w' : World} {base : Nat} {L P : Value} {xs : List Int} {ps : List Nat} {cs : List Value} (h : RowSt w base L P xs ps cs) (hb : Below w.heap.size w w') : RowSt w' base L P xs ps cs :=
  ⟨row_below h.hl hb, h.hm.kept (fun _ _ h => row_below h hb), row_below h.hp hb⟩

theorem RowSt.first {w3 W4 w4 : World} {base base' : Nat} {L P L' : Value} {xs : List Int} {ps : List Nat} {cs : List Value} {k : Nat} (St : RowSt w3 base L P xs ps cs) {ao : Option Addr} {m c : Nat} {ys : List Int} (hO : OwnB w3 base' (.slice ao m c) ys) (hbb : base ≤ base') (B : Below w3.heap.size w3 W4)
    (hg : W4.grownBy w4 L.ownBlock) (t : Int) (p : Nat) (hel : elS xs p = (t, ys)) (ho : w4.ownsRow base 85 2 L' (k + 1) (cs ++ [.int .i64 t, .slice ao m c])) (hk : (ps ++ [p]).length = k + 1) :
    w4.ownsRow base 85 2 L' (ps ++ [p]).length (cs ++ [.int .i64 t, .slice ao m c]) ∧ EMatch w4 base (cs ++ [.int .i64 t, .slice ao m c]) ((ps ++ [p]).map (elS xs)) ∧ OwnI w4 base P (ps.map fun p : Nat => (p : Int)) := by
  have hl := row_below St.hl B
  refine ⟨by rw [hk]; exact ho, ?_, row_apart (row_below St.hp B) hl (by decide) hg⟩
  have h1 : EMatch w4 base cs (ps.map (elS xs)) := St.hm.kept (fun _ _ h => row_apart (row_below h B) hl (by decide) hg)
  have h2 : OwnB w4 base (.slice ao m c) ys := row_apart (row_below (hO.rebase hbb) B) hl (by decide) hg
  rw [List.map_append, List.map_cons, List.map_nil, hel]
  exact EMatch.snoc h2 h1

theorem RowSt.second {w4 W5 w5 : World} {base : Nat} {L P P' : Value} {xs : List Int} {ps ps' : List Nat} {cs : List Value} (hl : w4.ownsRow base 85 2 L ps'.length cs) (hm : EMatch w4 base cs (ps'.map (elS xs))) (hp : OwnI w4 base P (ps.map fun p : Nat => (p : Int))) (B : Below w4.heap.size w4 W5)
    (hg : W5.grownBy w5 P.ownBlock) (ho : OwnI w5 base P' (ps'.map fun p : Nat => (p : Int))) : RowSt w5 base L P' xs ps' cs := by
  have hp' := row_below hp B
  exact ⟨row_apart (row_below hl B) hp' (by decide) hg, hm.kept (fun _ _ h => row_apart (row_below h B) hp' (by decide) hg), ho⟩

end Go.Proofs.YtgbbgfjamneioaaDoor

namespace Go.Proofs.YtgbbgfjamneioaaDoor
open Go.RowKit Go.IntWalk

end Go.Proofs.YtgbbgfjamneioaaDoor
