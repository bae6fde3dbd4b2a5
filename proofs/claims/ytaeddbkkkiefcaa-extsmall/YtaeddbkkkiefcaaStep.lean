/-
  'append' of bytes to a row of the call's own, as one step of a region that draws its order.
-/
import Derived.Test.YtaeddbkkkiefcaaBts
import Derived.Deep.RegionHeld3
import Derived.WalkSpells
namespace Go.Proofs.Ytaeddbkkkiefcaa
open Go.RowKit

theorem run_appB (w : World) (ty : TypeId) (base : Nat) (v : Value) (xs : List Int) (hown : OwnB w base v xs)
    (ao : Option Addr) (m c : Nat) (ys : List Int) (hsrc : Src w ao m c ys) (hb : xs.length + m ≤ 140737488355328) (hbase : base ≤ w.heap.size) :
    ∃ v' w', (Builtin.append_ #[27, 27] ty #[v, .slice ao m c]).run Try.prog w = .ok v' w' ∧ OwnB w' base v' (xs ++ ys) ∧ w.grownBy w' v.ownBlock ∧ (v ≠ .slice none 0 0 → v' ≠ .slice none 0 0) := by
  obtain ⟨i0, hi, hz0, hz1, hz2⟩ := info_parts Try.infoB
  obtain ⟨hlen, hcap, hmax, hnil, hrd, hbyt⟩ := hsrc
  cases ao with
  | none =>
    obtain ⟨rfl, rfl⟩ := hnil rfl
    obtain rfl : ys = [] := List.eq_nil_of_length_eq_zero hlen
    exact ⟨v, w, run_append_owned_none (P := Try.prog) w base 27 ty 5 i0 1 Try.underlying27 hi v _ _ hown, by simpa using hown, ⟨rfl, rfl, rfl, Nat.le_refl _, fun _ _ _ => rfl⟩, fun h => h⟩
  | some ad =>
    obtain ⟨v', w', h1, h2, h3, h4⟩ := run_append_own (P := Try.prog) w base 27 ty 5 i0 (.int .u8 0) 1 1 Try.underlying27 hi hz0 hz1 hz2 rfl (by decide) v _ _ hown ad m c (ys.map (Value.int .u8)) (by simpa using hlen)
      (by
        intro j u hj
        have hjl : j < ys.length := by
          rcases Nat.lt_or_ge j ys.length with h | h
          · exact h
          · simp [List.getElem?_eq_none (show (ys.map (Value.int .u8)).length ≤ j by simpa using h)] at hj
        obtain ⟨b, off, he, hc⟩ := hrd (by intro h; simp [h] at hjl)
        cases he
        rw [add_none, hc j hjl]
        simp [List.getElem?_eq_getElem hjl] at hj
        subst hj
        simp [List.getD, List.getElem?_eq_getElem hjl])
      (ints_one _ _) (by unfold maxLen; omega) (by omega) hbase
    refine ⟨v', w', h1, ?_, h3, fun hv hv' => hv (h4.1 hv').1⟩
    unfold OwnB
    have e1 : (xs ++ ys).length = xs.length + m := by simp [hlen]
    rw [e1]
    simpa using h2

theorem run_appN (w : World) (ty : TypeId) (base : Nat) (v : Value) (xs : List Int) (hown : OwnB w base v xs)
    (ao : Option Addr) (m c : Nat) (ys : List Int) (hsrc : Src w ao m c ys)
    (t : Nat) (ht : (xs ++ ys).length = t) (hne : v ≠ .slice none 0 0 ∨ ys ≠ []) (hb : t ≤ 140737488355328) (hbase : base ≤ w.heap.size) :
    ∃ g c' w', (Builtin.append_ #[27, 27] ty #[v, .slice ao m c]).run Try.prog w = .ok (.slice (some ⟨g, 0, none⟩) t c') w' ∧ OwnB w' base (.slice (some ⟨g, 0, none⟩) t c') (xs ++ ys) ∧
      base ≤ g ∧ g < w'.heap.size ∧ t ≤ c' ∧ c' ≤ maxLen ∧ w.grownBy w' v.ownBlock := by
  have ht' : xs.length + m = t := by rw [← ht, List.length_append, hsrc.hlen]
  obtain ⟨v', w', h1, h2, h3, h4⟩ := run_appB w ty base v xs hown ao m c ys hsrc (by omega) hbase
  rcases h2.split with ⟨hv, hx'⟩ | ⟨g, c', hv, hb', hl', hc', hm'⟩
  · rcases hne with hne | hne
    · exact absurd hv (h4 hne)
    · simp at hx'; exact absurd hx'.2 hne
  · rw [ht] at hv hc'
    subst hv
    exact ⟨g, c', w', h1, h2, hb', hl', hc', hm', h3⟩

/-- The same where what comes of it may be nil. -/
theorem step_appS {ops : Array Oper} {o : Oper} {a : Act} {K : Act → World → Prop} {Q : Exit → Act → World → Prop} {E : Prop} (w : World) (hgd : o.guard = none) (s x : Operand)
    (ho : o.op = .call { callee := .builtin .append, args := #[s, x], argTypes := #[27, 27] })
    (base : Nat) (v : Value) (xs : List Int) (hs : a.eval s = v) (hown : OwnB w base v xs)
    (ao : Option Addr) (m c : Nat) (ys : List Int) (hx : a.eval x = .slice ao m c) (hsrc : Src w ao m c ys)
    (t : Nat) (ht : (xs ++ ys).length = t) (hb : t ≤ 140737488355328) (hbase : base ≤ w.heap.size)
    (hK : ∀ ad c' w', OwnB w' base (.slice ad t c') (xs ++ ys) → w.grownBy w' v.ownBlock → K (a.put o.dst (.slice ad t c')) w') :
    if Region.wanted o (yielded ops a.tmps) = true then Oper.wp Try.prog o a w K Q else E := by
  have hw : Region.wanted o (yielded ops a.tmps) = true := by simp [Region.wanted, hgd]
  rw [if_pos hw]
  have ht' : xs.length + m = t := by rw [← ht, List.length_append, hsrc.hlen]
  obtain ⟨v', w', hrun, h2, h3, h4⟩ := run_appB w o.type base v xs hown ao m c ys hsrc (by omega) hbase
  have hshape : ∃ ad c', v' = .slice ad t c' := by
    rcases h2.split with ⟨hv, hx'⟩ | ⟨g, c', hv, _⟩
    · rw [hx'] at ht
      simp at ht
      exact ⟨none, 0, by rw [hv, ← ht]⟩
    · exact ⟨some ⟨g, 0, none⟩, c', by rw [hv, ht]⟩
  obtain ⟨ad, c', rfl⟩ := hshape
  unfold Oper.wp
  simp [execOp, ho, resolve, invoke, builtin, hs, hx, hrun, Result.andThen]
  exact hK ad c' w' h2 h3

theorem step_appN {ops : Array Oper} {o : Oper} {a : Act} {K : Act → World → Prop} {Q : Exit → Act → World → Prop} {E : Prop} (w : World) (hgd : o.guard = none) (s x : Operand)
    (ho : o.op = .call { callee := .builtin .append, args := #[s, x], argTypes := #[27, 27] })
    (base : Nat) (v : Value) (xs : List Int) (hs : a.eval s = v) (hown : OwnB w base v xs)
    (ao : Option Addr) (m c : Nat) (ys : List Int) (hx : a.eval x = .slice ao m c) (hsrc : Src w ao m c ys)
    (t : Nat) (ht : (xs ++ ys).length = t) (hne : v ≠ .slice none 0 0 ∨ ys ≠ []) (hb : t ≤ 140737488355328) (hbase : base ≤ w.heap.size)
    (hK : ∀ g c' w', OwnB w' base (.slice (some ⟨g, 0, none⟩) t c') (xs ++ ys) → base ≤ g → g < w'.heap.size → t ≤ c' → c' ≤ maxLen → w.grownBy w' v.ownBlock → K (a.put o.dst (.slice (some ⟨g, 0, none⟩) t c')) w') :
    if Region.wanted o (yielded ops a.tmps) = true then Oper.wp Try.prog o a w K Q else E := by
  have hw : Region.wanted o (yielded ops a.tmps) = true := by simp [Region.wanted, hgd]
  rw [if_pos hw]
  obtain ⟨g, c', w', hrun, h1, h2, h3, h4, h5, h6⟩ := run_appN w o.type base v xs hown ao m c ys hsrc t ht hne hb hbase
  unfold Oper.wp
  simp [execOp, ho, resolve, invoke, builtin, hs, hx, hrun, Result.andThen]
  exact hK g c' w' h1 h2 h3 h4 h5 h6

end Go.Proofs.Ytaeddbkkkiefcaa
