/-
  'append' of digits to a row of the call's own, as one step of a region that draws its order.
-/
import Derived.Test.YtgajejomibnghaaDoorSaRWd
import Derived.WalkSpells
namespace Go.Proofs.YtgajejomibnghaaDoor
open Go.RowKit Go.IntWalk

theorem run_appG {κ : IntKind} {B : Int} {T sT : TypeId} (by8 : Nat) (hu : Tryd.prog.underlying sT = some (.slice T)) (hinfo : (Tryd.prog.info? T).map (fun i => (i.zero, i.size, i.bytes)) = some (some (.int κ 0), 1, by8)) (w : World) (ty : TypeId) (base : Nat) (v : Value) (xs : List Int) (hown : OwnG κ T w base v xs)
    (ad : Addr) (m c : Nat) (ys : List Int) (hsrc : SrcG κ B w (some ad) m c ys) (t : Nat) (ht : (xs ++ ys).length = t) (hne : ys ≠ []) (hb : t * by8 ≤ 140737488355328) (hb2 : t ≤ 140737488355328) (hbase : base ≤ w.heap.size) :
    ∃ g c' w', (Builtin.append_ #[sT, sT] ty #[v, .slice (some ad) m c]).run Tryd.prog w = .ok (.slice (some ⟨g, 0, none⟩) t c') w' ∧ OwnG κ T w' base (.slice (some ⟨g, 0, none⟩) t c') (xs ++ ys) ∧
      base ≤ g ∧ g < w'.heap.size ∧ t ≤ c' ∧ c' ≤ maxLen ∧ w.grownBy w' v.ownBlock := by
  obtain ⟨i0, hi, hz0, hz1, hz2⟩ := info_parts hinfo
  obtain ⟨hlen, hcap, hmax, hnil, hrd, hdg⟩ := hsrc
  have ht' : xs.length + m = t := by rw [← ht, List.length_append, hlen]
  obtain ⟨v', w', h1, h2, h3, h4⟩ := run_append_own (P := Tryd.prog) w base sT ty T i0 (.int κ 0) 1 by8 hu hi hz0 hz1 hz2 rfl (by decide) v _ _ hown ad m c (ys.map (Value.int κ)) (by simpa using hlen)
    (by
      intro j u hj
      have hjl : j < ys.length := by
        rcases Nat.lt_or_ge j ys.length with h | h
        · exact h
        · simp [List.getElem?_eq_none (show (ys.map (Value.int κ)).length ≤ j by simpa using h)] at hj
      obtain ⟨b, off, he, hc⟩ := hrd (by intro h; simp [h] at hjl)
      cases he
      rw [addNone, hc j hjl]
      simp [List.getElem?_eq_getElem hjl] at hj
      subst hj
      simp [List.getD, List.getElem?_eq_getElem hjl])
    (ints_one _ _) (by unfold maxLen; omega) (by rw [ht']; exact hb) hbase
  have h2' : OwnG κ T w' base v' (xs ++ ys) := by
    unfold OwnG
    have e1 : (xs ++ ys).length = xs.length + m := by simp [hlen]
    rw [e1]
    simpa using h2
  rcases h2'.split with ⟨hv, hx'⟩ | ⟨g, c', hv, hb', hl', hc', hm'⟩
  · simp at hx'; exact absurd hx'.2 hne
  · rw [ht] at hv hc'
    subst hv
    exact ⟨g, c', w', h1, h2', hb', hl', hc', hm', h3⟩

/-- What the old row held stays where it was. -/
theorem run_appG_old {κ : IntKind} {B : Int} {T sT : TypeId} (by8 : Nat) (hu : Tryd.prog.underlying sT = some (.slice T)) (hinfo : (Tryd.prog.info? T).map (fun i => (i.zero, i.size, i.bytes)) = some (some (.int κ 0), 1, by8)) (w : World) (ty : TypeId) (base g0 n0 c0 : Nat) (xs : List Int) (hown : OwnG κ T w base (.slice (some ⟨g0, 0, none⟩) n0 c0) xs)
    (ad : Addr) (m c : Nat) (ys : List Int) (hsrc : SrcG κ B w (some ad) m c ys) (t : Nat) (ht : (xs ++ ys).length = t) (hb : t * by8 ≤ 140737488355328) (hb2 : t ≤ 140737488355328)
    (g c' : Nat) (w' : World) (hrun : (Builtin.append_ #[sT, sT] ty #[.slice (some ⟨g0, 0, none⟩) n0 c0, .slice (some ad) m c]).run Tryd.prog w = .ok (.slice (some ⟨g, 0, none⟩) t c') w') (ho : OwnG κ T w' base (.slice (some ⟨g, 0, none⟩) t c') (xs ++ ys)) :
    ∀ i, i < xs.length → w'.cell? ⟨g0, i, none⟩ = some (.int κ (xs.getD i 0)) := by
  intro i hi
  obtain ⟨i0, hi0, hz0, hz1, hz2⟩ := info_parts hinfo
  obtain ⟨hlen, hcap, hmax, hnil, hrd, hdg⟩ := hsrc
  have ht' : xs.length + m = t := by rw [← ht, List.length_append, hlen]
  have hl := hown.eqlen
  subst hl
  have hcells := hown.cell
  have hnews : ∀ j u, (ys.map (Value.int κ))[j]? = some u → w.cell? (ad.add j) = some u := by
    intro j u hj
    have hjl : j < ys.length := by
      rcases Nat.lt_or_ge j ys.length with h | h
      · exact h
      · simp [List.getElem?_eq_none (show (ys.map (Value.int κ)).length ≤ j by simpa using h)] at hj
    obtain ⟨b, off, he, hc⟩ := hrd (by intro h; simp [h] at hjl)
    cases he
    rw [addNone, hc j hjl]
    simp [List.getElem?_eq_getElem hjl] at hj
    subst hj
    simp [List.getD, List.getElem?_eq_getElem hjl]
  have hown' := hown
  obtain ⟨hlen', h⟩ := hown
  rcases h with ⟨h, _⟩ | ⟨g1, cap1, cur, he, hbg, hg, hnc, hcm, hcs, htake⟩
  · simp at h
  · simp only [Value.slice.injEq, Option.some.injEq, Addr.mk.injEq, and_true, true_and] at he
    obtain ⟨rfl, rfl⟩ := he
    rw [Nat.mul_one] at hcs
    by_cases hroom : xs.length + m ≤ c0
    · have hr := run_append_room (P := Tryd.prog) w sT ty T i0 hu hi0 g0 xs.length c0 cur hg ad m c (ys.map (Value.int κ)) (by rw [hz1]; simpa using hlen) hnews (ints_one _ _) hroom (by rw [hz1]; simp; omega)
      rw [hr] at hrun
      simp only [Result.ok.injEq, Value.slice.injEq, Option.some.injEq, Addr.mk.injEq, and_true] at hrun
      obtain ⟨⟨rfl, _⟩, _⟩ := hrun
      rw [ho.cell i (by rw [List.length_append]; omega)]
      simp [List.getD, List.getElem?_append_left hi]
    · obtain ⟨v', w2, hr, r1, r2⟩ := run_append_arg_grows (P := Tryd.prog) w sT ty T i0 (.int κ 0) 1 by8 hu hi0 hz0 hz1 hz2 rfl (by decide) ⟨g0, 0, none⟩ xs.length c0 (xs.map (Value.int κ)) (by simp) (by
        intro j v hv
        have hj : j < xs.length := by have := (List.getElem?_eq_some_iff.1 hv).1; simpa using this
        rw [addNone, Nat.zero_add, hcells j hj]
        simp [List.getElem?_eq_getElem hj] at hv
        subst hv
        simp [List.getD, hj]) ad m c (ys.map (Value.int κ)) (by simpa using hlen) hnews (by omega) (by unfold maxLen; omega) (by rw [ht']; exact hb)
      rw [hr] at hrun
      simp only [Result.ok.injEq] at hrun
      obtain ⟨_, rfl⟩ := hrun
      exact r2.cell (hcells i hi) (by simp)

theorem step_appG {κ : IntKind} {B : Int} {T sT : TypeId} {ops : Array Oper} {o : Oper} {a : Act} {K : Act → World → Prop} {Q : Exit → Act → World → Prop} {E : Prop} (by8 : Nat) (hu : Tryd.prog.underlying sT = some (.slice T)) (hinfo : (Tryd.prog.info? T).map (fun i => (i.zero, i.size, i.bytes)) = some (some (.int κ 0), 1, by8)) (w : World) (hgd : o.guard = none) (s x : Operand)
    (ho : o.op = .call { callee := .builtin .append, args := #[s, x], argTypes := #[sT, sT] })
    (base : Nat) (v : Value) (xs : List Int) (hs : a.eval s = v) (hown : OwnG κ T w base v xs)
    (ad : Addr) (m c : Nat) (ys : List Int) (hx : a.eval x = .slice (some ad) m c) (hsrc : SrcG κ B w (some ad) m c ys)
    (t : Nat) (ht : (xs ++ ys).length = t) (hne : ys ≠ []) (hb : t * by8 ≤ 140737488355328) (hb2 : t ≤ 140737488355328) (hbase : base ≤ w.heap.size)
    (hK : ∀ g c' w', OwnG κ T w' base (.slice (some ⟨g, 0, none⟩) t c') (xs ++ ys) → base ≤ g → g < w'.heap.size → t ≤ c' → c' ≤ maxLen → w.grownBy w' v.ownBlock → (∀ g0 n0 c0, v = .slice (some ⟨g0, 0, none⟩) n0 c0 → ∀ i, i < xs.length → w'.cell? ⟨g0, i, none⟩ = some (.int κ (xs.getD i 0))) → K (a.put o.dst (.slice (some ⟨g, 0, none⟩) t c')) w') :
    if Region.wanted o (yielded ops a.tmps) = true then Oper.wp Tryd.prog o a w K Q else E := by
  have hw : Region.wanted o (yielded ops a.tmps) = true := by simp [Region.wanted, hgd]
  rw [if_pos hw]
  obtain ⟨g, c', w', hrun, h1, h2, h3, h4, h5, h6⟩ := run_appG by8 hu hinfo w o.type base v xs hown ad m c ys hsrc t ht hne hb hb2 hbase
  unfold Oper.wp
  simp [execOp, ho, resolve, invoke, builtin, hs, hx, hrun, Result.andThen]
  refine hK g c' w' h1 h2 h3 h4 h5 h6 ?_
  intro g0 n0 c0 hv
  subst hv
  exact run_appG_old by8 hu hinfo w o.type base g0 n0 c0 xs hown ad m c ys hsrc t ht hb hb2 g c' w' hrun h1

end Go.Proofs.YtgajejomibnghaaDoor
