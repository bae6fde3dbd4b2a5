/-
  The document's Arcs: the places and the numbers, as arcG says, in memory of its own.
-/
import Derived.Test.YtlhibocacdjleaaArcM
import Derived.Test.YtlhibocacdjleaaRDec
import Derived.Maps.AppendAt
namespace Go.Proofs.Ytlhibocacdjleaa
open Go.RowKit Go.IntWalk

/-- 'append(s, x)' of a number: also where the new row lies. -/
theorem wpList_appIAt {ops : Array Oper} {rest : List Oper} {o : Oper} {a : Act} {Q : Exit → Act → World → Prop} (w : World) (hgd : o.guard = none) (s x : Operand)
    (ho : o.op = .call { callee := .builtin .append, args := #[s, x], argTypes := #[29, 29] })
    (base : Nat) (v : Value) (xs : List Int) (hs : a.eval s = v) (hown : OwnI w base v xs)
    (g0 : Nat) (y : Int) (hx : a.eval x = .slice (some ⟨g0, 0, none⟩) 1 1) (hsrc : SrcI w (some ⟨g0, 0, none⟩) 1 1 [y])
    (t : Nat) (ht : xs.length + 1 = t) (hb : t ≤ 17592186044416) (hbase : base ≤ w.heap.size)
    (h : ∀ g c' w', OwnI w' base (.slice (some ⟨g, 0, none⟩) t c') (xs ++ [y]) → base ≤ g → g < w'.heap.size → t ≤ c' → c' ≤ maxLen → w.grownBy w' v.ownBlock → (v.ownBlock = some g ∨ g = w.heap.size) →
      wpList Try.prog ops Q rest (a.put o.dst (.slice (some ⟨g, 0, none⟩) t c')) w') :
    wpList Try.prog ops Q (o :: rest) a w := by
  obtain ⟨i0, hi, hz0, hz1, hz2⟩ := info_parts Try.infoI
  obtain ⟨hlen, hcap, hmax, hnil, hrd, hbyt⟩ := hsrc
  refine wpList_append_own_at w hgd s x 29 ho base 3 i0 (.int .i64 0) 1 8 Try.underlying29 hi hz0 hz1 hz2 rfl (by decide) v _ _ hs hown ⟨g0, 0, none⟩ 1 1 ([y].map (Value.int .i64)) hx (by simp) ?_ (ints_one _ _) (by unfold maxLen; omega) (by omega) hbase ?_
  · intro j u hj
    have hjl : j < [y].length := by
      rcases Nat.lt_or_ge j [y].length with h | h
      · exact h
      · rw [List.getElem?_eq_none (show ([y].map (Value.int .i64)).length ≤ j by simpa using h)] at hj; exact absurd hj (by simp)
    obtain ⟨b, off, he, hc⟩ := hrd (by intro h; simp [h] at hjl)
    cases he
    have h2 : (⟨g0, 0, none⟩ : Addr).add j = ⟨g0, 0 + j, none⟩ := by unfold Addr.add; split <;> simp_all
    rw [h2, hc j hjl]
    simp only [List.length_cons, List.length_nil] at hjl
    obtain rfl : j = 0 := by omega
    simp at hj
    subst hj
    simp
  · intro v' w' h1 h2 h3 h4
    have h1' : OwnI w' base v' (xs ++ [y]) := by
      unfold OwnI
      have e1 : (xs ++ [y]).length = xs.length + 1 := by simp
      rw [e1]
      simpa using h1
    rcases h1'.split with ⟨_, hx'⟩ | ⟨g, c', hv, hb', hl', hc', hm'⟩
    · simp at hx'
    · have e1 : (xs ++ [y]).length = t := by simp [ht]
      rw [e1] at hv hc'
      subst hv
      refine h g c' w' h1' hb' hl' hc' hm' h2 ?_
      rcases h4 with h4 | h4
      · exact .inl h4.symm
      · right; simpa [Value.ownBlock] using h4

structure ArcSt (w : World) (base : Nat) (P L : Value) (d : List (Int × Int)) : Prop where
  hp : OwnI w base P (d.map Prod.fst)
  hl : OwnI w base L (d.map Prod.snd)
  ap : ∀ g, P.ownBlock = some g → L.ownBlock ≠ some g

theorem ArcSt.heap {w w' : World} {base : Nat} {P L : Value} {d : List (Int × Int)} (h : ArcSt w base P L d) (e : w'.heap = w.heap) : ArcSt w' base P L d := ⟨h.hp.heap e, h.hl.heap e, h.ap⟩
theorem ArcSt.ne {w : World} {base : Nat} {P L : Value} {d : List (Int × Int)} (h : ArcSt w base P L d) : L.ownBlock = none ∨ L.ownBlock ≠ P.ownBlock := by
  cases e : L.ownBlock with
  | none => exact .inl rfl
  | some g => exact .inr fun e2 => h.ap g e2.symm e

set_option maxRecDepth 100000 in
set_option maxHeartbeats 1000000 in
theorem refArcs_any (ao : Option Addr) (n cap : Nat) (xs : List Int) (w : World) (hs : Src w ao n cap xs) (hN : n ≤ 17592186044416) :
    Calls Try.prog 24 #[.slice ao n cap] w fun e w' => ∃ a1 a2 c1 c2 L, e = .returned (.tuple #[.slice a1 L c1, .slice a2 L c2]) ∧ L = (arcG xs 0).length ∧ OwnI w' w.heap.size (.slice a1 L c1) ((arcG xs 0).map Prod.fst) ∧ OwnI w' w.heap.size (.slice a2 L c2) ((arcG xs 0).map Prod.snd) ∧ Below w.heap.size w w' := by
  have HL := hide hs.hlen
  go_enter Try.func24, Try.ntmps24
  go_wp2
  go_loopw [4, 5, 6] (fun P L at_ wr => ∃ (p k : Nat) (a1 a2 : Option Addr) (c1 c2 : Nat) (d : List (Int × Int)), P = .slice a1 k c1 ∧ L = .slice a2 k c2 ∧ at_ = .int .i64 p ∧ p ≤ n ∧ k ≤ p ∧ Hid (d.length = k) ∧ Hid (arcG xs 0 = d ++ arcG xs p) ∧ ArcSt wr w.heap.size (.slice a1 k c1) (.slice a2 k c2) d ∧ Below w.heap.size w wr) (fun _ _ a _ => n - (intOf a).toNat)
  case atStart => exact ⟨0, 0, none, none, 0, 0, [], rfl, rfl, rfl, Nat.zero_le _, Nat.le_refl _, rfl, rfl, ⟨OwnI.nil _ _, OwnI.nil _ _, fun g h => by simp [Value.ownBlock] at h⟩, Below.refl _ _⟩
  case round =>
    obtain ⟨p, k, a1, a2, c1, c2, d, rfl, rfl, rfl, hp, hkp, hk, hE, hS, hB⟩ := hrel
    have hBs := hB.size
    by_cases hlt : p < n
    · have hli : Hid (p < xs.length) := by unfold Hid; rw [HL.out]; exact hlt
      have pI : (p : Int) < (n : Int) := by omega
      have hcall := hide (refNext_any ao n cap xs p wr (hs.below hB) (by omega) hp)
      by_cases hz : (nextS (xs.drop p)).2.2 = 0
      · have hin := nextS_in (xs.drop p) hz
        have hst := hide (hE.out.trans (congrArg (d ++ ·) (arc_next xs p hli.out hz)))
        obtain ⟨N2, k2, hnk⟩ : ∃ N2 k2, nextS (xs.drop p) = (N2, k2, 0) := ⟨(nextS (xs.drop p)).1, (nextS (xs.drop p)).2.1, by rw [← hz]⟩
        rw [nextV_ok hnk] at hcall
        rw [hnk] at hst hin
        have hst : Hid (arcG xs 0 = (d ++ [((p : Int), N2)]) ++ arcG xs (p + k2)) := by
          have := hst.out
          unfold Hid
          rw [this]
          simp
        have q0 : 0 ≤ N2 := hin.1
        have q1 : N2 ≤ 2147483647 := hin.2.1
        have q2 : 0 < k2 := hin.2.2.1
        have q3 : p + k2 ≤ n := by have h1 := hin.2.2.2; have h2 := HL.out; rw [List.length_drop] at h1; have h3 : k2 ≤ xs.length - p := h1; omega
        have hln : Hid ((d ++ [((p : Int), N2)]).length = k + 1) := by unfold Hid; rw [List.length_append, hk.out]; rfl
        clear hnk hin hz
        go_wp2_with (first | (go_at_call 39; refine hcall.out.mono ?_; rintro e w3 ⟨rfl, D3⟩; have z3 : Hid (w3.heap.size = wr.heap.size) := by (unfold Hid; rw [D3.heap])) | (at_builtin; refine wpList_appIAt _ rfl (.tmp 25) (.tmp 27) rfl w.heap.size (.slice a1 k c1) (d.map Prod.fst) rfl ((hS.hp.heap D3.heap).alloc _) w3.heap.size (p : Int) rfl (SrcI.lit [(p : Int)] _ 1 rfl rfl (by simp; omega) (by decide)) (k + 1) (by rw [List.length_map, hk.out]) (by omega) (by have := z3.out; simp; omega) ?_; intro g4 c4 w4 ho4 hb4 hl4 hc4 hm4 hg4 hat4; have s4 := hg4.size; have L4 : OwnI w4 w.heap.size (.slice a2 k c2) (d.map Prod.snd) := ((hS.hl.heap D3.heap).alloc _).kept hg4 hS.ne; have n4 : ∀ g, (Value.slice a2 k c2).ownBlock = some g → g ≠ g4 := (by intro g hg he; subst he; rcases hat4 with h | h; exact hS.ap _ h hg; have h1 := (hS.hl.lt _ hg).2; have h2 := z3.out; simp at h; omega)) | (at_builtin; refine wpList_appIAt _ rfl (.tmp 29) (.tmp 31) rfl w.heap.size (.slice a2 k c2) (d.map Prod.snd) rfl (L4.alloc _) w4.heap.size N2 rfl (SrcI.lit [N2] _ 1 rfl rfl (by simp; omega) (by decide)) (k + 1) (by rw [List.length_map, hk.out]) (by omega) (by have := z3.out; simp at s4; simp; omega) ?_; intro g5 c5 w5 ho5 hb5 hl5 hc5 hm5 hg5 hat5))
        have hB4 : Below w.heap.size w w4 := ((D3.below hB).alloc (by have := z3.out; omega) _).grown hg4 (by have := z3.out; simp; omega) (by intro q hq; exact (hS.hp.lt q hq).1)
        have hB5 : Below w.heap.size w w5 := (hB4.alloc hB4.size _).grown hg5 (by have := hB4.size; simp; omega) (by intro q hq; exact (hS.hl.lt q hq).1)
        have hS5 : ArcSt w5 w.heap.size (.slice (some ⟨g4, 0, none⟩) (k + 1) c4) (.slice (some ⟨g5, 0, none⟩) (k + 1) c5) (d ++ [((p : Int), N2)]) := by
          refine ⟨?_, ?_, ?_⟩
          · rw [List.map_append]
            exact (ho4.alloc _).kept hg5 (.inr fun e => n4 g4 e.symm rfl)
          · rw [List.map_append]
            exact ho5
          · intro g e1 e2
            have e1 : g4 = g := by simpa [Value.ownBlock] using e1
            have e2 : g5 = g := by simpa [Value.ownBlock] using e2
            subst e1
            rcases hat5 with h | h
            · exact n4 g5 h e2
            · simp at h; omega
        go_roundw
        case rel => exact ⟨p + k2, k + 1, _, _, c4, c5, d ++ [((p : Int), N2)], rfl, rfl, by simp, q3, by omega, hln, hst, hS5, hB5⟩
        case measure => simp [intOf]; omega
      · have hst : Hid (arcG xs 0 = d) := hE.out.trans (by rw [arc_stop xs p (fun h => hz h.2), List.append_nil])
        rw [nextV_bad hz] at hcall
        have hzb : ((nextS (xs.drop p)).2.2 != 0) = true := by simpa using hz
        generalize (nextS (xs.drop p)).2.2 = E at hcall hzb
        generalize (nextS (xs.drop p)).1 = N2 at hcall
        clear hz
        go_wp2_with (go_at_call 39; refine hcall.out.mono ?_; rintro e w3 ⟨rfl, D3⟩)
        refine bodyPost_ret (v := .tuple #[.slice a1 k c1, .slice a2 k c2]) (by simp [results, Try.results24, go_sem]) rfl ⟨a1, a2, c1, c2, k, rfl, by rw [hst.out, hk.out], by rw [hst.out]; exact (hS.heap D3.heap).hp, by rw [hst.out]; exact (hS.heap D3.heap).hl, D3.below hB⟩
    · have hst : Hid (arcG xs 0 = d) := hE.out.trans (by rw [arc_stop xs p (fun h => hlt (by rw [← HL.out]; exact h.1)), List.append_nil])
      have pI : ¬ (p : Int) < (n : Int) := by omega
      go_wp2
      refine bodyPost_ret (v := .tuple #[.slice a1 k c1, .slice a2 k c2]) (by simp [results, Try.results24, go_sem]) rfl ⟨a1, a2, c1, c2, k, rfl, by rw [hst.out, hk.out], by rw [hst.out]; exact hS.hp, by rw [hst.out]; exact hS.hl, hB⟩

end Go.Proofs.Ytlhibocacdjleaa
