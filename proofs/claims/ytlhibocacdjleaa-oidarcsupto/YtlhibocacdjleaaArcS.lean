/-
  OidArcs: the memory while the law runs (AI), and while one of its loops does (LI). Plain facts; the append of bytes within the fence.
-/
import Derived.Test.YtlhibocacdjleaaRArcs
import Derived.Test.YtlhibocacdjleaaOArcs
import Derived.Test.YtlhibocacdjleaaDSt
namespace Go.Proofs.Ytlhibocacdjleaa
open Go.RowKit Go.Shelf Go.IntWalk

theorem wpListIn_appNB {F : Fence} {n : Nat} {ops : Array Oper} {rest : List Oper} {o : Oper} {a : Act} {Q : Exit → Act → World → Prop} (w : World) (hgd : o.guard = none) (s x : Operand)
    (ho : o.op = .call { callee := .builtin .append, args := #[s, x], argTypes := #[22, 22] })
    (base g0 : Nat) (hs : a.eval s = .slice (some ⟨g0, 0, none⟩) 0 0) (hown : OwnB w base (.slice (some ⟨g0, 0, none⟩) 0 0) [])
    (ao : Option Addr) (m c : Nat) (ys : List Int) (hx : a.eval x = .slice ao m c) (hsrc : Src w ao m c ys) (hb : m ≤ 140737488355328) (hbase : base ≤ w.heap.size)
    (h : ∀ g c' w', OwnB w' base (.slice (some ⟨g, 0, none⟩) m c') ys → base ≤ g → g < w'.heap.size → m ≤ c' → c' ≤ maxLen → w.grownBy w' (some g0) →
      wpListIn F n Try.prog ops Q rest (a.put o.dst (.slice (some ⟨g, 0, none⟩) m c')) w') :
    wpListIn F n Try.prog ops Q (o :: rest) a w := by
  obtain ⟨i0, hi, hz0, hz1, hz2⟩ := info_parts Try.infoB
  obtain ⟨hlen, hcap, hmax, hnil, hrd, hbyt⟩ := hsrc
  cases ao with
  | none =>
    obtain ⟨rfl, rfl⟩ := hnil rfl
    obtain rfl : ys = [] := List.eq_nil_of_length_eq_zero hlen
    refine wpListIn_plain hgd fun K hK' => ?_
    have hrun := run_append_owned_none (P := Try.prog) (w := w) base 22 o.type 5 i0 1 Try.underlying22 hi _ _ _ hown
    have hlt := hown.lt g0 rfl
    unfold Oper.wpIn
    refine ⟨?_, ?_⟩
    · simp [Oper.about, ho, resolve, Target.leads, Sem.run_pure]
    · rw [Oper.semAt_plain F _ _ (by rw [ho]; intro c hc'; cases hc')]
      simp [execOp, ho, resolve, invoke, builtin, hs, hx, hrun, Result.andThen]
      exact hK' _ _ (h g0 0 w hown hlt.1 hlt.2 (Nat.le_refl _) (by decide) ⟨rfl, rfl, rfl, Nat.le_refl _, fun _ _ _ => rfl⟩)
  | some ad =>
    refine wpListIn_append_own w hgd s x 22 ho base 5 i0 (.int .u8 0) 1 1 Try.underlying22 hi hz0 hz1 hz2 rfl (by decide) _ _ _ hs hown ad m c (ys.map (Value.int .u8)) hx (by simpa using hlen) ?_ (ints_one _ _) (by simp; unfold maxLen; omega) (by simp; omega) hbase ?_
    · intro j u hj
      have hjl : j < ys.length := by
        rcases Nat.lt_or_ge j ys.length with h | h
        · exact h
        · simp [List.getElem?_eq_none (show (ys.map (Value.int .u8)).length ≤ j by simpa using h)] at hj
      obtain ⟨b, off, he, hc⟩ := hrd (by intro h; simp [h] at hjl)
      cases he
      rw [add_none, hc j hjl]
      simp [List.getElem?_eq_getElem hjl] at hj
      subst hj
      simp [List.getD, List.getElem?_eq_getElem hjl]
    · intro v' w' h1 h2 h3
      have h1' : OwnB w' base v' ys := by
        unfold OwnB
        rw [hlen]
        simpa using h1
      rcases h1'.split with ⟨hv, hx'⟩ | ⟨g, c', hv, hb', hl', hc', hm'⟩
      · exact absurd (h3.1 hv).1 (by simp)
      · rw [hlen] at hv hc'
        subst hv
        exact h g c' w' h1' hb' hl' hc' hm' h2

structure AI (w : World) (Lb Rb Pb Qb Nb Bs : Nat) (lv : Int) (aP aQ aB : Option Addr) (L cP cQ m cB : Nat) (d : List (Int × Int)) (ys : List Int) (k : Nat) (W : World) : Prop where
  leave : Boxed W Lb 3 (.int .i64 lv)
  res : Boxed W Rb 4 (.bool false)
  pl : Boxed W Pb 29 (.slice aP L cP)
  ll : Boxed W Qb 29 (.slice aQ L cQ)
  nb : Boxed W Nb 3 (.int .i64 k)
  bs : Boxed W Bs 22 (.slice aB m cB)
  sp : SrcI W aP L cP (d.map Prod.fst)
  sq : SrcI W aQ L cQ (d.map Prod.snd)
  sb : Src W aB m cB ys
  fp : ∀ b off, aP = some ⟨b, off, none⟩ → d.map Prod.fst ≠ [] → b < Nb
  fq : ∀ b off, aQ = some ⟨b, off, none⟩ → d.map Prod.snd ≠ [] → b < Nb
  fb : ∀ b off, aB = some ⟨b, off, none⟩ → ys ≠ [] → b < Nb
  o : Lb < Nb ∧ Rb < Nb ∧ Pb < Nb ∧ Qb < Nb ∧ Bs < Nb ∧ w.heap.size ≤ Rb
  bel : Below w.heap.size w W

variable {w : World} {Lb Rb Pb Qb Nb Bs : Nat} {lv : Int} {aP aQ aB : Option Addr} {L cP cQ m cB : Nat} {d : List (Int × Int)} {ys : List Int} {k : Nat} {W W' : World}

theorem AI.drawn (h : AI w Lb Rb Pb Qb Nb Bs lv aP aQ aB L cP cQ m cB d ys k W) (D : Drawn W W') : AI w Lb Rb Pb Qb Nb Bs lv aP aQ aB L cP cQ m cB d ys k W' := by
  have e := D.heap
  refine ⟨?_, ?_, ?_, ?_, ?_, ?_, h.sp.heap e, h.sq.heap e, h.sb.heap e, h.fp, h.fq, h.fb, h.o, D.below h.bel⟩ <;> unfold Boxed <;> rw [e]
  · exact h.leave
  · exact h.res
  · exact h.pl
  · exact h.ll
  · exact h.nb
  · exact h.bs

theorem AI.kept (h : AI w Lb Rb Pb Qb Nb Bs lv aP aQ aB L cP cQ m cB d ys k W) {row : Option Nat} (hg : W.grownBy W' row) (hj : ∀ j, row = some j → Nb < j) : AI w Lb Rb Pb Qb Nb Bs lv aP aQ aB L cP cQ m cB d ys k W' := by
  obtain ⟨o1, o2, o3, o4, o5, o6⟩ := h.o
  have ne : ∀ b, b ≤ Nb → some b ≠ row := fun b hb he => by have := hj b he.symm; omega
  have hb := h.nb.lt
  have hw := h.bel.size
  exact ⟨h.leave.kept hg (ne _ (by omega)), h.res.kept hg (ne _ (by omega)), h.pl.kept hg (ne _ (by omega)), h.ll.kept hg (ne _ (by omega)), h.nb.kept hg (ne _ (by omega)), h.bs.kept hg (ne _ (by omega)),
    h.sp.grown hg (fun b off he hx => ne _ (by have := h.fp b off he hx; omega)), h.sq.grown hg (fun b off he hx => ne _ (by have := h.fq b off he hx; omega)), h.sb.grown hg (fun b off he hx => ne _ (by have := h.fb b off he hx; omega)),
    h.fp, h.fq, h.fb, h.o, h.bel.grown hg hw (fun j he => by have := hj j he; omega)⟩

theorem AI.alloc (h : AI w Lb Rb Pb Qb Nb Bs lv aP aQ aB L cP cQ m cB d ys k W) (o : Obj) : AI w Lb Rb Pb Qb Nb Bs lv aP aQ aB L cP cQ m cB d ys k (W.alloc o) :=
  h.kept (World.grownBy_alloc W o none) (by simp)

theorem AI.setN (h : AI w Lb Rb Pb Qb Nb Bs lv aP aQ aB L cP cQ m cB d ys k W) (v : Int) (k' : Nat) (hv : v = (k' : Int)) : AI w Lb Rb Pb Qb Nb Bs lv aP aQ aB L cP cQ m cB d ys k' (W.setCell ⟨Nb, 0, none⟩ (.int .i64 v)) := by
  subst hv
  obtain ⟨o1, o2, o3, o4, o5, o6⟩ := h.o
  have hg := grownBy_setCell' W Nb (.int .i64 (k' : Int))
  have ne : ∀ b, b < Nb → some b ≠ some Nb := fun b hb he => by cases he; omega
  exact ⟨h.leave.kept hg (ne _ o1), h.res.kept hg (ne _ o2), h.pl.kept hg (ne _ o3), h.ll.kept hg (ne _ o4), h.nb.set _, h.bs.kept hg (ne _ o5),
    h.sp.grown hg (fun b off he hx => ne _ (h.fp b off he hx)), h.sq.grown hg (fun b off he hx => ne _ (h.fq b off he hx)), h.sb.grown hg (fun b off he hx => ne _ (h.fb b off he hx)),
    h.fp, h.fq, h.fb, h.o, h.bel.setCell (by simp; omega) _⟩

structure LI (lp : Loop) (lb : Nat) (Ds : List Nat) (w : World) (Lb Rb Pb Qb Nb Bs : Nat) (lv : Int) (aP aQ aB : Option Addr) (L cP cQ m cB : Nat) (d : List (Int × Int)) (ys : List Int) (k : Nat) (W : World) : Prop where
  loop : W.heap[lb]? = some (.loop lp)
  dfr : ∀ D ∈ Ds, W.heap[D]? = some (.deferred (some []))
  ai : AI w Lb Rb Pb Qb Nb Bs lv aP aQ aB L cP cQ m cB d ys k W
  ol : Nb < lb
  od : ∀ D ∈ Ds, Nb < D ∧ D ≠ lb

variable {lp : Loop} {lb : Nat} {Ds : List Nat}

theorem LI.drawn (h : LI lp lb Ds w Lb Rb Pb Qb Nb Bs lv aP aQ aB L cP cQ m cB d ys k W) (D : Drawn W W') : LI lp lb Ds w Lb Rb Pb Qb Nb Bs lv aP aQ aB L cP cQ m cB d ys k W' :=
  ⟨by rw [D.heap]; exact h.loop, fun x hx => by rw [D.heap]; exact h.dfr x hx, h.ai.drawn D, h.ol, h.od⟩

theorem LI.put (h : LI lp lb Ds w Lb Rb Pb Qb Nb Bs lv aP aQ aB L cP cQ m cB d ys k W) (lp' : Loop) : LI lp' lb Ds w Lb Rb Pb Qb Nb Bs lv aP aQ aB L cP cQ m cB d ys k (W.putObj lb (.loop lp')) :=
  ⟨World.putObj_heap_same (Array.getElem?_eq_some_iff.1 h.loop).1, fun x hx => (World.putObj_heap_other (h.od x hx).2).trans (h.dfr x hx), h.ai.kept (grownBy_putObj' W lb _) (by intro j e; cases e; exact h.ol), h.ol, h.od⟩

theorem LI.setN (h : LI lp lb Ds w Lb Rb Pb Qb Nb Bs lv aP aQ aB L cP cQ m cB d ys k W) (v : Int) (k' : Nat) (hv : v = (k' : Int)) : LI lp lb Ds w Lb Rb Pb Qb Nb Bs lv aP aQ aB L cP cQ m cB d ys k' (W.setCell ⟨Nb, 0, none⟩ (.int .i64 v)) :=
  ⟨by rw [Below.heap_setCell _ _ _ _ (by have := h.ol; simp; omega)]; exact h.loop, fun x hx => by rw [Below.heap_setCell _ _ _ _ (by have := (h.od x hx).1; simp; omega)]; exact h.dfr x hx, h.ai.setN v k' hv, h.ol, h.od⟩

/-- A loop is entered. -/
theorem LI.enter (h : AI w Lb Rb Pb Qb Nb Bs lv aP aQ aB L cP cQ m cB d ys k W) (hd : ∀ D ∈ Ds, W.heap[D]? = some (.deferred (some [])) ∧ Nb < D) (lp : Loop) :
    LI lp (W.heap.size + 1) (W.heap.size :: Ds) w Lb Rb Pb Qb Nb Bs lv aP aQ aB L cP cQ m cB d ys k ((W.alloc (.deferred (some []))).alloc (.loop lp)) := by
  have hN := h.nb.lt
  have hlt : ∀ D ∈ Ds, D < W.heap.size := fun D hD => (Array.getElem?_eq_some_iff.1 (hd D hD).1).1
  refine ⟨?_, ?_, (h.alloc _).alloc _, by omega, ?_⟩
  · have := World.alloc_heap_new (W.alloc (.deferred (some []))) (.loop lp); rwa [World.size_alloc] at this
  · intro D hD
    rcases List.mem_cons.1 hD with rfl | hD
    · rw [Below.heap_alloc _ _ _ (by simp)]; exact World.alloc_heap_new W _
    · have := hlt D hD
      rw [Below.heap_alloc _ _ _ (by simp; omega), Below.heap_alloc _ _ _ this]; exact (hd D hD).1
  · intro D hD
    rcases List.mem_cons.1 hD with rfl | hD
    · exact ⟨by omega, by omega⟩
    · have := hlt D hD
      exact ⟨(hd D hD).2, by omega⟩

end Go.Proofs.Ytlhibocacdjleaa
