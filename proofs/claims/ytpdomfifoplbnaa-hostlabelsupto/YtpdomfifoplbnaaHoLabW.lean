/-
  The statement HostLabels: its walk.
-/
import Derived.Test.YtpdomfifoplbnaaHoW
import Derived.Test.YtpdomfifoplbnaaHoR5
namespace Go.Proofs.Ytpdomfifoplbnaa
open Go.RowKit Go.Shelf Go.IntWalk
attribute [local go_sem] Oper.semAt_some

theorem seq_none (w : World) (f : Nat) (c : Array Value) : (binOp .eql 25 (.func (.func f) #[] c) .nilFunc).run Try.prog w = .ok (.bool false) w := by
  have h : ∀ d : Nat, (Op.equalIn (d + 1) 25 (.func (.func f) #[] c) .nilFunc).run Try.prog w = .ok false w := fun d => by
    simp [Op.equalIn, run_underlying Try.underlying25]
  simp only [binOp]
  simp [Op.equal, Op.maxDepth, h 9999]

theorem drop_word {l r : List (List UInt8)} {k : Nat} {x : List UInt8} (h : l.drop k = x :: r) : ∃ hk : k < l.length, l[k]'hk = x ∧ l.drop (k + 1) = r := by
  have hk : k < l.length := by
    rcases Nat.lt_or_ge k l.length with h' | h'
    · exact h'
    · rw [List.drop_eq_nil_of_le h'] at h; cases h
  rw [List.drop_eq_getElem_cons hk] at h
  exact ⟨hk, (List.cons.inj h).1, (List.cons.inj h).2⟩

set_option maxRecDepth 100000 in
/-- How the law is left: the two loops' marks; the answer is what the variable holds. -/
theorem labels_leave (w W : World) (tmps : Array Value) (R : Bool) (D1 D2 : Nat) (hne : D2 ≠ D1) (bx : List (Nat × TypeId × Value)) (h : BSt w bx [D2, D1] W) (b : Nat) (h0 : bx[1]? = some (b, 4, .bool R)) (ht : tmps[4]? = some (.pointer (some ⟨b, 0, none⟩))) :
    LeavesInM Fence.wide 8 Try.prog Try.f4 tmps (fun e w' => e = .returned (.bool R) ∧ Below w.heap.size w w') [{ target := .collected D2, args := #[] }, { target := .collected D1, args := #[] }] .returning W := by
  have h1 := (h.dfr D2 (by simp)).2
  have k2 := h.take (by simpa using hne)
  have h2 := (k2.dfr D1 (by simp)).2
  have k3 := k2.take (by simp)
  have c1 := (k3.get 1 h0).cell
  refine ⟨by simp, .inl ⟨_, _, rfl, run_takeDeferred h1, by simp, .inl ⟨_, _, rfl, run_takeDeferred h2, ?_⟩⟩⟩
  exact ⟨.bool R, by simp [results, Try.results4, go_sem, ht, c1, Array.getD_eq_getD_getElem?], rfl, k3.bel⟩

theorem OwnS.put {w : World} {base : Nat} {v : Value} {ss : List ByteArray} (h : OwnS w base v ss) {l : Nat} {r : Loop} (hl : w.heap[l]? = some (.loop r)) (o : Obj) : OwnS (w.putObj l o) base v ss := ownsRow_putObj h o hl rfl
theorem OwnS.setBox {w : World} {base : Nat} {v : Value} {ss : List ByteArray} (h : OwnS w base v ss) {b : Nat} {u : Value} (hb : Boxed w b 3 u) (u' : Value) : OwnS (w.setCell ⟨b, 0, none⟩ u') base v ss :=
  World.ownsRow.kept h (grownBy_setCell' w b u') (.inr (Boxed.not_row hb (by decide) h).symm)

def Nvr (_ : World) : Prop := False
/-- The variables of the law. -/
def labB (w : World) (lv : Int) (s : List UInt8) (Wb : Nat) (v : Value) (k : Int) : List (Nat × TypeId × Value) :=
  [(w.heap.size, 3, .int .i64 lv), (w.heap.size + 1, 4, .bool false), (w.heap.size + 1 + 1, 9, .string (tx s)), (Wb, 27, v), (Wb + 1, 3, .int .i64 k)]

set_option maxRecDepth 100000 in
set_option maxHeartbeats 4000000 in
theorem hostLabels_in (s : List UInt8) (lv : Int) (hs : s.length ≤ 1048576) (m : Int) (w : World) (hm : ML w m) :
    CallsIn Fence.wide 8 Try.prog 4 #[.string (tx s), .int .i64 lv] w fun e w' => e = .returned (.bool true) ∧ Below w.heap.size w w' := by
  refine callsIn_of_wp_marks Try.func4 rfl trivial ?_ rfl
  simp only [Try.ntmps4, List.size_toArray, List.length_cons, List.length_nil, Nat.reduceAdd, Nat.reduceSub, Array.replicate_succ, Array.replicate_zero, List.push_toArray, List.append_toArray, List.nil_append, List.cons_append]
  have qn := fun X => seq_none X 26 #[.pointer (some ⟨w.heap.size + 1 + 1, 0, none⟩)]
  have hLb := hide (fun X => refLabels_any (tx s) (by rw [tx_size]; exact hs) X)
  rw [tx_list] at hLb
  have hcnt : Hid ((labs s).length ≤ s.length + 1) := labsG_len _ _
  obtain ⟨Wd, hWdd⟩ : ∃ Wd, labs s = Wd := ⟨_, rfl⟩
  rw [hWdd] at hLb hcnt
  replace hWdd := hide hWdd
  gi_wp2_with (first | (refine ⟨trivial, ?_⟩; gi_at_call 14; refine (labels_in _ _ _).mono ?_; rintro e w' ⟨rfl, rfl⟩) | (refine ⟨trivial, ?_⟩; gi_at_call 15; refine (callsIn_wide.2 (hLb.out _)).mono ?_; rintro e w1 ⟨aW, cW, rfl, oW, BW⟩))
  rename_i K hK
  clear qn hLb
  have b0 := (((BSt.start w).new 3 (.int .i64 lv)).new 4 (.bool false)).new 9 (.string (tx s))
  simp only [World.size_alloc, List.nil_append, List.cons_append] at b0
  have b1 := ((b0.below BW).new 27 (.slice aW Wd.length cW)).new 3 (.int .i64 0)
  simp only [World.size_alloc, List.nil_append, List.cons_append] at b1
  have o1 : OwnS ((w1.alloc (.cells #[.slice aW Wd.length cW] 27)).alloc (.cells #[.int .i64 0] 3)) w.heap.size (.slice aW Wd.length cW) (txs Wd) := by
    have h2 : OwnS w1 w.heap.size (.slice aW Wd.length cW) (txs Wd) := by
      obtain ⟨hl, h⟩ := oW
      refine ⟨hl, ?_⟩
      rcases h with h | ⟨g, cap, cur, hv, hbg, hh, r⟩
      · exact .inl h
      · exact .inr ⟨g, cap, cur, hv, by simp at hbg; omega, hh, r⟩
    exact (h2.alloc _).alloc _
  generalize (w1.alloc (.cells #[.slice aW Wd.length cW] 27)).alloc (.cells #[.int .i64 0] 3) = W5 at b1 o1 ⊢
  generalize w1.heap.size = Wb at b1 ⊢
  clear b0 oW BW
  have b2 : BSt w (labB w lv s Wb (.slice aW Wd.length cW) 0) [] W5 := b1
  clear b1
  generalize hA : Act.mk _ _ = A
  have HK : ∀ (k : Int) D W2, BSt w (labB w lv s Wb (.slice aW Wd.length cW) k) [D] W2 → OwnS W2 w.heap.size (.slice aW Wd.length cW) (txs Wd) → K { A with defers := { target := .collected D, args := #[] } :: A.defers } W2 := by
    intro k D W2 hb ho
    subst hA
    refine hK _ _ ?_
    have cN := (hb.get 4 rfl).cell
    have fN := (hb.get 4 rfl).frozen
    have i7 : BSt w (labB w lv s Wb (.slice aW Wd.length cW) 0) [D] (W2.setCell ⟨Wb + 1, 0, none⟩ (.int .i64 0)) := hb.set 4 rfl _
    have o7 := ho.setBox (hb.get 4 rfl) (.int .i64 0)
    have I7 := hide (And.intro i7 o7)
    clear i7 o7 hb ho b2 o1 hK
    gi_wp2_with fail
    obtain ⟨i7, o7⟩ := I7.out
    clear I7 cN fN
    generalize W2.setCell ⟨Wb + 1, 0, none⟩ (.int .i64 0) = W6 at i7 o7 ⊢
    refine range_enter rfl (by decide) (gf := 26) (lb := #[.pointer (some ⟨w.heap.size + 1 + 1, 0, none⟩)]) rfl trivial (enters_of Try.func26 (by kernel_rfl) rfl) ?_
    intro fn hfn
    generalize hrec : recOf fn _ _ _ _ _ = r
    have hDlt : D < W6.heap.size := (Array.getElem?_eq_some_iff.1 (i7.dfr D (by simp)).2).1
    have i8 := LSt.enter i7 (r .ready none)
    have o8 : OwnS ((W6.alloc (.deferred (some []))).alloc (.loop (r .ready none))) w.heap.size (.slice aW Wd.length cW) (txs Wd) := (o7.alloc _).alloc _
    generalize (W6.alloc (.deferred (some []))).alloc (.loop (r .ready none)) = W8 at i8 o8 ⊢
    have hDD : W6.heap.size ≠ D := by omega
    clear i7 o7 hDlt
    generalize W6.heap.size + 1 = l at i8 ⊢
    generalize W6.heap.size = D2 at i8 hDD hrec ⊢
    refine (labels1_in 7 (by decide) l (w.heap.size + 1 + 1) s hs m (fun ws W => ∃ k : Nat, k ≤ Wd.length ∧ LSt w (labB w lv s Wb (.slice aW Wd.length cW) k) [D2, D] l (r .ready none) W ∧ OwnS W w.heap.size (.slice aW Wd.length cW) (txs Wd) ∧ Wd.drop k = ws) Nvr W8
      ?_ (i8.st.get 2 rfl).cell ?_ ?_ ⟨0, Nat.zero_le _, i8, o8, by rw [hWdd.out]; rfl⟩).mono ?_
    · rintro ws W ⟨_, _, h, _⟩
      exact hm.below h.st.bel
    · rintro ws W3 W4 ⟨k, hk, h, ho, hd⟩ hb
      exact ⟨k, hk, h.below hb, ho.belowA hb, hd⟩
    · rintro u ws W3 ⟨k, hkp, hI, ho, hdr⟩ hu
      obtain ⟨hk1, hk2, hk3⟩ := drop_word hdr
      have hl := hI.loop
      have hp := ho.put hl (.loop (r .busy none))
      rw [← hrec] at hl
      refine range_round (a₁ := ?A2) hfn hl rfl ?_ ?_
      rotate_left
      · intro K hK
        gi_wp2
        exact hK
      · rw [hrec]
        have HI := hide (hI.put (r .busy none))
        have cN := (HI.out.st.get 4 rfl).cell
        have fN := (HI.out.st.get 4 rfl).frozen
        have cW' := (HI.out.st.get 3 rfl).cell
        obtain ⟨g, hg⟩ : ∃ g, aW = some ⟨g, 0, none⟩ := by
          rcases hp.split with ⟨_, h⟩ | ⟨g, cap, h, _⟩
          · have h2 : (txs Wd).length = 0 := by rw [h]; rfl
            rw [txs_len] at h2
            omega
          · exact ⟨g, (Value.slice.inj h).1⟩
        subst hg
        have cU : (W3.putObj l (.loop (r .busy none))).cell? ⟨g, k, none⟩ = some (.string (tx u)) := by
          have h := hp.cells k (tx u) (by rw [txs_get Wd k hk1, hk2])
          rwa [Nat.zero_add] at h
        have hge : ¬ (Wd.length : Int) ≤ (k : Int) := by omega
        have hkI : (k : Int) < (Wd.length : Int) := by omega
        have hkB : k < 1048577 := by have := hcnt.out; omega
        have HP := hide hp
        replace hk3 := hide hk3
        clear hl hI hrec i8 o8 hdr hk2 ho hp
        generalize W3.putObj l (.loop (r .busy none)) = W9 at HI HP cN fN cW' cU ⊢
        gi_wp2
        have e1 : ((k + 1 : Nat) : Int) = (k : Int) + 1 := by omega
        have z : LSt w (labB w lv s Wb (.slice (some ⟨g, 0, none⟩) Wd.length cW) ((k : Int) + 1)) [D2, D] l (r .busy none) (W9.setCell ⟨Wb + 1, 0, none⟩ (.int .i64 ((k : Int) + 1))) := HI.out.set 4 rfl _
        have zo := HP.out.setBox (HI.out.st.get 4 rfl) (.int .i64 ((k : Int) + 1))
        exact ⟨z.loop, .inl ⟨rfl, k + 1, by omega, by rw [e1]; exact z.put _, zo.put z.loop _, hk3.out⟩⟩
    · rintro e W' ⟨⟨v, rfl⟩, ⟨k, hkL, hI, ho, hdr⟩ | hI⟩
      · have hl := hI.loop
        have hp := ho.put hl (.loop (r .exhausted none))
        rw [← hrec] at hl
        refine range_done hl ?_
        rw [hrec]
        have h2 := hI.put (r .exhausted none)
        obtain rfl : k = Wd.length := by have := List.drop_eq_nil_iff.1 hdr; omega
        have cN := (h2.st.get 4 rfl).cell
        have cQ' := (h2.st.get 3 rfl).cell
        have H2 := hide h2
        have hWk := hide (fun W h => works_any m W h)
        clear hI hl hrec i8 o8 hdr h2 ho hp
        generalize W'.putObj l (.loop (r .exhausted none)) = W7 at H2 cN cQ' ⊢
        gi_wp2_with fail
        refine ⟨trivial, ?_⟩
        refine (callsIn_wide.2 (hWk.out _ (hm.below H2.out.st.bel))).mono ?_
        rintro e W9 ⟨rfl, B9⟩
        have H8 := hide (H2.out.below B9)
        have cR8 := (H8.out.st.get 1 rfl).cell
        have fR8 := (H8.out.st.get 1 rfl).frozen
        clear B9 cN cQ' H2
        gi_wp2
        exact labels_leave w _ _ true D D2 hDD _ (H8.out.st.set 1 rfl (.bool true)) (w.heap.size + 1) rfl rfl
      · exact hI.elim
  refine range_enter rfl (by decide) (gf := 26) (lb := #[.pointer (some ⟨w.heap.size + 1 + 1, 0, none⟩)]) (by subst hA; rfl) trivial (enters_of Try.func26 (by kernel_rfl) rfl) ?_
  intro fn hfn
  generalize hrec : recOf fn _ _ _ _ _ = r
  have i6 := LSt.enter b2 (r .ready none)
  have o6 : OwnS ((W5.alloc (.deferred (some []))).alloc (.loop (r .ready none))) w.heap.size (.slice aW Wd.length cW) (txs Wd) := (o1.alloc _).alloc _
  generalize (W5.alloc (.deferred (some []))).alloc (.loop (r .ready none)) = W8 at i6 o6 ⊢
  generalize W5.heap.size + 1 = l at i6 ⊢
  generalize W5.heap.size = D at i6 hrec ⊢
  refine (labels1_in 7 (by decide) l (w.heap.size + 1 + 1) s hs m (fun ws W => ∃ k : Nat, k ≤ Wd.length ∧ LSt w (labB w lv s Wb (.slice aW Wd.length cW) k) [D] l (r .ready none) W ∧ OwnS W w.heap.size (.slice aW Wd.length cW) (txs Wd) ∧ Wd.drop k = ws)
    (fun W => ∃ k : Nat, LSt w (labB w lv s Wb (.slice aW Wd.length cW) k) [D] l (r .done (some (.exit 0))) W ∧ OwnS W w.heap.size (.slice aW Wd.length cW) (txs Wd)) W8
    ?_ (i6.st.get 2 rfl).cell ?_ ?_ ⟨0, Nat.zero_le _, i6, o6, by rw [hWdd.out]; rfl⟩).mono ?_
  · rintro ws W ⟨_, _, h, _⟩
    exact hm.below h.st.bel
  · rintro ws W3 W4 ⟨k, hk, h, ho, hd⟩ hb
    exact ⟨k, hk, h.below hb, ho.belowA hb, hd⟩
  · rintro u ws W3 ⟨k, hkp, hI, ho, hdr⟩ hu
    obtain ⟨hk1, hk2, hk3⟩ := drop_word hdr
    have hl := hI.loop
    have hp := ho.put hl (.loop (r .busy none))
    rw [← hrec] at hl
    subst hA
    refine range_round (a₁ := ?A1) hfn hl rfl ?_ ?_
    rotate_left
    · intro K hK
      gi_wp2
      exact hK
    · rw [hrec]
      have HI := hide (hI.put (r .busy none))
      have cN := (HI.out.st.get 4 rfl).cell
      have fN := (HI.out.st.get 4 rfl).frozen
      have cL := (HI.out.st.get 0 rfl).cell
      have HP := hide hp
      have hkB : k < 1048577 := by have := hcnt.out; omega
      replace hk3 := hide hk3
      clear hl hI hrec i6 o6 HK hK hdr hk2 ho hp b2 o1
      generalize W3.putObj l (.loop (r .busy none)) = W9 at HI HP cN fN cL ⊢
      by_cases hkl : (k : Int) = lv
      · have hb : ((k : Int) == lv) = true := by simpa using hkl
        clear hkl
        gi_wp2
        exact ⟨HI.out.loop, .inr ⟨rfl, k, HI.out.put _, HP.out.put HI.out.loop _⟩⟩
      · have hb : ((k : Int) == lv) = false := by simpa using hkl
        clear hkl
        gi_wp2
        have e1 : ((k + 1 : Nat) : Int) = (k : Int) + 1 := by omega
        have z : LSt w (labB w lv s Wb (.slice aW Wd.length cW) ((k : Int) + 1)) [D] l (r .busy none) (W9.setCell ⟨Wb + 1, 0, none⟩ (.int .i64 ((k : Int) + 1))) := HI.out.set 4 rfl _
        have zo := HP.out.setBox (HI.out.st.get 4 rfl) (.int .i64 ((k : Int) + 1))
        exact ⟨z.loop, .inl ⟨rfl, k + 1, by omega, by rw [e1]; exact z.put _, zo.put z.loop _, hk3.out⟩⟩
  · rintro e W' ⟨⟨v, rfl⟩, ⟨k, _, hI, ho, hdr⟩ | ⟨k, hI, ho⟩⟩
    · have hl := hI.loop
      have hp := ho.put hl (.loop (r .exhausted none))
      rw [← hrec] at hl
      refine range_done hl ?_
      rw [hrec]
      exact HK k _ _ (hI.put (r .exhausted none)).st hp
    · have hl := hI.loop
      have hp := ho.put hl (.loop (r .exhausted (some (.exit 0))))
      rw [← hrec] at hl
      refine range_left hl ?_
      rw [hrec]
      have h3 := hide (HK k D _ (hI.put (r .exhausted (some (.exit 0)))).st hp)
      generalize ({ A with defers := { target := .collected D, args := #[] } :: A.defers } : Act) = A2 at h3 ⊢
      gi_wp2
      exact h3.out

theorem hostLabels_walk (s : List UInt8) (lv : Int) (hs : s.length ≤ 1048576) (m : Int) (w : World) (hm : ML w m) :
    Calls Try.prog 4 #[.string (tx s), .int .i64 lv] w fun e w' => e = .returned (.bool true) ∧ Below w.heap.size w w' := callsIn_wide.1 (hostLabels_in s lv hs m w hm)

end Go.Proofs.Ytpdomfifoplbnaa
