/-
  TextWords answers true, and writes nothing that was there.
-/
import Derived.Test.YtjfemhonhnomcaaTxL0
import Derived.Test.YtjfemhonhnomcaaTxR1
import Derived.Test.YtjfemhonhnomcaaTxW2
namespace Go.Proofs.Ytjfemhonhnomcaa
open Go.RowKit Go.Shelf Go.IntWalk
attribute [local go_sem] Oper.semAt_some setCell_qN alloc_qN

theorem seq_none (w : World) (f : Nat) (c : Array Value) : (binOp .eql 34 (.func (.func f) #[] c) .nilFunc).run Try.prog w = .ok (.bool false) w := by
  have h : ∀ d : Nat, (Op.equalIn (d + 1) 34 (.func (.func f) #[] c) .nilFunc).run Try.prog w = .ok false w := fun d => by
    simp [Op.equalIn, run_underlying Try.underlying34]
  simp only [binOp]
  simp [Op.equal, Op.maxDepth, h 9999]

/-- What holds between two words while the second loop runs. -/
def W2J (lp : Loop) (l : Nat) (Ds : List Nat) (w : World) (Wb : Nat) (lv : Int) (s : ByteArray) (vW : Value) (Wd : List (List UInt8)) (ws : List (List UInt8)) (W : World) : Prop :=
  ∃ k : Nat, k ≤ Wd.length ∧ WL lp l Ds w Wb (Wb + 1) lv s vW Wd k W ∧ Wd.drop k = ws

set_option maxRecDepth 100000 in
set_option maxHeartbeats 4000000 in
theorem textWords_in (s : ByteArray) (lv : Int) (hs : s.size ≤ 1048576) (w : World) :
    CallsIn Fence.wide 5 Try.prog 6 #[.string s, .int .i64 lv] w fun e w' => e = .returned (.bool true) ∧ Below w.heap.size w w' := by
  refine callsIn_of_wp_marks Try.func6 rfl trivial ?_ rfl
  simp only [Try.ntmps6, List.size_toArray, List.length_cons, List.length_nil, Nat.reduceAdd, Nat.reduceSub, Array.replicate_succ, Array.replicate_zero, List.push_toArray, List.append_toArray, List.nil_append, List.cons_append]
  have qn := fun X => seq_none X 29 #[.pointer (some ⟨w.heap.size + 1 + 1, 0, none⟩)]
  have hWd := hide (fun X => refWords_any s hs X)
  gi_wp2_with (first | (refine ⟨trivial, ?_⟩; gi_at_call 19; refine (words_in _ _ _).mono ?_; rintro e w' ⟨rfl, rfl⟩) | (refine ⟨trivial, ?_⟩; gi_at_call 20; refine (callsIn_wide.2 (hWd.out _)).mono ?_; rintro e w1 ⟨aW, cW, rfl, oW, BW⟩))
  rename_i K hK
  have hcnt : Hid ((wordsL s.data.toList).length ≤ s.size + 1) := by
    have h1 := spanW_le s.data.toList []
    have h2 := words_count (wordsL s.data.toList)
    rw [size_len] at h1
    unfold Hid
    unfold wordsL at h2 ⊢
    simp at h1
    omega
  have hWt := hide (wordsL_pos s.data.toList)
  have oW' := oW
  have hWl : Hid (wordsL s.data.toList = wordsL s.data.toList) := rfl
  obtain ⟨Wd, hWdd⟩ : ∃ Wd, wordsL s.data.toList = Wd := ⟨_, rfl⟩
  rw [hWdd] at oW hcnt ⊢
  have hWdd := hide hWdd
  clear hWt oW' hWl hWd qn
  have zW := BW.size
  simp only [World.size_alloc] at zW
  have b0 : Boxed (((w.alloc (.cells #[.int .i64 lv] 3)).alloc (.cells #[.bool false] 4)).alloc (.cells #[.string s] 9)) w.heap.size 3 (.int .i64 lv) := ((Boxed.new w 3 (.int .i64 lv)).alloc _).alloc _
  have b1 : Boxed (((w.alloc (.cells #[.int .i64 lv] 3)).alloc (.cells #[.bool false] 4)).alloc (.cells #[.string s] 9)) (w.heap.size + 1) 4 (.bool false) := by
    have h := (Boxed.new (w.alloc (.cells #[.int .i64 lv] 3)) 4 (.bool false)).alloc (.cells #[.string s] 9)
    rwa [World.size_alloc] at h
  have b2 : Boxed (((w.alloc (.cells #[.int .i64 lv] 3)).alloc (.cells #[.bool false] 4)).alloc (.cells #[.string s] 9)) (w.heap.size + 1 + 1) 9 (.string s) := by
    have h := Boxed.new ((w.alloc (.cells #[.int .i64 lv] 3)).alloc (.cells #[.bool false] 4)) 9 (.string s)
    rwa [World.size_alloc, World.size_alloc] at h
  have B0 : Below w.heap.size w (((w.alloc (.cells #[.int .i64 lv] 3)).alloc (.cells #[.bool false] 4)).alloc (.cells #[.string s] 9)) := (((Below.refl _ w).alloc (Nat.le_refl _) _).alloc (by simp) _).alloc (by simp; omega) _
  have hlt3 : (((w.alloc (.cells #[.int .i64 lv] 3)).alloc (.cells #[.bool false] 4)).alloc (.cells #[.string s] 9)).heap.size = w.heap.size + 3 := by simp
  generalize ((w.alloc (.cells #[.int .i64 lv] 3)).alloc (.cells #[.bool false] 4)).alloc (.cells #[.string s] 9) = wz at b0 b1 b2 B0 hlt3 oW BW
  have i5 : WA w w1.heap.size (w1.heap.size + 1) lv s (.slice aW Wd.length cW) Wd 0 ((w1.alloc (.cells #[.slice aW Wd.length cW] 36)).alloc (.cells #[.int .i64 0] 3)) := by
    refine ⟨((BW.block _ (by omega)).trans b0 |> fun h : Boxed w1 _ _ _ => (h.alloc _).alloc _), ((BW.block _ (by omega)).trans b1 |> fun h : Boxed w1 _ _ _ => (h.alloc _).alloc _), ((BW.block _ (by omega)).trans b2 |> fun h : Boxed w1 _ _ _ => (h.alloc _).alloc _), (Boxed.new w1 _ _).alloc _, ?_, ?_, ⟨by omega, by omega, fun j hj => ?_⟩, ?_⟩
    · have h := Boxed.new (w1.alloc (.cells #[.slice aW Wd.length cW] 36)) 3 (.int .i64 0)
      rwa [World.size_alloc] at h
    · have h2 : OwnS w1 w.heap.size (.slice aW Wd.length cW) (texts Wd) := by
        obtain ⟨hl, h⟩ := oW
        refine ⟨hl, ?_⟩
        rcases h with h | ⟨g, cap, cur, hv, hbg, hh, r⟩
        · exact .inl h
        · exact .inr ⟨g, cap, cur, hv, by omega, hh, r⟩
      exact (h2.alloc _).alloc _
    · exact (oW.lt j hj).2
    · have h3 : Below w.heap.size w w1 := B0.trans (BW.mono B0.size)
      exact (h3.alloc h3.size _).alloc (by have := h3.size; simp; omega) _
  obtain ⟨W5, hW5⟩ : ∃ W5, (w1.alloc (.cells #[.slice aW Wd.length cW] 36)).alloc (.cells #[.int .i64 0] 3) = W5 := ⟨_, rfl⟩
  rw [hW5] at i5 ⊢
  clear hW5 b0 b1 b2 B0 hlt3 oW BW zW
  generalize w1.heap.size = Wb at i5 ⊢
  generalize hA : Act.mk _ _ = A
  have HK : ∀ k D W2, WA w Wb (Wb + 1) lv s (.slice aW Wd.length cW) Wd k W2 → W2.heap[D]? = some (.deferred (some [])) → Wb + 1 < D → K { A with defers := { target := .collected D, args := #[] } :: A.defers } W2 := by
    intro k D W2 hai hd hD
    subst hA
    refine hK _ _ ?_
    have cN := hai.nb.cell
    have fN := hai.nb.frozen
    have i7 := hai.setN 0
    have hd7 : (W2.setCell ⟨Wb + 1, 0, none⟩ (.int .i64 0)).heap[D]? = some (.deferred (some [])) := by rw [Below.heap_setCell _ _ _ _ (by simp; omega)]; exact hd
    have I7 := hide (And.intro i7 hd7)
    clear i7 hd7 hd hai i5 hK
    gi_wp2_with fail
    obtain ⟨i7, hd7⟩ := I7.out
    clear I7 cN fN
    generalize W2.setCell ⟨Wb + 1, 0, none⟩ (.int .i64 0) = W6 at i7 hd7 ⊢
    refine range_enter rfl (by decide) (gf := 29) (lb := #[.pointer (some ⟨w.heap.size + 1 + 1, 0, none⟩)]) rfl trivial (enters_of Try.func29 (by kernel_rfl) rfl) ?_
    intro fn hfn
    have hDlt : D < W6.heap.size := (Array.getElem?_eq_some_iff.1 hd7).1
    generalize hrec : recOf fn _ _ _ _ _ = r
    have i8 := WL.enter (Ds := [D]) i7 (by intro x hx; simp at hx; subst hx; exact ⟨hd7, hD⟩) (r .ready none)
    have hsz8 : ((W6.alloc (.deferred (some []))).alloc (.loop (r .ready none))).heap.size = W6.heap.size + 2 := by simp
    generalize (W6.alloc (.deferred (some []))).alloc (.loop (r .ready none)) = W8 at i8 hsz8 ⊢
    refine (words1_in 4 (by decide) (W6.heap.size + 1) (w.heap.size + 1 + 1) s (by omega) (W2J (r .ready none) (W6.heap.size + 1) [W6.heap.size, D] w Wb lv s (.slice aW Wd.length cW) Wd) Never W8
      (fun ws W1 h => by obtain ⟨k, _, h, _⟩ := h; exact h.ai.bs.cell) (fun ws W1 W2 h g => by rw [hsz8] at g; obtain ⟨k, hk, h, hr⟩ := h; exact ⟨k, hk, h.kept g (by omega), hr⟩) ?_ ⟨0, Nat.zero_le _, i8, by rw [hWdd.out]; rfl⟩).mono ?_
    · rintro u ws W1 p ⟨k, hkp, hI, hdr⟩ hit hu1 hu2
      obtain ⟨hk1, hk2, hk3⟩ := drop_word hdr
      rw [hsz8] at hit ⊢
      have hl := hI.loop
      rw [← hrec] at hl
      refine range_round (a₁ := ?A2) hfn hl rfl ?_ ?_
      rotate_left
      · intro K hK
        gi_wp2
        exact hK
      · rw [hrec]
        have HI := hide (hI.put (r .busy none))
        have hit2 : Hid ((W1.putObj (W6.heap.size + 1) (.loop (r .busy none))).heap[W6.heap.size + 2]? = some (.stringIter s p)) := (World.putObj_heap_other (by omega)).trans hit
        have cN := HI.out.ai.nb.cell
        have fN := HI.out.ai.nb.frozen
        have cW' := HI.out.ai.wb.cell
        obtain ⟨g, hg⟩ : ∃ g, aW = some ⟨g, 0, none⟩ := by
          rcases HI.out.ai.row.split with ⟨_, h⟩ | ⟨g, cap, h, _⟩
          · have h2 : (texts Wd).length = 0 := by rw [h]; rfl
            unfold texts at h2
            rw [List.length_map] at h2
            omega
          · exact ⟨g, (Value.slice.inj h).1⟩
        subst hg
        have cU : (W1.putObj (W6.heap.size + 1) (.loop (r .busy none))).cell? ⟨g, k, none⟩ = some (.string ⟨u.toArray⟩) := by
          have h := HI.out.ai.row.cells k ⟨u.toArray⟩ (by simp [texts, hk1, hk2])
          rwa [Nat.zero_add] at h
        have hge : ¬ (Wd.length : Int) ≤ (k : Int) := by omega
        have hkI : (k : Int) < (Wd.length : Int) := by omega
        have hkB : k < 1048577 := by have := hcnt.out; omega
        have hk3 := hide hk3
        have hit3 : Hid (W1.heap[W6.heap.size + 2]? = some (.stringIter s p)) := hit
        clear hl hI hrec i8 i7 hd7 hdr hk2 hit
        generalize W1.putObj (W6.heap.size + 1) (.loop (r .busy none)) = W9 at HI cN fN cW' cU hit2 ⊢
        gi_wp2
        have z := HI.out.setN ((k : Int) + 1)
        have hz : (W9.setCell ⟨Wb + 1, 0, none⟩ (.int .i64 ((k : Int) + 1))).heap[W6.heap.size + 2]? = some (.stringIter s p) := by
          rw [Below.heap_setCell _ _ _ _ (by have := HI.out.ol; simp; omega)]; exact hit2.out
        have e1 : ((k + 1 : Nat) : Int) = (k : Int) + 1 := by omega
        exact ⟨z.loop, .inl ⟨rfl, ⟨k + 1, by omega, by rw [e1]; exact z.put _, hk3.out⟩, ((World.putObj_heap_other (by omega)).trans hz).trans hit3.out.symm⟩⟩
    · rintro e W' ⟨⟨v, rfl⟩, ⟨k, hkL, hI, hdr⟩ | hI⟩
      · have hl := hI.loop
        rw [← hrec] at hl
        refine range_done hl ?_
        rw [hrec]
        have h2 := hI.put (r .exhausted none)
        obtain rfl : k = Wd.length := by have := List.drop_eq_nil_iff.1 hdr; omega
        have cN := h2.ai.nb.cell
        have cQ' := h2.ai.wb.cell
        have H2 := hide h2
        clear hI hl hrec i8 i7 hdr hd7 h2
        generalize W'.putObj (W6.heap.size + 1) (.loop (r .exhausted none)) = W7 at H2 cN cQ' ⊢
        gi_wp2_with fail
        refine ⟨trivial, ?_⟩
        refine (callsIn_wide.2 (works_any _)).mono ?_
        rintro e W9 ⟨rfl, B9⟩
        have gB : W7.grownBy W9 (some (Wb + 1 + 1)) := grown_of_below B9
        have H8 := hide (H2.out.ai.kept gB (by omega))
        have hD8 : Hid (W9.heap[W6.heap.size]? = some (.deferred (some [])) ∧ W9.heap[D]? = some (.deferred (some []))) := by
          have d1 := H2.out.dfr W6.heap.size (by simp)
          have d2 := H2.out.dfr D (by simp)
          refine ⟨?_, ?_⟩
          · rw [B9.block _ (Array.getElem?_eq_some_iff.1 d1).1]; exact d1
          · rw [B9.block _ (Array.getElem?_eq_some_iff.1 d2).1]; exact d2
        have cR8 := H8.out.res.cell
        have fR8 := H8.out.res.frozen
        have hod := hide (H2.out.od W6.heap.size (by simp))
        clear gB B9 cN cQ' H2
        gi_wp2
        obtain ⟨x1, x2⟩ := hD8.out
        obtain ⟨o1, o2, o3⟩ := H8.out.o
        obtain ⟨p1, p2⟩ := hod.out
        exact words_leave w _ _ D W6.heap.size (by omega) rfl (by rw [Below.heap_setCell _ _ _ _ (by simp; omega)]; exact x1) (by rw [Below.heap_setCell _ _ _ _ (by simp; omega)]; exact x2) (H8.out.res.set _) (H8.out.bel.setCell (by simp) _) (by omega) (by omega)
      · exact hI.elim
  refine range_enter rfl (by decide) (gf := 29) (lb := #[.pointer (some ⟨w.heap.size + 1 + 1, 0, none⟩)]) (by subst hA; rfl) trivial (enters_of Try.func29 (by kernel_rfl) rfl) ?_
  intro fn hfn
  generalize hrec : recOf fn _ _ _ _ _ = r
  have i6 := WL.enter (Ds := []) i5 (by simp) (r .ready none)
  have hsz6 : ((W5.alloc (.deferred (some []))).alloc (.loop (r .ready none))).heap.size = W5.heap.size + 2 := by simp
  generalize (W5.alloc (.deferred (some []))).alloc (.loop (r .ready none)) = W8 at i6 hsz6 ⊢
  refine (words1_in 4 (by decide) (W5.heap.size + 1) (w.heap.size + 1 + 1) s (by omega) (W2J (r .ready none) (W5.heap.size + 1) [W5.heap.size] w Wb lv s (.slice aW Wd.length cW) Wd)
    (fun W => ∃ k, WL (r .done (some (.exit 0))) (W5.heap.size + 1) [W5.heap.size] w Wb (Wb + 1) lv s (.slice aW Wd.length cW) Wd k W) W8
    (fun ws W1 h => by obtain ⟨k, _, h, _⟩ := h; exact h.ai.bs.cell) (fun ws W1 W2 h g => by rw [hsz6] at g; obtain ⟨k, hk, h, hr⟩ := h; exact ⟨k, hk, h.kept g (by omega), hr⟩) ?_ ⟨0, Nat.zero_le _, i6, by rw [hWdd.out]; rfl⟩).mono ?_
  · rintro u ws W1 p ⟨k, hkp, hI, hdr⟩ hit hu1 hu2
    obtain ⟨hk1, hk2, hk3⟩ := drop_word hdr
    rw [hsz6] at hit ⊢
    have hl := hI.loop
    rw [← hrec] at hl
    subst hA
    refine range_round (a₁ := ?A1) hfn hl rfl ?_ ?_
    rotate_left
    · intro K hK
      gi_wp2
      exact hK
    · rw [hrec]
      have HI := hide (hI.put (r .busy none))
      have hit2 : Hid ((W1.putObj (W5.heap.size + 1) (.loop (r .busy none))).heap[W5.heap.size + 2]? = some (.stringIter s p)) := (World.putObj_heap_other (by omega)).trans hit
      have cN := HI.out.ai.nb.cell
      have fN := HI.out.ai.nb.frozen
      have cL := HI.out.ai.leave.cell
      have hkB : k < 1048577 := by have := hcnt.out; omega
      have hk3 := hide hk3
      have hit3 : Hid (W1.heap[W5.heap.size + 2]? = some (.stringIter s p)) := hit
      clear hl hI hrec i6 i5 HK hK hdr hk2 hit
      generalize W1.putObj (W5.heap.size + 1) (.loop (r .busy none)) = W9 at HI cN fN cL hit2 ⊢
      by_cases hkl : (k : Int) = lv
      · have hb : ((k : Int) == lv) = true := by simpa using hkl
        clear hkl
        gi_wp2
        exact ⟨HI.out.loop, .inr ⟨rfl, k, HI.out.put _⟩⟩
      · have hb : ((k : Int) == lv) = false := by simpa using hkl
        clear hkl
        gi_wp2
        have z := HI.out.setN ((k : Int) + 1)
        have hz : (W9.setCell ⟨Wb + 1, 0, none⟩ (.int .i64 ((k : Int) + 1))).heap[W5.heap.size + 2]? = some (.stringIter s p) := by
          rw [Below.heap_setCell _ _ _ _ (by have := HI.out.ol; simp; omega)]; exact hit2.out
        have e1 : ((k + 1 : Nat) : Int) = (k : Int) + 1 := by omega
        exact ⟨z.loop, .inl ⟨rfl, ⟨k + 1, by omega, by rw [e1]; exact z.put _, hk3.out⟩, ((World.putObj_heap_other (by omega)).trans hz).trans hit3.out.symm⟩⟩
  · rintro e W' ⟨⟨v, rfl⟩, ⟨k, _, hI, hdr⟩ | ⟨k, hI⟩⟩
    · have hl := hI.loop
      rw [← hrec] at hl
      refine range_done hl ?_
      rw [hrec]
      have h2 := hI.put (r .exhausted none)
      exact HK k _ _ h2.ai (h2.dfr _ (by simp)) (h2.od _ (by simp)).1
    · have hl := hI.loop
      rw [← hrec] at hl
      refine range_left hl ?_
      rw [hrec]
      have h2 := hI.put (r .exhausted (some (.exit 0)))
      have h3 := hide (HK k W5.heap.size _ h2.ai (h2.dfr _ (by simp)) (h2.od _ (by simp)).1)
      generalize ({ A with defers := { target := .collected W5.heap.size, args := #[] } :: A.defers } : Act) = A2 at h3 ⊢
      gi_wp2
      exact h3.out

theorem textWords_walk (s : ByteArray) (lv : Int) (hs : s.size ≤ 1048576) (w : World) :
    Calls Try.prog 6 #[.string s, .int .i64 lv] w fun e w' => e = .returned (.bool true) ∧ Below w.heap.size w w' := callsIn_wide.1 (textWords_in s lv hs w)

end Go.Proofs.Ytjfemhonhnomcaa
