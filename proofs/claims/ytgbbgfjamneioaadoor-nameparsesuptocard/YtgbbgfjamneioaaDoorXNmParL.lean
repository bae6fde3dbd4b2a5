/-
  The statement NameParses: its walk.
-/
import Derived.Test.YtgbbgfjamneioaaDoorXNmRPr
import Derived.Test.YtgbbgfjamneioaaDoorXNmOwn
import Derived.Test.YtgbbgfjamneioaaDoorXNmOncL
namespace Go.Proofs.YtgbbgfjamneioaaDoor
open Go.RowKit Go.Shelf Go.IntWalk
attribute [local go_sem] Oper.semAt_some

theorem seq_noneP (w : World) (f : Nat) (c : Array Value) : (binOp .eql 44 (.func (.func f) #[] c) .nilFunc).run Tryd.prog w = .ok (.bool false) w := by
  have h : ∀ d : Nat, (Op.equalIn (d + 1) 44 (.func (.func f) #[] c) .nilFunc).run Tryd.prog w = .ok false w := fun d => by
    simp [Op.equalIn, run_underlying Tryd.underlying44]
  simp only [binOp]
  simp [Op.equal, Op.maxDepth, h 9999]

theorem drop_wordP {l r : List (List UInt8)} {k : Nat} {x : List UInt8} (h : l.drop k = x :: r) : ∃ hk : k < l.length, l[k]'hk = x ∧ l.drop (k + 1) = r := by
  have hk : k < l.length := by
    rcases Nat.lt_or_ge k l.length with h' | h'
    · exact h'
    · rw [List.drop_eq_nil_of_le h'] at h; cases h
  rw [List.drop_eq_getElem_cons hk] at h
  exact ⟨hk, (List.cons.inj h).1, (List.cons.inj h).2⟩

set_option maxRecDepth 100000 in
/-- How the law is left: the two loops' marks; the answer is what the variable holds. -/
theorem parses_leave (w W : World) (tmps : Array Value) (R : Bool) (D1 D2 : Nat) (hne : D2 ≠ D1) (bx : List (Nat × TypeId × Value)) (h : BSt w bx [D2, D1] W) (b : Nat) (h0 : bx[1]? = some (b, 4, .bool R)) (ht : tmps[4]? = some (.pointer (some ⟨b, 0, none⟩))) :
    LeavesInM Fence.wide 8 Tryd.prog Tryd.f4 tmps (fun e w' => e = .returned (.bool R) ∧ Below w.heap.size w w') [{ target := .collected D2, args := #[] }, { target := .collected D1, args := #[] }] .returning W := by
  have h1 := (h.dfr D2 (by simp)).2
  have k2 := h.take (by simpa using hne)
  have h2 := (k2.dfr D1 (by simp)).2
  have k3 := k2.take (by simp)
  have c1 := (k3.get 1 h0).cell
  refine ⟨by simp, .inl ⟨_, _, rfl, run_takeDeferred h1, by simp, .inl ⟨_, _, rfl, run_takeDeferred h2, ?_⟩⟩⟩
  exact ⟨.bool R, by simp [results, Tryd.results4, go_sem, ht, c1, Array.getD_eq_getD_getElem?], rfl, k3.bel⟩

theorem OwnS.putP {w : World} {base : Nat} {v : Value} {ss : List ByteArray} (h : OwnS w base v ss) {l : Nat} {r : Loop} (hl : w.heap[l]? = some (.loop r)) (o : Obj) : OwnS (w.putObj l o) base v ss := ownsRow_putObj h o hl rfl
theorem OwnS.setBoxP {w : World} {base : Nat} {v : Value} {ss : List ByteArray} (h : OwnS w base v ss) {b : Nat} {u : Value} (hb : Boxed w b 3 u) (u' : Value) : OwnS (w.setCell ⟨b, 0, none⟩ u') base v ss :=
  World.ownsRow.kept h (grownBy_setCell' w b u') (.inr (Boxed.not_row hb (by decide) h).symm)

theorem BSt.grownA {w A C : World} {bx : List (Nat × TypeId × Value)} {ds : List Nat} (h : BSt w bx ds A) {v : Value} {xs : List (Int × ByteArray)} (ho : OwnA A w.heap.size v xs) (hg : A.grownBy C v.ownBlock) (ht : ∀ x ∈ bx, x.2.1 ≠ 52) : BSt w bx ds C := by
  have key : ∀ (k : Nat) (o : Obj), A.heap[k]? = some o → (∀ c, o ≠ .cells c 52 (0, 0)) → C.heap[k]? = A.heap[k]? := fun k o hk hn =>
    hg.block k (Array.getElem?_eq_some_iff.1 hk).1 (fun e => by
      obtain ⟨c, hc⟩ := row_type ho k e.symm
      rw [hk] at hc
      cases hc
      exact hn c rfl)
  refine ⟨fun i x hx => ?_, h.nd, fun D hD => ?_, h.bel.grown hg h.bel.size (fun k hk => (World.ownsRow.lt ho k hk).1)⟩
  · have h1 := h.box i x hx
    refine ⟨h1.1, (key x.1 _ h1.2 (fun c e => ?_)).trans h1.2⟩
    injection e with e1 e2 e3
    exact ht x (List.mem_of_getElem? hx) e2
  · have h1 := h.dfr D hD
    exact ⟨h1.1, (key D _ h1.2 (fun c e => by cases e)).trans h1.2⟩
theorem pans_nice (s : ByteArray) : (∀ x ∈ pansN s, x.2.size ≤ 1048576) ∧ (pansN s).length ≤ 1048576 := by
  have key : ∀ n : List (Int × ByteArray), nameL n = true → (∀ x ∈ n, x.2.size ≤ 1048576) ∧ n.length ≤ 1048576 := fun n h => by
    refine ⟨name_size h, ?_⟩
    have := (name_all h).1
    omega
  unfold pansN
  split
  · simp
  · split
    · rename_i h
      unfold okT at h
      rw [Bool.and_eq_true] at h
      exact key _ h.1
    · simp

def NvrP (_ : World) : Prop := False
/-- The variables of the law. -/
def parB (w : World) (lv : Int) (s : ByteArray) (Sb Lb : Nat) (v : Value) (k : Int) : List (Nat × TypeId × Value) :=
  [(w.heap.size, 3, .int .i64 lv), (w.heap.size + 1, 4, .bool false), (Sb, 9, .string s), (Lb, 46, v), (Lb + 1, 3, .int .i64 k)]

set_option maxRecDepth 100000 in
set_option maxHeartbeats 4000000 in
theorem nameParses_in (s : ByteArray) (lv : Int) (hs : s.size ≤ 1048576) (m : Int) (w : World) (hT : TabN w) (hM : MLn w m) :
    CallsIn Fence.wide 8 Tryd.prog 4 #[.string s, .int .i64 lv] w fun e w' => e = .returned (.bool true) ∧ Below w.heap.size w w' := by
  refine callsIn_of_wp_marks Tryd.func4 rfl trivial ?_ rfl
  simp only [Tryd.ntmps4, List.size_toArray, List.length_cons, List.length_nil, Nat.reduceAdd, Nat.reduceSub, Array.replicate_succ, Array.replicate_zero, List.push_toArray, List.append_toArray, List.nil_append, List.cons_append]
  have HPS := hide (fun W (h1 : TabN W) (h2 : MLn W m) => callsIn_wide.1 (parseN_in s hs m W h1 h2))
  have HRP := hide (fun W => rparse_any s hs W)
  have HPT := hide (fun W => rparts_any s hs W)
  have HAN := hide (pans_nice s)
  have hcnt : Hid ((pcs [] s.data.toList).length ≤ s.size + 1) := by have h := (pcs_size s.data.toList []).1; rw [bs_len] at h; exact h
  generalize pansN s = AN at *
  generalize pansE s = AE at *
  obtain ⟨L, hLd⟩ : ∃ L, pcs [] s.data.toList = L := ⟨_, rfl⟩
  rw [hLd] at HPT hcnt
  replace hLd := hide hLd
  have HT := hide hT
  have HM := hide hM
  clear hT hM
  have b0 := ((BSt.start w).new 3 (.int .i64 lv)).new 4 (.bool false)
  simp only [World.size_alloc, List.nil_append, List.cons_append] at b0
  have hd1 := hide (HPS.out _ (HT.out.below b0.bel) (HM.out.below b0.bel))
  gi_wp2_with fail
  refine ⟨trivial, ?_⟩
  refine (callsIn_wide.2 hd1.out).mono ?_
  rintro e w3 ⟨ax, nx, cx, rfl, ox, B3⟩
  have b3 := hide (b0.below B3)
  have HOX := hide ox
  have hd2 := hide (HPS.out _ (HT.out.below b3.out.bel) (HM.out.below b3.out.bel))
  clear hd1 b0 ox B3 HPS
  gi_wp2_with fail
  refine ⟨trivial, ?_⟩
  refine (callsIn_wide.2 hd2.out).mono ?_
  rintro e w4 ⟨ay, ny, cy, rfl, oy, B4⟩
  have b4 := hide (b3.out.below B4)
  have HOX4 := hide (HOX.out.below B4)
  have hd3 := hide (HRP.out w4)
  have HOY := hide oy
  have xlt : ∀ j, (Value.slice ax nx cx).ownBlock = some j → j < w3.heap.size := fun j hj => (World.ownsRow.lt HOX.out j hj).2
  have ygt : ∀ j, (Value.slice ay ny cy).ownBlock = some j → w3.heap.size ≤ j := fun j hj => (World.ownsRow.lt oy j hj).1
  have s34 := B4.size
  have HXY : Hid ((Value.slice ay ny cy).ownBlock = none ∨ (Value.slice ay ny cy).ownBlock ≠ (Value.slice ax nx cx).ownBlock) := by
    rcases hq : (Value.slice ay ny cy).ownBlock with _ | j
    · exact .inl rfl
    · refine .inr (fun e => ?_)
      have h1 := ygt j hq
      have h2 := xlt j e.symm
      omega
  clear hd2 HOX oy B4 ygt HRP b3
  gi_wp2_with fail
  refine ⟨trivial, ?_⟩
  refine (callsIn_wide.2 hd3.out).mono ?_
  rintro e w5 ⟨aw, nw, cw, rfl, ow, B5⟩
  have ugt : ∀ j, (Value.slice aw nw cw).ownBlock = some j → w4.heap.size ≤ j := fun j hj => (World.ownsRow.lt ow j hj).1
  have HXW : Hid ((Value.slice aw nw cw).ownBlock = none ∨ (Value.slice aw nw cw).ownBlock ≠ (Value.slice ax nx cx).ownBlock) := by
    rcases hq : (Value.slice aw nw cw).ownBlock with _ | j
    · exact .inl rfl
    · refine .inr (fun e => ?_)
      have h1 := ugt j hq
      have h2 := xlt j e.symm
      omega
  have s45 := B5.size
  have b5 := hide (b4.out.below B5)
  have hx0 : Hid (OwnA w5 w.heap.size (.slice ax nx cx) AN) := (HOX4.out.below B5).rebase (by simp only [World.size_alloc]; omega)
  have hd4 := hide (own12_any _ _ _ ax nx cx ay ny cy aw nw cw AN w5 hx0.out (HOY.out.below B5) ow HAN.out.1 HAN.out.2 HXY.out HXW.out b5.out.bel.size)
  clear hd3 HOX4 HOY ow B5 ugt xlt HXY HXW b4
  have ee : (AE == AE) = true := by simp
  gi_wp2_with fail
  refine ⟨trivial, ?_⟩
  refine (callsIn_wide.2 hd4.out).mono ?_
  rintro e w6 ⟨rfl, g6⟩
  have b6 := hide (b5.out.grownA hx0.out g6 (by intro y hy; simp only [List.mem_cons, List.not_mem_nil, or_false] at hy; rcases hy with rfl | rfl; exact (by decide : (3 : TypeId) ≠ 52); exact (by decide : (4 : TypeId) ≠ 52)))
  clear hd4 b5 hx0 g6
  have qn := fun X => seq_noneP X 38 #[.pointer (some ⟨w6.heap.size, 0, none⟩)]
  gi_wp2_with (first | (refine ⟨trivial, ?_⟩; gi_at_call 19; refine (callsIn_wide.2 (parts_any s _)).mono ?_; rintro e w' ⟨rfl, rfl⟩) | (refine ⟨trivial, ?_⟩; gi_at_call 20; refine (callsIn_wide.2 (HPT.out _)).mono ?_; rintro e w1 ⟨aL, cL, rfl, oL, BL⟩))
  rename_i K hK
  clear qn HPT HAN
  have b7 := b6.out.new 9 (.string s)
  simp only [List.nil_append, List.cons_append] at b7
  have b1 := ((b7.below BL).new 46 (.slice aL L.length cL)).new 3 (.int .i64 0)
  simp only [World.size_alloc, List.nil_append, List.cons_append] at b1
  have o1 : OwnS ((w1.alloc (.cells #[.slice aL L.length cL] 46)).alloc (.cells #[.int .i64 0] 3)) w.heap.size (.slice aL L.length cL) (stxs L) := by
    have h2 : OwnS w1 w.heap.size (.slice aL L.length cL) (stxs L) := by
      have hz := b6.out.bel.size
      obtain ⟨hl, h⟩ := oL
      refine ⟨hl, ?_⟩
      rcases h with h | ⟨g, cap, cur, hv, hbg, hh, r⟩
      · exact .inl h
      · exact .inr ⟨g, cap, cur, hv, by simp at hbg; omega, hh, r⟩
    exact (h2.alloc _).alloc _
  generalize (w1.alloc (.cells #[.slice aL L.length cL] 46)).alloc (.cells #[.int .i64 0] 3) = W5 at b1 o1 ⊢
  generalize w1.heap.size = Lb at b1 ⊢
  clear b7 oL BL b6
  generalize w6.heap.size = Sb at b1 ⊢
  have b2 : BSt w (parB w lv s Sb Lb (.slice aL L.length cL) 0) [] W5 := b1
  clear b1
  generalize hA : Act.mk _ _ = A
  have HK : ∀ (k : Int) D W2, BSt w (parB w lv s Sb Lb (.slice aL L.length cL) k) [D] W2 → OwnS W2 w.heap.size (.slice aL L.length cL) (stxs L) → K { A with defers := { target := .collected D, args := #[] } :: A.defers } W2 := by
    intro k D W2 hb ho
    subst hA
    refine hK _ _ ?_
    have cN := (hb.get 4 rfl).cell
    have fN := (hb.get 4 rfl).frozen
    have i7 : BSt w (parB w lv s Sb Lb (.slice aL L.length cL) 0) [D] (W2.setCell ⟨Lb + 1, 0, none⟩ (.int .i64 0)) := hb.set 4 rfl _
    have o7 := ho.setBoxP (hb.get 4 rfl) (.int .i64 0)
    have I7 := hide (And.intro i7 o7)
    clear i7 o7 hb ho b2 o1 hK
    gi_wp2_with fail
    obtain ⟨i7, o7⟩ := I7.out
    clear I7 cN fN
    generalize W2.setCell ⟨Lb + 1, 0, none⟩ (.int .i64 0) = W6 at i7 o7 ⊢
    refine range_enter rfl (by decide) (gf := 38) (lb := #[.pointer (some ⟨Sb, 0, none⟩)]) rfl trivial (enters_of Tryd.func38 (by kernel_rfl) rfl) ?_
    intro fn hfn
    generalize hrec : recOf fn _ _ _ _ _ = r
    have hDlt : D < W6.heap.size := (Array.getElem?_eq_some_iff.1 (i7.dfr D (by simp)).2).1
    have i8 := LSt.enter i7 (r .ready none)
    have o8 : OwnS ((W6.alloc (.deferred (some []))).alloc (.loop (r .ready none))) w.heap.size (.slice aL L.length cL) (stxs L) := (o7.alloc _).alloc _
    generalize (W6.alloc (.deferred (some []))).alloc (.loop (r .ready none)) = W8 at i8 o8 ⊢
    have hDD : W6.heap.size ≠ D := by omega
    clear i7 o7 hDlt
    generalize W6.heap.size + 1 = l at i8 ⊢
    generalize W6.heap.size = D2 at i8 hDD hrec ⊢
    refine (parts1_in 7 (by decide) l Sb s hs (fun ws W => ∃ k : Nat, k ≤ L.length ∧ LSt w (parB w lv s Sb Lb (.slice aL L.length cL) k) [D2, D] l (r .ready none) W ∧ OwnS W w.heap.size (.slice aL L.length cL) (stxs L) ∧ L.drop k = ws) NvrP W8
      ?_ ?_ ?_ ⟨0, Nat.zero_le _, i8, o8, by rw [hLd.out]; rfl⟩).mono ?_
    · rintro ws W ⟨_, _, h, _⟩
      exact (h.st.get 2 rfl).cell
    · rintro ws W3 W4 ⟨k, hk, h, ho, hd⟩ hb
      exact ⟨k, hk, h.below hb, ho.belowA hb, hd⟩
    · rintro u ws W3 ⟨k, hkp, hI, ho, hdr⟩ hu
      obtain ⟨hk1, hk2, hk3⟩ := drop_wordP hdr
      have hl := hI.loop
      have hp := ho.putP hl (.loop (r .busy none))
      rw [← hrec] at hl
      refine range_round (a₁ := ?A2) hfn hl rfl ?_ ?_
      rotate_left
      · intro K hK
        gi_wp2
        exact hK
      · rw [hrec]
        have HI := hide (hI.put (r .busy none))
        have cN := (HI.out.st.get 4 rfl).cell
        have fN := (HI.out.st.get 4 rfl).frozen
        have cL' := (HI.out.st.get 3 rfl).cell
        obtain ⟨g, hg⟩ : ∃ g, aL = some ⟨g, 0, none⟩ := by
          rcases hp.split with ⟨_, h⟩ | ⟨g, cap, h, _⟩
          · have h2 : (stxs L).length = 0 := by rw [h]; rfl
            rw [stxs_len] at h2
            omega
          · exact ⟨g, (Value.slice.inj h).1⟩
        subst hg
        have cU : (W3.putObj l (.loop (r .busy none))).cell? ⟨g, k, none⟩ = some (.string ⟨u.toArray⟩) := by
          show _ = some (Value.string (stx u))
          have h := hp.cells k (stx u) (by rw [stxs_get L k hk1, hk2])
          rwa [Nat.zero_add] at h
        have hge : ¬ (L.length : Int) ≤ (k : Int) := by omega
        have hkI : (k : Int) < (L.length : Int) := by omega
        have hkB : k < 1048577 := by have := hcnt.out; omega
        have HP := hide hp
        replace hk3 := hide hk3
        clear hl hI hrec i8 o8 hdr hk2 ho hp
        generalize W3.putObj l (.loop (r .busy none)) = W9 at HI HP cN fN cL' cU ⊢
        gi_wp2
        have e1 : ((k + 1 : Nat) : Int) = (k : Int) + 1 := by omega
        have z : LSt w (parB w lv s Sb Lb (.slice (some ⟨g, 0, none⟩) L.length cL) ((k : Int) + 1)) [D2, D] l (r .busy none) (W9.setCell ⟨Lb + 1, 0, none⟩ (.int .i64 ((k : Int) + 1))) := HI.out.set 4 rfl _
        have zo := HP.out.setBoxP (HI.out.st.get 4 rfl) (.int .i64 ((k : Int) + 1))
        exact ⟨z.loop, .inl ⟨rfl, k + 1, by omega, by rw [e1]; exact z.put _, zo.putP z.loop _, hk3.out⟩⟩
    · rintro e W' ⟨⟨v, rfl⟩, ⟨k, hkL, hI, ho, hdr⟩ | hI⟩
      · have hl := hI.loop
        have hp := ho.putP hl (.loop (r .exhausted none))
        rw [← hrec] at hl
        refine range_done hl ?_
        rw [hrec]
        have h2 := hI.put (r .exhausted none)
        obtain rfl : k = L.length := by have := List.drop_eq_nil_iff.1 hdr; omega
        have cN := (h2.st.get 4 rfl).cell
        have cQ' := (h2.st.get 3 rfl).cell
        have H2 := hide h2
        have hWk := hide (fun W => works12_any W)
        clear hI hl hrec i8 o8 hdr h2 ho hp
        generalize W'.putObj l (.loop (r .exhausted none)) = W7 at H2 cN cQ' ⊢
        gi_wp2_with fail
        refine ⟨trivial, ?_⟩
        refine (callsIn_wide.2 (hWk.out _)).mono ?_
        rintro e W9 ⟨rfl, B9⟩
        have H8 := hide (H2.out.below B9)
        have cR8 := (H8.out.st.get 1 rfl).cell
        have fR8 := (H8.out.st.get 1 rfl).frozen
        clear B9 cN cQ' H2
        gi_wp2
        exact parses_leave w _ _ true D D2 hDD _ (H8.out.st.set 1 rfl (.bool true)) (w.heap.size + 1) rfl rfl
      · exact hI.elim
  refine range_enter rfl (by decide) (gf := 38) (lb := #[.pointer (some ⟨Sb, 0, none⟩)]) (by subst hA; rfl) trivial (enters_of Tryd.func38 (by kernel_rfl) rfl) ?_
  intro fn hfn
  generalize hrec : recOf fn _ _ _ _ _ = r
  have i6 := LSt.enter b2 (r .ready none)
  have o6 : OwnS ((W5.alloc (.deferred (some []))).alloc (.loop (r .ready none))) w.heap.size (.slice aL L.length cL) (stxs L) := (o1.alloc _).alloc _
  generalize (W5.alloc (.deferred (some []))).alloc (.loop (r .ready none)) = W8 at i6 o6 ⊢
  generalize W5.heap.size + 1 = l at i6 ⊢
  generalize W5.heap.size = D at i6 hrec ⊢
  refine (parts1_in 7 (by decide) l Sb s hs (fun ws W => ∃ k : Nat, k ≤ L.length ∧ LSt w (parB w lv s Sb Lb (.slice aL L.length cL) k) [D] l (r .ready none) W ∧ OwnS W w.heap.size (.slice aL L.length cL) (stxs L) ∧ L.drop k = ws)
    (fun W => ∃ k : Nat, LSt w (parB w lv s Sb Lb (.slice aL L.length cL) k) [D] l (r .done (some (.exit 0))) W ∧ OwnS W w.heap.size (.slice aL L.length cL) (stxs L)) W8
    ?_ ?_ ?_ ⟨0, Nat.zero_le _, i6, o6, by rw [hLd.out]; rfl⟩).mono ?_
  · rintro ws W ⟨_, _, h, _⟩
    exact (h.st.get 2 rfl).cell
  · rintro ws W3 W4 ⟨k, hk, h, ho, hd⟩ hb
    exact ⟨k, hk, h.below hb, ho.belowA hb, hd⟩
  · rintro u ws W3 ⟨k, hkp, hI, ho, hdr⟩ hu
    obtain ⟨hk1, hk2, hk3⟩ := drop_wordP hdr
    have hl := hI.loop
    have hp := ho.putP hl (.loop (r .busy none))
    rw [← hrec] at hl
    subst hA
    refine range_round (a₁ := ?A1) hfn hl rfl ?_ ?_
    rotate_left
    · intro K hK
      gi_wp2
      exact hK
    · rw [hrec]
      have HI := hide (hI.put (r .busy none))
      have cN := (HI.out.st.get 4 rfl).cell
      have fN := (HI.out.st.get 4 rfl).frozen
      have cLv := (HI.out.st.get 0 rfl).cell
      have HP := hide hp
      have hkB : k < 1048577 := by have := hcnt.out; omega
      replace hk3 := hide hk3
      clear hl hI hrec i6 o6 HK hK hdr hk2 ho hp b2 o1
      generalize W3.putObj l (.loop (r .busy none)) = W9 at HI HP cN fN cLv ⊢
      by_cases hkl : (k : Int) = lv
      · have hb : ((k : Int) == lv) = true := by simpa using hkl
        clear hkl
        gi_wp2
        exact ⟨HI.out.loop, .inr ⟨rfl, k, HI.out.put _, HP.out.putP HI.out.loop _⟩⟩
      · have hb : ((k : Int) == lv) = false := by simpa using hkl
        clear hkl
        gi_wp2
        have e1 : ((k + 1 : Nat) : Int) = (k : Int) + 1 := by omega
        have z : LSt w (parB w lv s Sb Lb (.slice aL L.length cL) ((k : Int) + 1)) [D] l (r .busy none) (W9.setCell ⟨Lb + 1, 0, none⟩ (.int .i64 ((k : Int) + 1))) := HI.out.set 4 rfl _
        have zo := HP.out.setBoxP (HI.out.st.get 4 rfl) (.int .i64 ((k : Int) + 1))
        exact ⟨z.loop, .inl ⟨rfl, k + 1, by omega, by rw [e1]; exact z.put _, zo.putP z.loop _, hk3.out⟩⟩
  · rintro e W' ⟨⟨v, rfl⟩, ⟨k, _, hI, ho, hdr⟩ | ⟨k, hI, ho⟩⟩
    · have hl := hI.loop
      have hp := ho.putP hl (.loop (r .exhausted none))
      rw [← hrec] at hl
      refine range_done hl ?_
      rw [hrec]
      exact HK k _ _ (hI.put (r .exhausted none)).st hp
    · have hl := hI.loop
      have hp := ho.putP hl (.loop (r .exhausted (some (.exit 0))))
      rw [← hrec] at hl
      refine range_left hl ?_
      rw [hrec]
      have h3 := hide (HK k D _ (hI.put (r .exhausted (some (.exit 0)))).st hp)
      generalize ({ A with defers := { target := .collected D, args := #[] } :: A.defers } : Act) = A2 at h3 ⊢
      gi_wp2
      exact h3.out


theorem nameParses_walk (s : ByteArray) (lv : Int) (m : Int) (w : World) (hT : TabN w) (hM : MLn w m) (hs : s.size ≤ 1048576) {p : Prop} (_ : p) :
    Calls Tryd.prog 4 #[.string s, .int .i64 lv] w fun e w' => e = .returned (.bool true) ∧ Below w.heap.size w w' := callsIn_wide.1 (nameParses_in s lv hs m w hT hM)

end Go.Proofs.YtgbbgfjamneioaaDoor
