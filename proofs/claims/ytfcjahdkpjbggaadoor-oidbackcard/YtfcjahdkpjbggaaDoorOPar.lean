/-
  oid.Parse reads a text as parseS says.
-/
import Derived.Test.YtfcjahdkpjbggaaDoorPSt
import Derived.Test.YtfcjahdkpjbggaaDoorParseS
import Derived.Test.YtfcjahdkpjbggaaDoorQRound
namespace Go.Proofs.YtfcjahdkpjbggaaDoor
open Go.RowKit Go.Shelf Go.IntWalk
attribute [local go_sem] Oper.semAt_some setCell_qN alloc_qN

/-- The builtin append, under a name that the walk doesn't open. -/
def appOf (ats : Array TypeId) (ty : TypeId) (args : Array Value) : Sem Value := Builtin.append_ ats ty args
theorem appOf_of (ats : Array TypeId) (ty : TypeId) (args : Array Value) : Builtin.append_ ats ty args = appOf ats ty args := rfl
attribute [local go_sem ↓] appOf_of

theorem app_int {W : World} {base : Nat} {v : Value} {acc : List Int} (h : OwnI W base v acc) (N : Int) (hl : acc.length ≤ 20) (hbase : base ≤ W.heap.size) :
    ∃ g c w2, (appOf #[22, 22] 22 #[v, .slice (some ⟨W.heap.size, 0, none⟩) 1 1]).run Tryd.prog (W.alloc (.cells #[.int .i64 N] 3)) = .ok (.slice (some ⟨g, 0, none⟩) (acc.length + 1) c) w2 ∧
      OwnI w2 base (.slice (some ⟨g, 0, none⟩) (acc.length + 1) c) (acc ++ [N]) ∧ (W.alloc (.cells #[.int .i64 N] 3)).grownBy w2 v.ownBlock := by
  obtain ⟨i0, hi, hz0, hz1, hz2⟩ := info_parts Tryd.infoI
  obtain ⟨v', w2, hrun, hown', hgrow, hnn⟩ := run_append_own (P := Tryd.prog) (w := W.alloc (.cells #[.int .i64 N] 3)) base 22 22 3 i0 (.int .i64 0) 1 8 Tryd.underlying22 hi hz0 hz1 hz2 rfl (by decide) v acc.length (acc.map (Value.int .i64)) (World.ownsRow.alloc h _) ⟨W.heap.size, 0, none⟩ 1 1 [.int .i64 N] rfl
    (by intro j u hj; match j, hj with | 0, hj => simp at hj; subst hj; rw [add_none]; simp) (by simp [Value.oneCell']) (by simp [maxLen]; omega) (by omega) (by simp; omega)
  have h1' : OwnI w2 base v' (acc ++ [N]) := by
    unfold OwnI
    rw [List.length_append, List.map_append]
    exact hown'
  rcases h1'.split with ⟨_, hx'⟩ | ⟨g, c', hv, _⟩
  · simp at hx'
  · rw [List.length_append] at hv
    subst hv
    exact ⟨g, c', w2, hrun, h1', hgrow⟩

theorem PSt.belowA {w : World} {sv : ByteArray} {lp : Loop} {acc : List Int} {e : Int} {v : Value} {W W' : World} (h : PSt w sv lp acc e v W) (hb : Below W.heap.size W W') : PSt w sv lp acc e v W' :=
  ⟨(hb.block _ (Array.getElem?_eq_some_iff.1 h.loop).1).trans h.loop, (hb.block _ (Array.getElem?_eq_some_iff.1 h.dfr).1).trans h.dfr, (hb.block _ h.arcs.lt).trans h.arcs, (hb.block _ h.er.lt).trans h.er, (hb.block _ h.b2.lt).trans h.b2, h.row.belowA hb, h.bel.trans (hb.mono h.bel.size)⟩

theorem nd_of (ops : List Oper) (h : ops.all noDefer = true) : ∀ (i : Nat) o, ops.toArray[i]? = some o → ∀ c, o.op ≠ .defer c := by
  intro i o ho c hc
  have h1 := List.all_eq_true.1 h o (by simp at ho; exact List.mem_of_getElem? ho)
  simp [noDefer, hc] at h1

set_option maxRecDepth 100000 in
set_option maxHeartbeats 40000000 in
theorem parse_in (xs : List Int) (hb : ∀ x ∈ xs, 0 ≤ x ∧ x < 256) (hs : xs.length ≤ 1048576) (m : Int) (w : World) (hm : w.cell? ⟨1, 0, none⟩ = some (.int .i64 m)) :
    CallsIn Fence.wide 4 Tryd.prog 9 #[.string (strOfNums xs)] w fun e w' => ∃ ao' L c', e = .returned (.tuple #[.slice ao' L c', .int .i64 (parseS xs).2]) ∧ OwnI w' w.heap.size (.slice ao' L c') (parseS xs).1 ∧ Below w.heap.size w w' := by
  have hmf : ∀ (fn : Fn) (first cap : Array Value) (w : World), (Instr.makeFunc fn first cap).run Tryd.prog w = .ok (.func fn first cap) w := fun _ _ _ _ => rfl
  refine callsIn_of_wpR_marks Tryd.func9 rfl ?_
  simp only [Tryd.ntmps9, List.size_toArray, List.length_cons, List.length_nil, Nat.reduceAdd, Nat.reduceSub, Array.replicate_succ, Array.replicate_zero, List.push_toArray, List.append_toArray, List.nil_append, List.cons_append]
  refine wpR_seq (wpR_of ?_)
  gi_wp2
  refine wpR_seq (wpR_of ?_)
  gi_wp2
  refine wpR_seq (wpR_seq (wpR_of ?_))
  gi_wp2_with (refine ⟨trivial, ?_⟩; gi_at_call 18; refine (parts_in _ _ _).mono ?_; rintro e w' ⟨rfl, rfl⟩)
  refine wpR_block ?_
  obtain ⟨W0, hW0⟩ : ∃ W0, ((w.alloc (.cells #[.slice none 0 0] 22)).alloc (.cells #[.int .i64 0] 24)).alloc (.cells #[.string (strOfNums xs)] 9) = W0 := ⟨_, rfl⟩
  have b1 := ((Boxed.new w 22 (.slice none 0 0)).alloc (.cells #[.int .i64 0] 24)).alloc (.cells #[.string (strOfNums xs)] 9)
  have b2 := (Boxed.new (w.alloc (.cells #[.slice none 0 0] 22)) 24 (.int .i64 0)).alloc (.cells #[.string (strOfNums xs)] 9)
  have b3 := Boxed.new ((w.alloc (.cells #[.slice none 0 0] 22)).alloc (.cells #[.int .i64 0] 24)) 9 (.string (strOfNums xs))
  have hB0 : Below w.heap.size w (((w.alloc (.cells #[.slice none 0 0] 22)).alloc (.cells #[.int .i64 0] 24)).alloc (.cells #[.string (strOfNums xs)] 9)) := (((Below.refl _ w).alloc (Nat.le_refl _) _).alloc (by simp) _).alloc (by simp; omega) _
  have hsz : (((w.alloc (.cells #[.slice none 0 0] 22)).alloc (.cells #[.int .i64 0] 24)).alloc (.cells #[.string (strOfNums xs)] 9)).heap.size = w.heap.size + 3 := by simp
  simp only [World.size_alloc] at b2 b3
  rw [hW0] at b1 b2 b3 hB0 hsz ⊢
  clear hW0
  have h00 : 1 < w.heap.size := lt_of_cell hm
  generalize hQ : Exit.inBlock 0 _ = Q
  generalize hA : Act.mk _ _ = A
  have HK : ∀ (lp : Loop) (acc : List Int) (aO : Option Addr) (cO : Nat) (W : World), PSt w (strOfNums xs) lp acc 0 (.slice aO acc.length cO) W → (∀ x ∈ acc, 0 ≤ x ∧ x ≤ 2147483647) → (arcsT xs = some acc ∨ (20 < acc.length ∧ parseS xs = ([], 33))) → Q .normal { A with defers := { target := .collected (w.heap.size + 3), args := #[] } :: A.defers } W := by
    intro lp acc aO cO W hI hv hd
    subst hQ
    subst hA
    simp only [Exit.inBlock, Exit.then]
    refine wpR_of ?_
    have hmay := hide (may_any aO acc.length cO acc W (hI.row.toSrc (fun x hx => by have := hv x hx; omega)))
    have HI := hide hI
    have c1 := hI.arcs.cell
    clear hI b1 b2 b3 hB0
    by_cases hms : mayS acc = true
    · have hfin : Hid (parseS xs = (acc, 0)) := by
        unfold Hid
        rcases hd with hd | ⟨hd, _⟩
        · rw [parseS_of xs acc hd, if_pos hms]
        · rw [mayS_long acc hd] at hms; cases hms
      rw [hms] at hmay
      clear hd hms
      gi_wp2_with (refine ⟨trivial, ?_⟩; gi_at_call 7; refine (callsIn_wide.2 hmay.out).mono ?_; rintro e w3 ⟨rfl, D3⟩; have H3 := hide (HI.out.drawn D3); have c13 := H3.out.arcs.cell; have f13 := H3.out.arcs.frozen; have e3 := H3.out.er.other (B' := w.heap.size) (by omega) (.slice aO acc.length cO); have c23 := e3.cell; have f23 := e3.frozen)
      refine parse_leave w (strOfNums xs) _ acc 0 _ _ _ _ _ ?_ ?_ (H3.out.again 0) ⟨_, _, _, rfl⟩ (.inl ⟨rfl, hfin.out⟩) <;> rfl
    · have hfin : Hid (parseS xs = ([], 33)) := by
        unfold Hid
        rcases hd with hd | ⟨_, hd⟩
        · rw [parseS_of xs acc hd, if_neg hms]
        · exact hd
      have hms : mayS acc = false := by simpa using hms
      rw [hms] at hmay
      clear hd hms
      gi_wp2_with (refine ⟨trivial, ?_⟩; gi_at_call 7; refine (callsIn_wide.2 hmay.out).mono ?_; rintro e w3 ⟨rfl, D3⟩; have H3 := hide (HI.out.drawn D3); have c13 := H3.out.arcs.cell; have f13 := H3.out.arcs.frozen; have e3 := H3.out.er.other (B' := w.heap.size) (by omega) (.slice none 0 0); have c23 := e3.cell; have f23 := e3.frozen)
      refine parse_leave w (strOfNums xs) _ [] 33 _ _ _ _ _ ?_ ?_ (H3.out.fail 33) ⟨_, _, _, rfl⟩ (.inl ⟨rfl, hfin.out⟩) <;> rfl
  have HP : ∀ (lp : Loop) (acc : List Int) (aO : Option Addr) (cO : Nat) (W : World), PSt w (strOfNums xs) lp acc 0 (.slice aO acc.length cO) W → parseS xs = ([], 33) → Q (.panic (errP 33)) { A with defers := { target := .collected (w.heap.size + 3), args := #[] } :: A.defers } W := by
    intro lp acc aO cO W hI hp
    subst hQ
    subst hA
    simp only [Exit.inBlock, Exit.then]
    refine parse_leave w (strOfNums xs) _ acc 0 _ _ _ _ _ ?_ ?_ hI ⟨_, _, _, rfl⟩ (.inr ⟨_, rfl, hp⟩) <;> rfl
  have HX : ∀ a W, Q .normal a W → Q (.exit 0) a W := by
    intro a W h
    subst hQ
    simpa [Exit.inBlock] using h
  refine range_enterR (gf := 28) (lb := #[.pointer (some ⟨w.heap.size + 1 + 1, 0, none⟩)]) (by subst hA; rfl) (enters_of Tryd.func28 (by kernel_rfl) rfl) ?_
  rw [hsz]
  generalize hrec : recOf _ _ _ _ _ _ = r
  have i0 : PSt w (strOfNums xs) (r .ready none) [] 0 (.slice none 0 0) ((W0.alloc (.deferred (some []))).alloc (.loop (r .ready none))) := by
    refine ⟨?_, ?_, (b1.alloc _).alloc _, (b2.alloc _).alloc _, (b3.alloc _).alloc _, OwnI.nil _ _, (hB0.alloc (by omega) _).alloc (by simp; omega) _⟩
    · have := World.alloc_heap_new (W0.alloc (.deferred (some []))) (.loop (r .ready none)); rwa [World.size_alloc, hsz] at this
    · have := World.alloc_heap_new W0 (.deferred (some [])); rw [hsz] at this; rw [Below.heap_alloc _ _ _ (by simp; omega)]; exact this
  refine (parts1_in 3 (by decide) (w.heap.size + 3 + 1) (w.heap.size + 1 + 1) xs hb hs m (fun ys W => ∃ acc aO cO, PSt w (strOfNums xs) (r .ready none) acc 0 (.slice aO acc.length cO) W ∧ pRel xs acc ys ∧ acc.length ≤ 20 ∧ (∀ x ∈ acc, 0 ≤ x ∧ x ≤ 2147483647))
    (fun W => ∃ acc aO cO, PSt w (strOfNums xs) (r .ready none) acc 0 (.slice aO acc.length cO) W ∧ arcsT xs = some acc ∧ (∀ x ∈ acc, 0 ≤ x ∧ x ≤ 2147483647))
    (fun W => ∃ acc aO cO, PSt w (strOfNums xs) (r .done (some (.exit 0))) acc 0 (.slice aO acc.length cO) W ∧ 20 < acc.length ∧ parseS xs = ([], 33) ∧ (∀ x ∈ acc, 0 ≤ x ∧ x ≤ 2147483647))
    (fun ch W => ∃ acc aO cO lp, ch = errP 33 ∧ PSt w (strOfNums xs) lp acc 0 (.slice aO acc.length cO) W ∧ parseS xs = ([], 33)) _
    (fun ys W1 h => by obtain ⟨acc, aO, cO, h, _⟩ := h; exact (h.bel.cell (p := ⟨1, 0, none⟩) h00).trans hm) i0.b2.cell (fun ys W1 W2 h dr => by obtain ⟨acc, aO, cO, h, hr⟩ := h; exact ⟨acc, aO, cO, h.drawn dr, hr⟩) ?_ ⟨[], none, 0, i0, pRel_start xs, by simp, by simp⟩).mono ?_
  · rintro ys W1 ⟨acc, aO, cO, hI, hrel, hlen, hv⟩ hy hys
    have hl := hI.loop
    rw [← hrec] at hl
    subst hA
    refine range_roundP Tryd.func9 (a₁ := ?A1) hl rfl ?_ ?_
    rotate_left
    · intro K hK
      gi_wp2
      exact hK
    · rw [hrec]
      have HI := hide (hI.put (r .busy none))
      obtain ⟨q1, _, q3, _⟩ := cutI_len ys
      have hcall := hide (fun X => decimal_any (cutI ys).1 (fun x hx => hy x (q3 x hx)) X (by omega))
      have c1 := HI.out.arcs.cell
      have hbs := HI.out.bel.size
      have D2 := hide (fun q => HI.out.drawn ((Drawn.refl _).more q))
      generalize W1.putObj (w.heap.size + 3 + 1) (.loop (r .busy none)) = W2 at HI c1 hbs D2 ⊢
      clear hl hI hrec i0 q1 q3 HK HP HX hQ b1 b2 b3 hB0
      cases hdec : arcT (cutI ys).1 with
      | none =>
        have hbad := hide (pRel_bad xs acc ys hrel hdec)
        rw [hdec] at hcall
        have hcall : Hid (∀ X, Calls Tryd.prog 19 #[.string (strOfNums (cutI ys).1)] X fun e w' => e = .panicked (errP 33) ∧ Below X.heap.size X w') := hcall
        clear hrel hdec
        gi_wp2
        refine wpIn_region_any (by kernel_rfl) (wpAnyIn_inRound (F := Fence.wide) _ rfl (nd_of _ (by kernel_rfl)) _ _ _ _ ?_)
        change wpAnyIn _ _ _ _ _ _ _ _ _ (World.drew _)
        refine wpAnyIn_ready (rs := [0, 1]) (by kernel_rfl) (by simp) ?_
        refine AllReadyIn.cons rfl (fun K hK => ?_) (AllReadyIn.cons rfl (fun K hK => ?_) AllReadyIn.nil)
        · go_simp
          refine hK _ _ ?_
          clear hK K
          refine wpAnyIn_ready (rs := [1]) (by kernel_rfl) (by simp) ?_
          refine AllReadyIn.cons rfl (fun K hK => ?_) AllReadyIn.nil
          go_simp
          refine hK _ _ ?_
          clear hK K
          refine wpAnyIn_ready (rs := [2]) (by kernel_rfl) (by simp) ?_
          refine AllReadyIn.cons rfl (fun K hK => ?_) AllReadyIn.nil
          go_simp
          refine ⟨trivial, ?_⟩
          refine (callsIn_wide.2 (hcall.out _)).mono ?_
          rintro e w1 ⟨rfl, B1⟩
          exact ⟨rfl, .inr (.inr ⟨_, rfl, acc, aO, cO, _, rfl, HI.out.belowA ⟨B1.os, B1.tape, B1.output, B1.size, B1.block⟩, hbad.out⟩)⟩
        · go_simp
          refine hK _ _ ?_
          clear hK K
          refine wpAnyIn_ready (rs := [0, 2]) (by kernel_rfl) (by simp) ?_
          refine AllReadyIn.cons rfl (fun K hK => ?_) (AllReadyIn.cons rfl (fun K hK => ?_) AllReadyIn.nil)
          · go_simp
            refine hK _ _ ?_
            clear hK K
            refine wpAnyIn_ready (rs := [2]) (by kernel_rfl) (by simp) ?_
            refine AllReadyIn.cons rfl (fun K hK => ?_) AllReadyIn.nil
            go_simp
            refine ⟨trivial, ?_⟩
            refine (callsIn_wide.2 (hcall.out _)).mono ?_
            rintro e w1 ⟨rfl, B1⟩
            exact ⟨rfl, .inr (.inr ⟨_, rfl, acc, aO, cO, _, rfl, HI.out.belowA ⟨B1.os, B1.tape, B1.output, B1.size, B1.block⟩, hbad.out⟩)⟩
          · go_simp
            refine ⟨trivial, ?_⟩
            refine (callsIn_wide.2 (hcall.out _)).mono ?_
            rintro e w1 ⟨rfl, B1⟩
            exact ⟨rfl, .inr (.inr ⟨_, rfl, acc, aO, cO, _, rfl, HI.out.belowA ⟨B1.os, B1.tape, B1.output, B1.size, B1.block⟩, hbad.out⟩)⟩
      | some N =>
        have hN := arcT_in _ N hdec
        have hln : Hid ((acc ++ [N]).length = acc.length + 1) := by unfold Hid; simp
        have hmore := hide (fun hf => pRel_more xs acc ys N hrel hdec hf)
        have hlast := hide (fun hf => pRel_last xs acc ys N hrel hdec hf)
        have hlong := hide (fun hl => pRel_long xs acc ys N hrel hdec hl)
        have hv2 : Hid (∀ x ∈ acc ++ [N], 0 ≤ x ∧ x ≤ 2147483647) := by
          intro x hx
          rcases List.mem_append.1 hx with hx | hx
          · exact hv x hx
          · simp at hx; subst hx; exact hN
        rw [hdec] at hcall
        have hcall : Hid (∀ X, Calls Tryd.prog 19 #[.string (strOfNums (cutI ys).1)] X fun e w' => e = .returned (.int .i64 N) ∧ Below X.heap.size X w') := hcall
        clear hrel hdec hv
        gi_wp2
        rename_i K0 hK0
        have HK2 := hide hK0
        clear hK0
        refine wpIn_region_any (by kernel_rfl) (wpAnyIn_inRound (F := Fence.wide) _ rfl (nd_of _ (by kernel_rfl)) _ _ _ _ ?_)
        change wpAnyIn _ _ _ _ _ _ _ _ _ (World.drew _)
        refine wpAnyIn_ready (rs := [0, 1]) (by kernel_rfl) (by simp) ?_
        refine AllReadyIn.cons rfl (fun K hK => ?_) (AllReadyIn.cons rfl (fun K hK => ?_) AllReadyIn.nil)
        · go_simp
          refine hK _ _ ?_
          clear hK K
          refine wpAnyIn_ready (rs := [1]) (by kernel_rfl) (by simp) ?_
          refine AllReadyIn.cons rfl (fun K hK => ?_) AllReadyIn.nil
          go_simp
          refine hK _ _ ?_
          clear hK K
          refine wpAnyIn_ready (rs := [2]) (by kernel_rfl) (by simp) ?_
          refine AllReadyIn.cons rfl (fun K hK => ?_) AllReadyIn.nil
          go_simp
          refine ⟨trivial, ?_⟩
          refine (callsIn_wide.2 (hcall.out _)).mono ?_
          rintro e w1 ⟨rfl, B1⟩
          have P1 := hide (HI.out.belowA (W' := w1) ⟨B1.os, B1.tape, B1.output, B1.size, B1.block⟩)
          obtain ⟨g4, c4, w4, hrun, ho4, hg4⟩ := app_int P1.out.row N hlen (Nat.le_trans hbs B1.size)
          have c11 := P1.out.arcs.cell
          have z11 := P1.out.arcs.lt
          have a2 := P1.out.box _ hg4
          have cA := a2.cell
          have fA := a2.frozen
          have P4 := hide (P1.out.append _ hg4 ho4)
          clear B1 a2 ho4 hg4
          refine hK _ _ ?_
          clear hK K
          refine wpAnyIn_ready (rs := [3]) (by kernel_rfl) (by simp) ?_
          refine AllReadyIn.cons rfl (fun K hK => ?_) AllReadyIn.nil
          go_simp
          refine hK _ _ ?_
          clear hK K
          refine wpAnyIn_ready (rs := [4]) (by kernel_rfl) (by simp) ?_
          refine AllReadyIn.cons rfl (fun K hK => ?_) AllReadyIn.nil
          go_simp
          refine hK _ _ ?_
          clear hK K
          refine wpAnyIn_ready (rs := [5]) (by kernel_rfl) (by simp) ?_
          refine AllReadyIn.cons rfl (fun K hK => ?_) AllReadyIn.nil
          go_simp
          refine hK _ _ ?_
          clear hK K
          refine wpAnyIn_done (by kernel_rfl) ?_ _
          refine HK2.out _ _ ?_
          generalize w4.setCell ⟨w.heap.size, 0, none⟩ (Value.slice (some ⟨g4, 0, none⟩) (acc.length + 1) c4) = w5 at P4 ⊢
          have cB := P4.out.arcs.cell
          clear cA fA hrun c11
          by_cases h20 : 20 < acc.length + 1
          · have h20I : (20 : Int) < (acc.length : Int) + 1 := by omega
            gi_wp2
            exact ⟨P4.out.loop, .inr (.inl ⟨rfl, acc ++ [N], some ⟨g4, 0, none⟩, c4, by rw [hln.out]; exact P4.out.put _, by rw [hln.out]; exact h20, hlong.out h20, hv2.out⟩)⟩
          · have h20I : ¬ (20 : Int) < (acc.length : Int) + 1 := by omega
            gi_wp2
            exact ⟨P4.out.loop, .inl ⟨rfl, fun hf => ⟨acc ++ [N], ⟨some ⟨g4, 0, none⟩, c4, by rw [hln.out]; exact P4.out.put _⟩, hmore.out hf, by rw [hln.out]; omega, hv2.out⟩, fun hf => ⟨acc ++ [N], ⟨some ⟨g4, 0, none⟩, c4, by rw [hln.out]; exact P4.out.put _⟩, hlast.out hf, hv2.out⟩⟩⟩
        · go_simp
          refine hK _ _ ?_
          clear hK K
          refine wpAnyIn_ready (rs := [0, 2]) (by kernel_rfl) (by simp) ?_
          refine AllReadyIn.cons rfl (fun K hK => ?_) (AllReadyIn.cons rfl (fun K hK => ?_) AllReadyIn.nil)
          · go_simp
            refine hK _ _ ?_
            clear hK K
            refine wpAnyIn_ready (rs := [2]) (by kernel_rfl) (by simp) ?_
            refine AllReadyIn.cons rfl (fun K hK => ?_) AllReadyIn.nil
            go_simp
            refine ⟨trivial, ?_⟩
            refine (callsIn_wide.2 (hcall.out _)).mono ?_
            rintro e w1 ⟨rfl, B1⟩
            have P1 := hide (HI.out.belowA (W' := w1) ⟨B1.os, B1.tape, B1.output, B1.size, B1.block⟩)
            obtain ⟨g4, c4, w4, hrun, ho4, hg4⟩ := app_int P1.out.row N hlen (Nat.le_trans hbs B1.size)
            have c11 := P1.out.arcs.cell
            have z11 := P1.out.arcs.lt
            have a2 := P1.out.box _ hg4
            have cA := a2.cell
            have fA := a2.frozen
            have P4 := hide (P1.out.append _ hg4 ho4)
            clear B1 a2 ho4 hg4
            refine hK _ _ ?_
            clear hK K
            refine wpAnyIn_ready (rs := [3]) (by kernel_rfl) (by simp) ?_
            refine AllReadyIn.cons rfl (fun K hK => ?_) AllReadyIn.nil
            go_simp
            refine hK _ _ ?_
            clear hK K
            refine wpAnyIn_ready (rs := [4]) (by kernel_rfl) (by simp) ?_
            refine AllReadyIn.cons rfl (fun K hK => ?_) AllReadyIn.nil
            go_simp
            refine hK _ _ ?_
            clear hK K
            refine wpAnyIn_ready (rs := [5]) (by kernel_rfl) (by simp) ?_
            refine AllReadyIn.cons rfl (fun K hK => ?_) AllReadyIn.nil
            go_simp
            refine hK _ _ ?_
            clear hK K
            refine wpAnyIn_done (by kernel_rfl) ?_ _
            refine HK2.out _ _ ?_
            generalize w4.setCell ⟨w.heap.size, 0, none⟩ (Value.slice (some ⟨g4, 0, none⟩) (acc.length + 1) c4) = w5 at P4 ⊢
            have cB := P4.out.arcs.cell
            clear cA fA hrun c11
            by_cases h20 : 20 < acc.length + 1
            · have h20I : (20 : Int) < (acc.length : Int) + 1 := by omega
              gi_wp2
              exact ⟨P4.out.loop, .inr (.inl ⟨rfl, acc ++ [N], some ⟨g4, 0, none⟩, c4, by rw [hln.out]; exact P4.out.put _, by rw [hln.out]; exact h20, hlong.out h20, hv2.out⟩)⟩
            · have h20I : ¬ (20 : Int) < (acc.length : Int) + 1 := by omega
              gi_wp2
              exact ⟨P4.out.loop, .inl ⟨rfl, fun hf => ⟨acc ++ [N], ⟨some ⟨g4, 0, none⟩, c4, by rw [hln.out]; exact P4.out.put _⟩, hmore.out hf, by rw [hln.out]; omega, hv2.out⟩, fun hf => ⟨acc ++ [N], ⟨some ⟨g4, 0, none⟩, c4, by rw [hln.out]; exact P4.out.put _⟩, hlast.out hf, hv2.out⟩⟩⟩
          · go_simp
            refine ⟨trivial, ?_⟩
            refine (callsIn_wide.2 (hcall.out _)).mono ?_
            rintro e w1 ⟨rfl, B1⟩
            have P1 := hide (HI.out.belowA (W' := w1) ⟨B1.os, B1.tape, B1.output, B1.size, B1.block⟩)
            obtain ⟨g4, c4, w4, hrun, ho4, hg4⟩ := app_int P1.out.row N hlen (Nat.le_trans hbs B1.size)
            have c11 := P1.out.arcs.cell
            have z11 := P1.out.arcs.lt
            have a2 := P1.out.box _ hg4
            have cA := a2.cell
            have fA := a2.frozen
            have P4 := hide (P1.out.append _ hg4 ho4)
            clear B1 a2 ho4 hg4
            refine hK _ _ ?_
            clear hK K
            refine wpAnyIn_ready (rs := [0, 3]) (by kernel_rfl) (by simp) ?_
            refine AllReadyIn.cons rfl (fun K hK => ?_) (AllReadyIn.cons rfl (fun K hK => ?_) AllReadyIn.nil)
            · go_simp
              refine hK _ _ ?_
              clear hK K
              refine wpAnyIn_ready (rs := [3]) (by kernel_rfl) (by simp) ?_
              refine AllReadyIn.cons rfl (fun K hK => ?_) AllReadyIn.nil
              go_simp
              refine hK _ _ ?_
              clear hK K
              refine wpAnyIn_ready (rs := [4]) (by kernel_rfl) (by simp) ?_
              refine AllReadyIn.cons rfl (fun K hK => ?_) AllReadyIn.nil
              go_simp
              refine hK _ _ ?_
              clear hK K
              refine wpAnyIn_ready (rs := [5]) (by kernel_rfl) (by simp) ?_
              refine AllReadyIn.cons rfl (fun K hK => ?_) AllReadyIn.nil
              go_simp
              refine hK _ _ ?_
              clear hK K
              refine wpAnyIn_done (by kernel_rfl) ?_ _
              refine HK2.out _ _ ?_
              generalize w4.setCell ⟨w.heap.size, 0, none⟩ (Value.slice (some ⟨g4, 0, none⟩) (acc.length + 1) c4) = w5 at P4 ⊢
              have cB := P4.out.arcs.cell
              clear cA fA hrun c11
              by_cases h20 : 20 < acc.length + 1
              · have h20I : (20 : Int) < (acc.length : Int) + 1 := by omega
                gi_wp2
                exact ⟨P4.out.loop, .inr (.inl ⟨rfl, acc ++ [N], some ⟨g4, 0, none⟩, c4, by rw [hln.out]; exact P4.out.put _, by rw [hln.out]; exact h20, hlong.out h20, hv2.out⟩)⟩
              · have h20I : ¬ (20 : Int) < (acc.length : Int) + 1 := by omega
                gi_wp2
                exact ⟨P4.out.loop, .inl ⟨rfl, fun hf => ⟨acc ++ [N], ⟨some ⟨g4, 0, none⟩, c4, by rw [hln.out]; exact P4.out.put _⟩, hmore.out hf, by rw [hln.out]; omega, hv2.out⟩, fun hf => ⟨acc ++ [N], ⟨some ⟨g4, 0, none⟩, c4, by rw [hln.out]; exact P4.out.put _⟩, hlast.out hf, hv2.out⟩⟩⟩
            · go_simp
              refine hK _ _ ?_
              clear hK K
              refine wpAnyIn_ready (rs := [0]) (by kernel_rfl) (by simp) ?_
              refine AllReadyIn.cons rfl (fun K hK => ?_) AllReadyIn.nil
              go_simp
              refine hK _ _ ?_
              clear hK K
              refine wpAnyIn_ready (rs := [4]) (by kernel_rfl) (by simp) ?_
              refine AllReadyIn.cons rfl (fun K hK => ?_) AllReadyIn.nil
              go_simp
              refine hK _ _ ?_
              clear hK K
              refine wpAnyIn_ready (rs := [5]) (by kernel_rfl) (by simp) ?_
              refine AllReadyIn.cons rfl (fun K hK => ?_) AllReadyIn.nil
              go_simp
              refine hK _ _ ?_
              clear hK K
              refine wpAnyIn_done (by kernel_rfl) ?_ _
              refine HK2.out _ _ ?_
              generalize w4.setCell ⟨w.heap.size, 0, none⟩ (Value.slice (some ⟨g4, 0, none⟩) (acc.length + 1) c4) = w5 at P4 ⊢
              have cB := P4.out.arcs.cell
              clear cA fA hrun c11
              by_cases h20 : 20 < acc.length + 1
              · have h20I : (20 : Int) < (acc.length : Int) + 1 := by omega
                gi_wp2
                exact ⟨P4.out.loop, .inr (.inl ⟨rfl, acc ++ [N], some ⟨g4, 0, none⟩, c4, by rw [hln.out]; exact P4.out.put _, by rw [hln.out]; exact h20, hlong.out h20, hv2.out⟩)⟩
              · have h20I : ¬ (20 : Int) < (acc.length : Int) + 1 := by omega
                gi_wp2
                exact ⟨P4.out.loop, .inl ⟨rfl, fun hf => ⟨acc ++ [N], ⟨some ⟨g4, 0, none⟩, c4, by rw [hln.out]; exact P4.out.put _⟩, hmore.out hf, by rw [hln.out]; omega, hv2.out⟩, fun hf => ⟨acc ++ [N], ⟨some ⟨g4, 0, none⟩, c4, by rw [hln.out]; exact P4.out.put _⟩, hlast.out hf, hv2.out⟩⟩⟩
  · rintro e W' (⟨⟨v, rfl⟩, ⟨acc, aO, cO, hI, hd, hv⟩ | ⟨acc, aO, cO, hI, hd, hp, hv⟩⟩ | ⟨ch, rfl, ⟨acc, aO, cO, lp, rfl, hI, hp⟩⟩)
    · have hl := hI.loop
      rw [← hrec] at hl
      refine range_done hl ?_
      rw [hrec]
      exact HK _ acc aO cO _ (hI.put _) hv (.inl hd)
    · have hl := hI.loop
      rw [← hrec] at hl
      refine range_left hl ?_
      rw [hrec]
      refine wpIn_exit (HX _ _ ?_)
      exact HK _ acc aO cO _ (hI.put _) hv (.inr ⟨hd, hp⟩)
    · exact HP lp acc aO cO W' hI hp

end Go.Proofs.YtfcjahdkpjbggaaDoor
