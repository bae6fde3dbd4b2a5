/-
  OidArcs answers true, and writes nothing that was there.
-/
import Derived.Test.YtlhibocacdjleaaArcS
import Derived.Test.YtlhibocacdjleaaQRound
import Derived.Test.YtlhibocacdjleaaMay
import Derived.Test.YtlhibocacdjleaaOwn3
namespace Go.Proofs.Ytlhibocacdjleaa
open Go.RowKit Go.Shelf Go.IntWalk
attribute [local go_sem] Oper.semAt_some setCell_qN alloc_qN

theorem arc_vals (xs : List Int) : ∀ (f p : Nat), ∀ x ∈ arcF xs f p, 0 ≤ x.1 ∧ x.1 < (xs.length : Int) ∧ 0 ≤ x.2 ∧ x.2 ≤ 2147483647
  | 0, _, x, hx => by simp [arcF] at hx
  | f + 1, p, x, hx => by
    simp only [arcF] at hx
    split at hx
    · rename_i h
      rcases List.mem_cons.1 hx with rfl | hx
      · have := nextS_in (xs.drop p) h.2
        exact ⟨by simp, by simp; omega, this.1, this.2.1⟩
      · exact arc_vals xs f _ x hx
    · simp at hx

theorem drop_cons {l r : List (Int × Int)} {k : Nat} {x : Int × Int} (h : l.drop k = x :: r) : k < l.length ∧ l[k]? = some x ∧ l.drop (k + 1) = r := by
  have hk : k < l.length := by
    rcases Nat.lt_or_ge k l.length with h' | h'
    · exact h'
    · rw [List.drop_eq_nil_of_le h'] at h; cases h
  rw [List.drop_eq_getElem_cons hk] at h
  have h1 := (List.cons.inj h).1
  have h2 := (List.cons.inj h).2
  exact ⟨hk, by rw [List.getElem?_eq_getElem hk, h1], h2⟩

theorem cut_step (xs : List Int) (m p k : Nat) (N : Int) (hm : m = soundG xs 0) (hp : soundG xs 0 = soundG xs p) (hlt : p < m) (hnk : nextS ((xs.take m).drop p) = (N, k, 0)) :
    soundG xs 0 = soundG xs (p + k) ∧ arcG xs p = ((p : Int), N) :: arcG xs (p + k) := by
  obtain ⟨h1, h2, h3, h4⟩ := cut_next xs m p hm.symm hp hlt
  rw [hnk] at h3
  have h5 := arc_next xs p h1 h2
  rw [← h3] at h4 h5
  exact ⟨h4, h5⟩

theorem cut_no (xs : List Int) (m p : Nat) (hm : m = soundG xs 0) (hp : soundG xs 0 = soundG xs p) (hlt : p < m) (he : (nextS ((xs.take m).drop p)).2.2 ≠ 0) : False := by
  obtain ⟨h1, h2, h3, h4⟩ := cut_next xs m p hm.symm hp hlt
  rw [h3] at he
  exact he h2

theorem cut_end (xs : List Int) (m : Nat) (hm : m = soundG xs 0) (hp : soundG xs 0 = soundG xs m) : arcG xs m = [] := by
  refine arc_stop xs m fun ⟨h1, h2⟩ => ?_
  have h3 := sound_next xs m h1 h2
  have h4 := nextS_in (xs.drop m) h2
  have h5 := sound_in_all xs xs.length (m + (nextS (xs.drop m)).2.1) (by omega)
  omega

theorem seq_not_nil (w : World) (f : Nat) (c : Array Value) : (binOp .eql 59 (.func (.func f) #[] c) .nilFunc).run Try.prog w = .ok (.bool false) w := by
  have h : ∀ d : Nat, (Op.equalIn (d + 1) 59 (.func (.func f) #[] c) .nilFunc).run Try.prog w = .ok false w := fun d => by
    simp [Op.equalIn, run_underlying Try.underlying59]
  simp only [binOp]
  simp [Op.equal, Op.maxDepth, h 9999]

set_option maxRecDepth 100000 in
/-- How the law is left: the two loops' marks; the answer is what the variable holds. -/
theorem arcs_leave (w W : World) (tmps : Array Value) (D1 D2 : Nat) (hne : D1 ≠ D2) (ht : tmps[4]? = some (.pointer (some ⟨w.heap.size + 1, 0, none⟩))) (h2 : W.heap[D2]? = some (.deferred (some []))) (h1 : W.heap[D1]? = some (.deferred (some [])))
    (bR : Boxed W (w.heap.size + 1) 4 (.bool true)) (hB : Below w.heap.size w W) (o1 : w.heap.size + 1 < D1) (o2 : w.heap.size + 1 < D2) :
    LeavesInM Fence.wide 5 Try.prog Try.f7 tmps (fun e w' => e = .returned (.bool true) ∧ Below w.heap.size w w') [{ target := .collected D2, args := #[] }, { target := .collected D1, args := #[] }] .returning W := by
  have h1' : (W.putObj D2 (.deferred none)).heap[D1]? = some (.deferred (some [])) := (World.putObj_heap_other hne).trans h1
  have b1 := (bR.kept (grownBy_putObj' W D2 (.deferred none)) (by simp; omega)).kept (grownBy_putObj' _ D1 (.deferred none)) (by simp; omega)
  have B1 := hB.grown (grownBy_putObj' W D2 (.deferred none)) hB.size (by intro k e; cases e; omega)
  have B2 := B1.grown (grownBy_putObj' _ D1 (.deferred none)) B1.size (by intro k e; cases e; omega)
  have c1 := b1.cell
  refine ⟨by simp, .inl ⟨_, _, rfl, run_takeDeferred h2, by simp, .inl ⟨_, _, rfl, run_takeDeferred h1', ?_⟩⟩⟩
  exact ⟨.bool true, by simp [results, Try.results7, go_sem, ht, c1, Array.getD_eq_getD_getElem?], rfl, B2⟩

set_option maxRecDepth 100000 in
set_option maxHeartbeats 4000000 in
theorem arcs_walk (a1 : Option Addr) (n1 c1 : Nat) (xs : List Int) (lv : Int) (w : World) (h1 : Src w a1 n1 c1 xs) (hn1 : n1 ≤ 1048576) :
    CallsIn Fence.wide 5 Try.prog 7 #[.slice a1 n1 c1, .int .i64 lv] w fun e w' => e = .returned (.bool true) ∧ Below w.heap.size w w' := by
  have L1 := hide h1.hlen
  refine callsIn_of_wp_marks Try.func7 rfl trivial ?_ rfl
  simp only [Try.ntmps7, List.size_toArray, List.length_cons, List.length_nil, Nat.reduceAdd, Nat.reduceSub, Array.replicate_succ, Array.replicate_zero, List.push_toArray, List.append_toArray, List.nil_append, List.cons_append]
  have sA := ((h1.alloc (.cells #[.int .i64 lv] 3)).alloc (.cells #[.bool false] 4)).alloc (.cells #[] 5)
  gi_wp2_with (gi_at_builtin; refine wpListIn_appNB _ rfl (.tmp 13) (.tmp 14) rfl (w.heap.size + 2) (w.heap.size + 1 + 1) rfl (OwnB.litAt _ _ [] _ 0 rfl rfl (by simp) (by simp) (by decide)) a1 n1 c1 xs rfl sA (by omega) (by simp) ?_; intro gI cI w1 oI bI lI hcI mI gr1)
  have Y1 := hide h1.hbyt
  have bL1 : Boxed w1 w.heap.size 3 (.int .i64 lv) := (((Boxed.new w 3 (.int .i64 lv)).alloc (.cells #[.bool false] 4)).alloc (.cells #[] 5)).kept gr1 (by simp; omega)
  have bR1 : Boxed w1 (w.heap.size + 1) 4 (.bool false) := by
    have h := ((Boxed.new (w.alloc (.cells #[.int .i64 lv] 3)) 4 (.bool false)).alloc (.cells #[] 5)).kept gr1 (by simp)
    rwa [World.size_alloc] at h
  have B1 : Below w.heap.size w w1 := ((((Below.refl _ w).alloc (Nat.le_refl _) _).alloc (by simp) _).alloc (by simp; omega) _).grown gr1 (by simp; omega) (by intro j e; cases e; omega)
  have zI : w.heap.size + 2 ≤ w1.heap.size := by have := gr1.size; simp at this; omega
  have sI : Src w1 (some ⟨gI, 0, none⟩) n1 cI xs := oI.src Y1.out n1 (Nat.le_refl _) (by rw [List.take_of_length_le (by rw [L1.out]; exact Nat.le_refl _)]) mI
  clear sA gr1
  refine ⟨trivial, ?_⟩
  refine (callsIn_wide.2 (refArcs_any a1 n1 c1 xs w1 (h1.below B1) (by omega))).mono ?_
  rintro e w2 ⟨aP, aQ, cP, cQ, L, rfl, hL, oP, oQ, B2⟩
  have z2 := B2.size
  have hLd := hide hL
  clear hL
  gi_wp2_with fail
  refine ⟨trivial, ?_⟩
  obtain ⟨w3, hw3⟩ : ∃ w3, (w2.alloc (.cells #[.slice aP L cP] 29)).alloc (.cells #[.slice aQ L cQ] 29) = w3 := ⟨_, rfl⟩
  have bP3 : Boxed w3 w2.heap.size 29 (.slice aP L cP) := by rw [← hw3]; exact (Boxed.new w2 29 (.slice aP L cP)).alloc _
  have bQ3 : Boxed w3 (w2.heap.size + 1) 29 (.slice aQ L cQ) := by have h := Boxed.new (w2.alloc (.cells #[.slice aP L cP] 29)) 29 (.slice aQ L cQ); rw [World.size_alloc, hw3] at h; exact h
  have B23 : Below w2.heap.size w2 w3 := by rw [← hw3]; exact ((Below.refl _ w2).alloc (Nat.le_refl _) _).alloc (by simp) _
  have z3 : w3.heap.size = w2.heap.size + 2 := by rw [← hw3]; simp
  try rw [hw3]
  clear hw3
  have B13 : Below w1.heap.size w1 w3 := B2.trans (B23.mono z2)
  refine (callsIn_wide.2 (oidArcs_any (some ⟨gI, 0, none⟩) n1 cI xs w3 (sI.below B13) (by omega))).mono ?_
  rintro e w4 ⟨Bs, aB, m, cB, rfl, hm, hmn, hBs, bS, sB, aB', B4⟩
  have z4 := B4.size
  have hmd := hide hm
  have hfil := hide aB'
  have bsl : Bs < w4.heap.size := (Array.getElem?_eq_some_iff.1 bS).1
  have B14 : Below w1.heap.size w1 w4 := B13.trans (B4.mono B13.size)
  have bL4 : Boxed w4 w.heap.size 3 (.int .i64 lv) := (B14.block _ (by omega)).trans bL1
  have bR4 : Boxed w4 (w.heap.size + 1) 4 (.bool false) := (B14.block _ (by omega)).trans bR1
  have bP4 : Boxed w4 w2.heap.size 29 (.slice aP L cP) := (B4.block _ (by omega)).trans bP3
  have bQ4 : Boxed w4 (w2.heap.size + 1) 29 (.slice aQ L cQ) := (B4.block _ (by omega)).trans bQ3
  have B24 : Below w2.heap.size w2 w4 := B23.trans (B4.mono (by omega))
  have oP4 := oP.belowA B24
  have oQ4 := oQ.belowA B24
  have oI4 := oI.belowA B14
  have B04 : Below w.heap.size w w4 := B1.trans (B14.mono B1.size)
  have hpl := hide oP.lt
  have hql := hide oQ.lt
  have HZ := hide (And.intro bL4 (And.intro bR4 (And.intro bP4 (And.intro bQ4 (And.intro bS (And.intro oP4 (And.intro oQ4 (And.intro sB B04))))))))
  clear hm aB' bL4 bR4 bP4 bQ4 bS oP4 oQ4 sB B04 B14 B24 B13 B23 bP3 bQ3 bL1 bR1 B1 B2 B4 oP oQ oI sI
  have qn := fun X => seq_not_nil X 53 #[.pointer (some ⟨Bs, 0, none⟩)]
  gi_wp2_with fail
  have hI4 := hide oI4
  clear oI4
  gi_loopw [9] (fun i wr => ∃ (j : Nat) (zs : List Int), i = .int .i64 j ∧ j ≤ n1 ∧ Hid (zs.length = n1) ∧ OwnB wr (w.heap.size + 2) (.slice (some ⟨gI, 0, none⟩) n1 cI) zs ∧ Hid (w4.grownBy wr (some gI))) (fun i _ => n1 - (intOf i).toNat)
  case atStart => exact ⟨0, xs, rfl, Nat.zero_le _, L1, hI4.out, ⟨rfl, rfl, rfl, Nat.le_refl _, fun _ _ _ => rfl⟩⟩
  case round =>
    obtain ⟨j, zs, rfl, hj, hzl, hO, hgr⟩ := hrel
    by_cases hlt : j < n1
    · have ltI : (j : Int) < (n1 : Int) := by omega
      have hc := hO.cell j (by rw [hzl.out]; exact hlt)
      have hf := hO.frozen j
      have HO := hide hO
      clear hO
      gi_wp2
      obtain ⟨s1, s2⟩ := HO.out.stored j ((zs[j]?.getD 0 + 1) % 256)
      exact ⟨⟨j + 1, zs.set j ((zs[j]?.getD 0 + 1) % 256), by simp, by omega, by unfold Hid; rw [List.length_set]; exact hzl.out, s1, hgr.out.trans s2⟩, by simp [intOf]; omega⟩
    · obtain rfl : j = n1 := by omega
      have ltI : ¬ (j : Int) < (j : Int) := by omega
      gi_wp2_with fail
      obtain ⟨bL4, bR4, bP4, bQ4, bS, oP4, oQ4, sB, B04⟩ := HZ.out
      have g4 := hgr.out
      have zr := g4.size
      have pv := fun x (hx : x ∈ arcG xs 0) => arc_vals xs _ 0 x hx
      have i5 : AI w w.heap.size (w.heap.size + 1) w2.heap.size (w2.heap.size + 1) wr.heap.size Bs lv aP aQ aB L cP cQ m cB (arcG xs 0) (xs.take m) 0 (wr.alloc (.cells #[.int .i64 0] 3)) := by
        have rl := L1.out
        refine ⟨(bL4.kept g4 (by simp; omega)).alloc _, (bR4.kept g4 (by simp; omega)).alloc _, (bP4.kept g4 (by simp; omega)).alloc _, (bQ4.kept g4 (by simp; omega)).alloc _, Boxed.new _ _ _, ((show Boxed w4 Bs 22 (.slice aB m cB) from bS).kept g4 (by simp; omega)).alloc _, ?_, ?_, ?_, ?_, ?_, ?_, ?_, ?_⟩
        · refine ((oP4.toSrc ?_).grown g4 ?_).alloc _
          · intro x hx; obtain ⟨y, hy, rfl⟩ := List.mem_map.1 hx; have := pv y hy; omega
          · rintro b off rfl _ he; cases he; have := hpl.out gI rfl; omega
        · refine ((oQ4.toSrc ?_).grown g4 ?_).alloc _
          · intro x hx; obtain ⟨y, hy, rfl⟩ := List.mem_map.1 hx; have := pv y hy; omega
          · rintro b off rfl _ he; cases he; have := hql.out gI rfl; omega
        · refine (sB.grown g4 ?_).alloc _
          intro b off e hx he; cases he; have := hfil.out gI off e hx; omega
        · rintro b off rfl _; have := hpl.out b rfl; omega
        · rintro b off rfl _; have := hql.out b rfl; omega
        · intro b off e hx; have h2 := sB.blk b off e hx; omega
        · exact ⟨by omega, by omega, by omega, by omega, by omega, by omega⟩
        · exact (B04.grown g4 B04.size (by intro k e; cases e; omega)).alloc (by have := B04.size; omega) _
      have hm0 := hide hmd.out
      clear bL4 bR4 bP4 bQ4 bS oP4 oQ4 sB B04 hfil hpl hql HZ hmd pv g4
      obtain ⟨W5, hW5⟩ : ∃ W5, wr.alloc (.cells #[.int .i64 0] 3) = W5 := ⟨_, rfl⟩
      rw [hW5] at i5 ⊢
      clear hW5 qn hgr hI4 hO
      rename_i K hK
      generalize wr.heap.size = Nb at i5 zr ⊢
      generalize hA : Act.mk _ _ = A
      have HK : ∀ k D W2, AI w w.heap.size (w.heap.size + 1) w2.heap.size (w2.heap.size + 1) Nb Bs lv aP aQ aB L cP cQ m cB (arcG xs 0) (xs.take m) k W2 → W2.heap[D]? = some (.deferred (some [])) → Nb < D → K { A with defers := { target := .collected D, args := #[] } :: A.defers } W2 := by
        intro k D W2 hai hd hD
        subst hA
        refine hK _ _ ?_
        have cN := hai.nb.cell
        have fN := hai.nb.frozen
        have i7 := hai.setN 0 0 rfl
        have hd7 : (W2.setCell ⟨Nb, 0, none⟩ (.int .i64 0)).heap[D]? = some (.deferred (some [])) := by rw [Below.heap_setCell _ _ _ _ (by simp; omega)]; exact hd
        have I7 := hide (And.intro i7 hd7)
        clear i7 hd7 hd hai i5 hK
        gi_wp2_with fail
        obtain ⟨i7, hd7⟩ := I7.out
        clear I7 cN fN
        generalize W2.setCell ⟨Nb, 0, none⟩ (.int .i64 0) = W6 at i7 hd7 ⊢
        refine range_enter rfl (by decide) (gf := 53) (lb := #[.pointer (some ⟨Bs, 0, none⟩)]) rfl trivial (enters_of Try.func53 (by kernel_rfl) rfl) ?_
        intro fn hfn
        have hDlt : D < W6.heap.size := (Array.getElem?_eq_some_iff.1 hd7).1
        generalize hrec : recOf fn _ _ _ _ _ = r
        have i8 := LI.enter (Ds := [D]) i7 (by intro x hx; simp at hx; subst hx; exact ⟨hd7, hD⟩) (r .ready none)
        refine (numbers1_in 4 (by decide) (W6.heap.size + 1) Bs aB m cB (xs.take m) (by omega) (fun p W => ∃ k, k ≤ L ∧ LI (r .ready none) (W6.heap.size + 1) [W6.heap.size, D] w w.heap.size (w.heap.size + 1) w2.heap.size (w2.heap.size + 1) Nb Bs lv aP aQ aB L cP cQ m cB (arcG xs 0) (xs.take m) k W ∧ soundG xs 0 = soundG xs p ∧ (arcG xs 0).drop k = arcG xs p) (fun W => False) _
          (fun p W1 h => by obtain ⟨k, _, h, _⟩ := h; exact ⟨h.ai.sb, h.ai.bs.cell⟩) (fun p W1 W2 h dr => by obtain ⟨k, hk, h, hs⟩ := h; exact ⟨k, hk, h.drawn dr, hs⟩) ?_ ⟨0, Nat.zero_le _, i8, rfl, rfl⟩).mono ?_
        · rintro p q N W1 ⟨k, hkp, hI, hsp, hdr⟩ hp hpq hq hnk
          obtain ⟨hs2, har⟩ := cut_step xs m p q N hm0.out hsp hp hnk
          rw [har] at hdr
          obtain ⟨hk1, hk2, hk3⟩ := drop_cons hdr
          have hkL : k < L := by rw [hLd.out]; exact hk1
          have hl := hI.loop
          rw [← hrec] at hl
          refine range_round (a₁ := ?A2) hfn hl rfl ?_ ?_
          rotate_left
          · intro K hK
            gi_wp2
            exact hK
          · rw [hrec]
            have HI := hide (hI.put (r .busy none))
            have Hs := hide (And.intro hs2 hk3)
            have cN := HI.out.ai.nb.cell
            have fN := HI.out.ai.nb.frozen
            have cP' := HI.out.ai.pl.cell
            have cQ' := HI.out.ai.ll.cell
            obtain ⟨b1, f1, e1, x1⟩ := HI.out.ai.sp.at k hkL
            obtain ⟨b2, f2, e2, x2⟩ := HI.out.ai.sq.at k hkL
            rw [show ((arcG xs 0).map Prod.fst).getD k 0 = (p : Int) by simp [List.getD, hk2]] at x1
            rw [show ((arcG xs 0).map Prod.snd).getD k 0 = N by simp [List.getD, hk2]] at x2
            have hkB : k < 1048576 := by have h1 := arc_len xs (xs.length - 0) 0; have h2 := L1.out; have h3 := hLd.out; unfold arcG at h3; omega
            have hge : ¬ (L : Int) ≤ (k : Int) := by omega
            clear hl hI hrec i8 i7 hs2 hsp hnk har hdr hk1 hk2 hk3 hd7
            rw [e1] at cP'
            rw [e2] at cQ'
            gi_wp2_with fail
            have z := HI.out.setN ((k : Int) + 1) (k + 1) (by simp)
            rw [e1, e2] at z
            exact ⟨z.loop, rfl, k + 1, by omega, z.put _, Hs.out⟩
        · rintro e W' (⟨⟨v, rfl⟩, ⟨k, hkL, hI, hsp, hdr⟩ | hI⟩ | ⟨p, hp, he, rfl, ⟨k, _, hI, hsp, _⟩⟩)
          · have hl := hI.loop
            rw [← hrec] at hl
            refine range_done hl ?_
            rw [hrec]
            have h2 := hI.put (r .exhausted none)
            rw [cut_end xs m hm0.out hsp] at hdr
            obtain rfl : k = L := by have := List.drop_eq_nil_iff.1 hdr; have := hLd.out; omega
            have cN := h2.ai.nb.cell
            have cQ' := h2.ai.ll.cell
            have cR := h2.ai.res.cell
            have fR := h2.ai.res.frozen
            have H2 := hide h2
            clear hI hl hrec i8 i7 hdr hsp hd7 h2
            generalize W'.putObj (W6.heap.size + 1) (.loop (r .exhausted none)) = W7 at H2 cN cQ' cR fR ⊢
            gi_wp2_with fail
            refine ⟨trivial, ?_⟩
            refine (callsIn_wide.2 (mayI_12 _ _ (SrcI.lit [1, 2] _ 2 rfl rfl (by simp) (by decide)))).mono ?_
            rintro e W8 ⟨rfl, D8⟩
            have H8 : Hid (AI w w.heap.size (w.heap.size + 1) w2.heap.size (w2.heap.size + 1) Nb Bs lv aP aQ aB k cP cQ m cB (arcG xs 0) (xs.take m) k W8) := (H2.out.ai.alloc _).drawn D8
            have hD8 : Hid (W8.heap[W6.heap.size]? = some (.deferred (some [])) ∧ W8.heap[D]? = some (.deferred (some [])) ∧ D < W6.heap.size) := by
              have d1 := H2.out.dfr W6.heap.size (by simp)
              have d2 := H2.out.dfr D (by simp)
              refine ⟨?_, ?_, hDlt⟩
              · rw [D8.heap, Below.heap_alloc _ _ _ (Array.getElem?_eq_some_iff.1 d1).1]; exact d1
              · rw [D8.heap, Below.heap_alloc _ _ _ (Array.getElem?_eq_some_iff.1 d2).1]; exact d2
            have cR8 := H8.out.res.cell
            have fR8 := H8.out.res.frozen
            clear D8 cN cQ' cR fR H2
            gi_wp2_with fail
            refine ⟨trivial, ?_⟩
            refine (callsIn_wide.2 (namesI_any _)).mono ?_
            rintro e W9 ⟨rfl, rfl⟩
            gi_wp2
            obtain ⟨x1, x2, x3⟩ := hD8.out
            obtain ⟨o1, o2, o3, o4, o5, o6⟩ := H8.out.o
            have oW6 : Nb < W6.heap.size := by omega
            exact arcs_leave w _ _ D W6.heap.size (by omega) rfl (by rw [Below.heap_setCell _ _ _ _ (by simp; omega)]; exact x1) (by rw [Below.heap_setCell _ _ _ _ (by simp; omega)]; exact x2) (H8.out.res.set _) (H8.out.bel.setCell (by simp) _) (by omega) (by omega)
          · exact hI.elim
          · exact (cut_no xs m p hm0.out hsp hp he).elim
      refine range_enter rfl (by decide) (gf := 53) (lb := #[.pointer (some ⟨Bs, 0, none⟩)]) (by subst hA; rfl) trivial (enters_of Try.func53 (by kernel_rfl) rfl) ?_
      intro fn hfn
      generalize hrec : recOf fn _ _ _ _ _ = r
      have i6 := LI.enter (Ds := []) i5 (by simp) (r .ready none)
      refine (numbers1_in 4 (by decide) (W5.heap.size + 1) Bs aB m cB (xs.take m) (by omega) (fun p W => ∃ k, k ≤ p ∧ LI (r .ready none) (W5.heap.size + 1) [W5.heap.size] w w.heap.size (w.heap.size + 1) w2.heap.size (w2.heap.size + 1) Nb Bs lv aP aQ aB L cP cQ m cB (arcG xs 0) (xs.take m) k W ∧ soundG xs 0 = soundG xs p) (fun W => ∃ k, LI (r .done (some (.exit 2))) (W5.heap.size + 1) [W5.heap.size] w w.heap.size (w.heap.size + 1) w2.heap.size (w2.heap.size + 1) Nb Bs lv aP aQ aB L cP cQ m cB (arcG xs 0) (xs.take m) k W) _
        (fun p W1 h => by obtain ⟨k, _, h, _⟩ := h; exact ⟨h.ai.sb, h.ai.bs.cell⟩) (fun p W1 W2 h dr => by obtain ⟨k, hk, h, hs⟩ := h; exact ⟨k, hk, h.drawn dr, hs⟩) ?_ ⟨0, Nat.le_refl _, i6, rfl⟩).mono ?_
      · rintro p q N W1 ⟨k, hkp, hI, hsp⟩ hp hpq hq hnk
        obtain ⟨hs2, _⟩ := cut_step xs m p q N hm0.out hsp hp hnk
        have hl := hI.loop
        rw [← hrec] at hl
        subst hA
        refine range_round (a₁ := ?A1) hfn hl rfl ?_ ?_
        rotate_left
        · intro K hK
          gi_wp2
          exact hK
        · rw [hrec]
          have HI := hide (hI.put (r .busy none))
          have Hs := hide hs2
          have cN := HI.out.ai.nb.cell
          have fN := HI.out.ai.nb.frozen
          have cL := HI.out.ai.leave.cell
          clear hl hI hrec i6 i5 hs2 HK hK hsp hnk
          by_cases hkl : (k : Int) = lv
          · have hb : ((k : Int) == lv) = true := by simpa using hkl
            gi_wp2
            exact ⟨HI.out.loop, .inr ⟨rfl, k, HI.out.put _⟩⟩
          · have hb : ((k : Int) == lv) = false := by simpa using hkl
            gi_wp2
            have z := HI.out.setN ((k : Int) + 1) (k + 1) (by simp)
            exact ⟨z.loop, .inl ⟨rfl, k + 1, by omega, z.put _, Hs.out⟩⟩
      · rintro e W' (⟨⟨v, rfl⟩, ⟨k, _, hI, hsp⟩ | ⟨k, hI⟩⟩ | ⟨p, hp, he, rfl, ⟨k, _, hI, hsp⟩⟩)
        · have hl := hI.loop
          rw [← hrec] at hl
          refine range_done hl ?_
          rw [hrec]
          have h2 := hI.put (r .exhausted none)
          exact HK k _ _ h2.ai (h2.dfr _ (by simp)) (h2.od _ (by simp)).1
        · have hl := hI.loop
          rw [← hrec] at hl
          refine range_left hl ?_
          rw [hrec]
          have h2 := hI.put (r .exhausted (some (.exit 2)))
          have h3 := hide (HK k W5.heap.size _ h2.ai (h2.dfr _ (by simp)) (h2.od _ (by simp)).1)
          generalize ({ A with defers := { target := .collected W5.heap.size, args := #[] } :: A.defers } : Act) = A2 at h3 ⊢
          gi_wp2
          exact h3.out
        · exact (cut_no xs m p hm0.out hsp hp he).elim

end Go.Proofs.Ytlhibocacdjleaa
