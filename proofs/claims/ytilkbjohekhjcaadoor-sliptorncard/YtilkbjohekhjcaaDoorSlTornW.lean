/-
  The statement SlipTorn: its walk.
-/
import Derived.Test.YtilkbjohekhjcaaDoorSlTornS
import Derived.Test.YtilkbjohekhjcaaDoorSlRowB
import Derived.Test.YtilkbjohekhjcaaDoorSlOpenL
import Derived.Test.YtilkbjohekhjcaaDoorSlRight
import Derived.Test.YtilkbjohekhjcaaDoorSlWk
import Derived.Test.YtilkbjohekhjcaaDoorSlRowsW
import Derived.Test.YtilkbjohekhjcaaDoorSlEachJ
import Derived.Test.YtilkbjohekhjcaaDoorBoxSt
import Derived.Test.YtilkbjohekhjcaaDoorSlTornR
namespace Go.Proofs.YtilkbjohekhjcaaDoor
open Go.RowKit Go.Shelf Go.IntWalk
attribute [local go_sem] Oper.semAt_some

theorem le_torn {N : Nat} (h : (N : Int) ≤ 1310840) : N ≤ 140737488355328 ∧ (N : Int) ≤ 140737488355328 := ⟨by omega, by omega⟩
theorem take_min {xk : List Int} {m0 : Nat} (h : xk.length = m0) : xk.take (min m0 65535) = xk.take 65535 := by
  by_cases h6 : m0 ≤ 65535
  · rw [Nat.min_eq_left h6, List.take_of_length_le (by omega), List.take_of_length_le (by omega)]
  · rw [Nat.min_eq_right (by omega)]
theorem Els.below {w w' : World} {ao : Option Addr} {n cap : Nat} {es : List (Int × List Int)} (h : Els w ao n cap es) (hb : Below w.heap.size w w') : Els w' ao n cap es := by
  refine ⟨h.hl, h.hcap, h.hmax, fun hn => ?_⟩
  obtain ⟨b, off, he, hc⟩ := h.hrd hn
  refine ⟨b, off, he, fun i hi => ?_⟩
  obtain ⟨a, m, c, h1, h2, h3⟩ := hc i hi
  exact ⟨a, m, c, (hb.cell (lt_of_cell h1)).trans h1, (hb.cell (lt_of_cell h2)).trans h2, h3.below hb⟩

theorem Els.byt {w : World} {ao : Option Addr} {n cap : Nat} {es : List (Int × List Int)} (h : Els w ao n cap es) : ∀ e ∈ es, ∀ x ∈ e.2, 0 ≤ x ∧ x < 256 := by
  intro e he
  obtain ⟨i, hi, rfl⟩ := List.mem_iff_getElem.1 he
  obtain ⟨b, off, _, hc⟩ := h.hrd (by have := h.hl; omega)
  obtain ⟨a, m, c, _, _, h3⟩ := hc i (by have := h.hl; omega)
  have e1 : es.getD i (0, []) = es[i] := by simp [List.getD, hi]
  rw [e1] at h3
  exact h3.hbyt
theorem catB_bd : ∀ (L : List Sl), (∀ s ∈ L, Sl.ok s) → ∀ x ∈ catB L, 0 ≤ x ∧ x < 256
  | [], _, x, h => by simp [catB] at h
  | s :: r, hk, x, h => by
    simp only [catB, List.mem_append] at h
    rcases h with h | h
    · exact slipB_bd s.1 s.2 (hk s (by simp)).1 (hk s (by simp)).2.2 x h
    · exact catB_bd r (fun t ht => hk t (by simp [ht])) x h

set_option maxRecDepth 100000 in
theorem fld1 (W : World) (t : Int) (a : Option Addr) (n c : Nat) : (Instr.field 30 (.agg #[.int .i64 t, .slice a n c]) 1).run Tryd.prog W = .ok (.slice a n c) W := by first | rfl | kernel_rfl
set_option maxRecDepth 100000 in
theorem fld0 (W : World) (t : Int) (a : Option Addr) (n c : Nat) : (Instr.field 30 (.agg #[.int .i64 t, .slice a n c]) 0).run Tryd.prog W = .ok (.int .i64 t) W := by first | rfl | kernel_rfl

set_option maxRecDepth 100000 in
set_option maxHeartbeats 8000000 in
theorem torn_in (al : Option Addr) (nl cl : Nat) (es : List (Int × List Int)) (cut : Int) (w : World) (hT : Tab w) (hE : Els w al nl cl es) :
    CallsIn Fence.wide 8 Tryd.prog 3 #[.slice al nl cl, .int .i64 cut] w fun e w' => e = .returned (.bool true) ∧ Below w.heap.size w w' := by
  refine callsIn_of_wp_marks Tryd.func3 rfl trivial ?_ rfl
  simp only [Tryd.ntmps3, List.size_toArray, List.length_cons, List.length_nil, Nat.reduceAdd, Nat.reduceSub, Array.replicate_succ, Array.replicate_zero, List.push_toArray, List.append_toArray, List.nil_append, List.cons_append]
  refine wpIn_wide.2 ?_
  have HTw := hide hT
  have HT0 := hide hT.lt
  have hf1 := fld1
  have hf0 := fld0
  have bL0 : Boxed ((w.alloc (.cells #[.slice al nl cl] 22)).alloc (.cells #[.bool false] 4)) w.heap.size 22 (.slice al nl cl) := (Boxed.new w 22 (.slice al nl cl)).alloc _
  have bR0 : Boxed ((w.alloc (.cells #[.slice al nl cl] 22)).alloc (.cells #[.bool false] 4)) (w.heap.size + 1) 4 (.bool false) := by
    have h := Boxed.new (w.alloc (.cells #[.slice al nl cl] 22)) 4 (.bool false)
    rwa [World.size_alloc] at h
  have B0 : Below w.heap.size w ((w.alloc (.cells #[.slice al nl cl] 22)).alloc (.cells #[.bool false] 4)) := ((Below.refl _ w).alloc (Nat.le_refl _) _).alloc (by simp) _
  have z0 : ((w.alloc (.cells #[.slice al nl cl] 22)).alloc (.cells #[.bool false] 4)).heap.size = w.heap.size + 2 := by simp
  go_wp2_with fail
  generalize (w.alloc (.cells #[.slice al nl cl] 22)).alloc (.cells #[.bool false] 4) = W0 at bL0 bR0 B0 z0 ⊢
  refine (works_any W0 (HTw.out.below B0 HT0.out)).mono ?_
  rintro e W1 ⟨rfl, B1⟩
  have bL1 : Boxed W1 w.heap.size 22 (.slice al nl cl) := (B1.block _ bL0.lt).trans bL0
  have bR1 : Boxed W1 (w.heap.size + 1) 4 (.bool false) := (B1.block _ bR0.lt).trans bR0
  have L1 : Below w.heap.size w W1 := B0.trans (B1.mono B0.size)
  have z1 : w.heap.size + 2 ≤ W1.heap.size := by have := B1.size; omega
  have hel := hE.hl
  have HE := hide hE
  have hcl : (nl : Int) ≤ 9223372036854775807 := by have h1 := hE.hcap; have h2 := hE.hmax; unfold maxLen at h2; omega
  have HLn := hide hel
  obtain ⟨L, hL⟩ : ∃ L, (es.map rightS).take 20 = L := ⟨_, rfl⟩
  have HL := hide hL
  have HLl : Hid (L.length = min nl 20) := by unfold Hid; rw [← hL, List.length_take, List.length_map, hel]; omega
  have HBY : Hid (∀ t, ∀ x ∈ catB (L.take t), 0 ≤ x ∧ x < 256) := fun t => catB_bd _ (fun s hs => by
    have hs' := List.mem_of_mem_take hs
    rw [← hL] at hs'
    obtain ⟨e, he, rfl⟩ := List.mem_map.1 (List.mem_of_mem_take hs')
    exact rightS_ok e (hE.byt e he))
  clear bL0 bR0 B0 B1 z0 hT hE hL hel
  go_wp2_with fail
  go_loopw [5, 6, 7] (fun vb ve vi wr => ∃ (j : Nat) (ab : Option Addr) (nb cb : Nat) (ae : Option Addr) (ce : Nat), vi = .int .i64 j ∧ j ≤ nl ∧ j ≤ 20 ∧ vb = .slice ab nb cb ∧ ve = .slice ae j ce ∧ nb ≤ j * 65542 ∧ Hid (OwnB wr W1.heap.size (.slice ab nb cb) (catB (L.take j))) ∧ Hid (OwnI wr W1.heap.size (.slice ae j ce) ((endsL (L.take j) 0).map (fun p : Nat => (p : Int)))) ∧ Hid (Below W1.heap.size W1 wr)) (fun _ _ i _ => nl - (intOf i).toNat)
  case atStart => exact ⟨0, none, 0, 0, none, 0, rfl, Nat.zero_le _, by omega, rfl, rfl, by omega, OwnB.nil _ _, OwnI.nil _ _, Below.refl _ _⟩
  case round =>
    obtain ⟨j, ab, nb, cb, ae, ce, rfl, hjn, hj20, rfl, rfl, hnb, HOb, HOe, HBr⟩ := hrel
    by_cases hin : j < nl ∧ j < 20
    · obtain ⟨h1, h2⟩ := hin
      have hjI : (j : Int) < (nl : Int) := by omega
      have hj2I : (j : Int) < 20 := by omega
      have L2 : Below w.heap.size w wr := L1.trans (HBr.out.mono L1.size)
      obtain ⟨bl, ol, rfl, hcel⟩ := (HE.out.below L2).hrd (by omega)
      obtain ⟨a, m0, c, k1, k2, k3⟩ := hcel j h1
      have cB := ((HBr.out.block _ bL1.lt).trans bL1 |> fun h : Boxed wr _ _ _ => h.cell)
      have hsj : Hid (L[j]? = some (rightS (es.getD j (0, [])))) := by
        unfold Hid
        rw [← HL.out, List.getElem?_take, if_pos h2, List.getElem?_map, List.getElem?_eq_getElem (show j < es.length by rw [HLn.out]; exact h1)]
        simp [List.getD, List.getElem?_eq_getElem (show j < es.length by rw [HLn.out]; exact h1)]
      generalize es.getD j (0, []) = ej at k1 k3 hsj
      obtain ⟨tk, xk⟩ := ej
      have HTl : Hid ((L.take j).length = j) := by unfold Hid; rw [List.length_take, HLl.out]; omega
      have hts : L.take (j + 1) = L.take j ++ [rightS (tk, xk)] := by rw [List.take_add_one, hsj.out]; rfl
      have hok := rightS_ok (tk, xk) k3.hbyt
      have hcat : catB (L.take (j + 1)) = catB (L.take j) ++ slipB (tk % 256) (xk.take 65535) := by rw [hts, catB_snoc]; rfl
      have HPS : Hid (putS (catB (L.take j)) (tk % 256) (xk.take 65535) = (catB (L.take (j + 1)), 0)) := by unfold Hid putS; rw [if_neg (by have := hok.1; simp only [rightS] at this; omega), if_neg (by have := hok.2.1; simp only [rightS] at this; omega), hcat]
      have HBc : Hid (∀ x ∈ catB (L.take j), 0 ≤ x ∧ x < 256) := HBY.out _ 
      have HBc1 : Hid (∀ x ∈ catB (L.take (j + 1)), 0 ≤ x ∧ x < 256) := HBY.out _
      have HLb : Hid ((catB (L.take j)).length = nb) := (HOb.out.toSrc HBc.out).hlen
      have HLb1 : Hid ((catB (L.take (j + 1))).length = nb + ((xk.take 65535).length + 7)) := by unfold Hid; rw [hcat, List.length_append, HLb.out, slipB_len]
      have HEn : Hid (∀ N : Nat, N = nb + ((xk.take 65535).length + 7) → (endsL (L.take (j + 1)) 0).map (fun p : Nat => (p : Int)) = (endsL (L.take j) 0).map (fun p : Nat => (p : Int)) ++ [((N : Nat) : Int)]) := fun N hN => by rw [hts, endsL_snoc, HLb.out, List.map_append]; simp [rightS, sz, hN]
      clear hts hok hcat
      go_wp2_with (first | (go_at_call 6; refine (right_any tk a m0 c xk wr k3).mono ?_; rintro e w2 ⟨m, rfl, hm, hsm, B2⟩; have HM := hide hm; have hmB : m ≤ 65535 := (by omega); have hlm : (xk.take 65535).length = m := hsm.hlen; have HLm := hide hlm; have HSm := hide hsm; have HB2 := hide B2; clear hm hlm hsm B2) | (go_at_call 5; have hput := put_any ab nb cb (catB (L.take j)) (tk % 256) a m c (xk.take 65535) w2 ((HTw.out.below L2 HT0.out).belowA HB2.out) ((HOb.out.toSrc HBc.out).below HB2.out) HSm.out (by omega) (by omega); rw [HPS.out] at hput; refine hput.mono ?_; clear hput; rintro e w3 ⟨ax, mx, cx, rfl, hox0, B3⟩; have hox : OwnB w3 w2.heap.size (.slice ax mx cx) (catB (L.take (j + 1))) := hox0; clear hox0; have hmx : mx = nb + (m + 7) := (by have h9 := (hox.toSrc HBc1.out).hlen; have h8 := HLb1.out; have h7 := HLm.out; omega); subst hmx; have HOX := hide hox; have HB3 := hide B3; have B23 : Below wr.heap.size wr w3 := HB2.out.trans (B3.mono HB2.out.size); have HB23 := hide B23; have cB3 := (B23.cell (p := ⟨w.heap.size, 0, none⟩) (lt_of_cell cB)).trans cB; have k13 := (B23.cell (lt_of_cell k1)).trans k1; have k23 := (B23.cell (lt_of_cell k2)).trans k2; clear hox B3 B23) | (go_at_call 6; refine (right_any tk a m0 c xk w3 (k3.below HB23.out)).mono ?_; rintro e w4 ⟨m4, rfl, hm4, hsm4, B4⟩; have hmm : m4 = m := (by have h9 := HM.out; omega); subst hmm; have HB4 := hide B4; clear hm4 hsm4 B4) | (go_at_call 7; refine (size_any _ (by omega) _).mono ?_; rintro e w5 ⟨rfl, hw5⟩; have hw6 := hw5.symm; subst hw6; rw [show sizeI (m4 : Int) = (m4 : Int) + 7 by unfold sizeI; rw [if_neg (by omega)]]) | (at_builtin; refine wpList_appIN _ rfl (.tmp 60) (.tmp 63) rfl W1.heap.size (.slice ae j ce) ((endsL (L.take j) 0).map (fun p : Nat => (p : Int))) rfl (row_below (row_below (row_below HOe.out HB23.out) HB4.out) ((Below.refl _ _).alloc (Nat.le_refl _) _)) (some ⟨w4.heap.size, 0, none⟩) 1 1 [((nb + (m4 + 7) : Nat) : Int)] rfl (SrcI.litAt [((nb + (m4 + 7) : Nat) : Int)] _ 1 _ rfl rfl (by intro x hx; simp at hx; omega) (by decide) rfl) (j + 1) (by simp [endsL_len, HTl.out]) (.inr (by simp)) (by omega) (by have h9 := HBr.out.size; have h8 := HB23.out.size; have h7 := HB4.out.size; simp; omega) ?_; intro g6 c6 w6 ho6 hb6 hl6 hc6 hm6 hg6))
      go_roundw
      case rel =>
        have HOe4 := row_below (row_below (row_below HOe.out HB23.out) HB4.out) ((Below.refl w4.heap.size w4).alloc (Nat.le_refl _) (.cells #[.int .i64 ((nb : Int) + ((m4 : Int) + 7))] 3))
        have HOX4 := row_below (row_below HOX.out HB4.out) ((Below.refl w4.heap.size w4).alloc (Nat.le_refl _) (.cells #[.int .i64 ((nb : Int) + ((m4 : Int) + 7))] 3))
        have s1 := HBr.out.size
        have s2 := HB2.out.size
        have s3 := HB23.out.size
        have s4 := HB4.out.size
        refine ⟨j + 1, ax, nb + (m4 + 7), cx, some ⟨g6, 0, none⟩, c6, by go_num, by omega, by omega, rfl, rfl, by omega, ?_, ?_, ?_⟩
        · exact OwnB.rebase (row_apart HOX4 HOe4 (by decide) hg6) (by omega)
        · unfold Hid
          rw [HEn.out (nb + (m4 + 7)) (by rw [HLm.out])]
          exact ho6
        · exact (((HBr.out.trans (HB23.out.mono s1)).trans (HB4.out.mono (by omega))).alloc (by omega) _).grown hg6 (by simp; omega) (fun k hk => (World.ownsRow.lt HOe4 k hk).1)
      case measure => simp [intOf]; omega
    · have hjl : j = L.length := by rw [HLl.out]; omega
      have hall : L.take j = L := List.take_of_length_le (by omega)
      rw [hall] at HOb HOe
      have hcond : ¬ (j < nl) ∨ (j < nl ∧ j = 20) := by omega
      obtain ⟨N, hN⟩ : ∃ N : Nat, (IntKind.u64.wrap cut).tmod ((nb : Int) + 1) = (N : Int) := ⟨_, (Int.toNat_of_nonneg (by rw [Int.tmod_eq_emod_of_nonneg (by rw [IntKind.wrap_u64]; omega)]; exact Int.emod_nonneg _ (by omega))).symm⟩
      have hNb : N ≤ nb := by
        have h := Int.emod_lt_of_pos (IntKind.u64.wrap cut) (show (0 : Int) < (nb : Int) + 1 by omega)
        rw [Int.tmod_eq_emod_of_nonneg (by rw [IntKind.wrap_u64]; omega)] at hN
        omega
      have hwN : wrap64 (N : Int) = (N : Int) := by unfold wrap64; omega
      have cB := ((HBr.out.block _ bL1.lt).trans bL1 |> fun h : Boxed wr _ _ _ => h.cell)
      have hlE : ((endsL L 0).map (fun p : Nat => (p : Int))).length = j := by rw [List.length_map, endsL_len, hjl]
      have HLE := hide hlE
      have L2 : Below w.heap.size w wr := L1.trans (HBr.out.mono L1.size)
      have s1 := HBr.out.size
      have HJL := hide hjl
      clear hall hlE hjl
      obtain ⟨V, hV⟩ : ∃ V, V = wr := ⟨_, rfl⟩
      subst hV
      rcases hcond with hc | ⟨hc, hc2⟩
      · have hcI : ¬ (j : Int) < (nl : Int) := by omega
        go_wp2_with fail
        have bWh := Boxed.new V 3 (.int .i64 0)
        have BA : Below V.heap.size V (V.alloc (.cells #[.int .i64 0] 3)) := (Below.refl _ _).alloc (Nat.le_refl _) _
        have HOb1 := hide (row_below HOb.out BA)
        have HOe1 := hide (row_below HOe.out BA)
        generalize V.alloc (.cells #[.int .i64 0] 3) = V1 at bWh BA HOb1 HOe1 ⊢
        have HVl : Hid (∀ q, (Value.slice ae j ce).ownBlock = some q → q < V.heap.size) := fun q hq => (World.ownsRow.lt HOe.out q hq).2
        have HVb : Hid (∀ q, (Value.slice ab nb cb).ownBlock = some q → q < V.heap.size) := fun q hq => (World.ownsRow.lt HOb.out q hq).2
        have hNI : (N : Int) ≤ 1310840 := by omega
        go_loopw [12, 13] (fun ve vi wr => ∃ (t : Nat) (st : Nat × Nat), t ≤ j ∧ vi = .int .i64 t ∧ ve = .int .i64 ((st.2 : Nat) : Int) ∧ Hid (scanE N ((endsL L 0).take t) 0 (0, 0) = st) ∧ Hid (Boxed wr V.heap.size 3 (.int .i64 ((st.1 : Nat) : Int))) ∧ Hid (V1.grownBy wr (some V.heap.size))) (fun _ i _ => j - (intOf i).toNat)
        case atStart => exact ⟨0, (0, 0), by omega, rfl, rfl, rfl, bWh, World.grownBy.refl _ _⟩
        case round =>
          obtain ⟨t, st, ht, rfl, rfl, HSt, HBx, HGx⟩ := hrel
          have HOe2 := hide (World.ownsRow.kept HOe1.out HGx.out (.inr (fun h => by have := HVl.out _ h; omega)))
          by_cases htj : t < j
          · have htI : (t : Int) < (j : Int) := by omega
            obtain ⟨ge, hge⟩ : ∃ ge, ae = some ⟨ge, 0, none⟩ := by
              rcases HOe2.out.2 with ⟨h1, h2⟩ | ⟨g, c, _, h1, _⟩
              · rw [HLE.out] at h2; omega
              · simp at h1; exact ⟨g, h1.1⟩
            subst hge
            obtain ⟨e, he⟩ : ∃ e, (endsL L 0)[t]? = some e := ⟨_, List.getElem?_eq_getElem (by rw [endsL_len, ← HJL.out]; exact htj)⟩
            have hc := World.ownsRow.cells HOe2.out (g := ge) rfl t (.int .i64 (e : Int)) (by simp [he])
            rw [addNone7] at hc
            have bx := HBx.out.cell
            have bf := HBx.out.frozen
            have hgn : ¬ ge = V.heap.size := fun h => by have := HVl.out ge rfl; omega
            have hgn2 : ¬ V.heap.size = ge := fun h => hgn h.symm
            have hsn : scanE N ((endsL L 0).take (t + 1)) 0 (0, 0) = if e ≤ N then (t + 1, e) else st := by
              rw [List.take_add_one, he]
              have h := scan_snoc N ((endsL L 0).take t) e 0 (0, 0)
              rw [HSt.out, List.length_take, endsL_len, ← HJL.out] at h
              simp only [Option.toList_some]
              rw [h, show 0 + min t j + 1 = t + 1 by omega]
            have HSN := hide hsn
            clear he hsn
            by_cases hle : e ≤ N
            · have hleI : (e : Int) ≤ (N : Int) := by omega
              go_wp2
              go_roundw
              case rel => exact ⟨t + 1, (t + 1, e), by omega, by go_num, rfl, by unfold Hid; rw [HSN.out, if_pos hle], by unfold Hid; exact HBx.out.set _, grown_trans HGx.out (grownBy_setCell' _ _ _)⟩
              case measure => simp [intOf]; omega
            · have hleI : ¬ (e : Int) ≤ (N : Int) := by omega
              go_wp2
              go_roundw
              case rel => exact ⟨t + 1, st, by omega, by go_num, rfl, by unfold Hid; rw [HSN.out, if_neg hle], HBx, HGx⟩
              case measure => simp [intOf]; omega
          · obtain rfl : t = j := by omega
            have hst : st = (wholes L N, endsT L N) := by rw [← HSt.out, List.take_of_length_le (by rw [endsL_len, ← HJL.out]; exact Nat.le_refl _), scan_all]
            obtain ⟨wh, eT⟩ := st
            have hwh : wh = wholes L N := congrArg Prod.fst hst
            have heT : eT = endsT L N := congrArg Prod.snd hst
            clear hst
            have Bwr : Below V.heap.size V wr := BA.grown HGx.out BA.size (by intro k e; cases e; exact Nat.le_refl _)
            have B1r : Below W1.heap.size W1 wr := HBr.out.trans (Bwr.mono s1)
            have L3 : Below w.heap.size w wr := L1.trans (B1r.mono L1.size)
            have bL3 : Boxed wr w.heap.size 22 (.slice al nl cl) := (B1r.block _ bL1.lt).trans bL1
            have bR3 : Boxed wr (w.heap.size + 1) 4 (.bool false) := (B1r.block _ bR1.lt).trans bR1
            have bW3 : Boxed wr V.heap.size 3 (.int .i64 (wh : Int)) := HBx.out
            have hby : ∀ x ∈ catB L, 0 ≤ x ∧ x < 256 := by have h := HBY.out L.length; rwa [List.take_length] at h
            have okL : ∀ s ∈ L, Sl.ok s := by
              intro s hs
              rw [← HL.out] at hs
              obtain ⟨e, he, rfl⟩ := List.mem_map.1 (List.mem_of_mem_take hs)
              exact rightS_ok e (HE.out.byt e he)
            have srb := OwnB.toSrc (row_below HOb.out Bwr) hby
            have hlb := srb.hlen
            have srN := srb.head N hNb
            have TT := torn_all L N okL (by omega)
            have hxl : ((catB L).take N).length = N := by rw [List.length_take]; omega
            have hbx : ∀ x ∈ (catB L).take N, 0 ≤ x ∧ x < 256 := fun x hx => hby x (List.mem_of_mem_take hx)
            generalize (catB L).take N = xs at srN TT hxl hbx
            obtain ⟨t1, t2, t3, t4⟩ := TT
            have sl : ∀ X : World, (Instr.slice 24 (.slice ab nb cb) none (some (.int .i64 (N : Int))) none).run Tryd.prog X = .ok (.slice ab N cb) X := fun X => by
              have h := slice_hi X ab nb cb (N : Int) N rfl (by have := srb.hcap; omega)
              rwa [cutA_zero] at h
            have hzV : V.heap.size < wr.heap.size := bW3.lt
            have hle := endsT_le L N
            have hwl := wholes_le L N
            obtain ⟨hN7, hN8⟩ := le_torn hNI
            clear hN hwN
            have ECl := callsIn_wide.1 (end_in ab N cb xs wr (HTw.out.below L3 HT0.out) srN hN8)
            rw [t1, t2] at ECl
            rw [← hwh] at t3 t4 hwl
            rw [← heT] at ECl hle
            have HPL := hide t3
            have HT4 := hide t4
            have HBX := hide hbx
            have HXL := hide hxl
            have HB1R := hide B1r
            clear t1 t2 t3 t4 hbx hxl hby okL srb hlb HBx HSt HOe HOb HOb1 HOe1 HOe2 bWh BA Bwr HGx hwh heT B1r HBY
            have ECl2 := hide ECl
            clear ECl
            go_wp2_with fail
            refine ECl2.out.mono ?_
            rintro e E1 ⟨rfl, BE⟩
            clear ECl2
            have exx : ((eT : Int) != (eT : Int)) = false := by simp
            by_cases heN : eT = N
            · subst heN
              have eYY : ((eT : Int) == (eT : Int)) = true := by simp
              have eZZ : ((0 : Int) != 0) = false := by decide
              have eLL : ¬ (eT : Int) < (eT : Int) := by omega
              rw [if_pos rfl]
              go_wp2_with fail
              have bI := Boxed.new E1 3 (.int .i64 0)
              have B45 : Below E1.heap.size E1 (E1.alloc (.cells #[.int .i64 0] 3)) := (Below.refl _ _).alloc (Nat.le_refl _) _
              have z45 : (E1.alloc (.cells #[.int .i64 0] 3)).heap.size = E1.heap.size + 1 := by simp
              generalize E1.alloc (.cells #[.int .i64 0] 3) = E2 at bI B45 z45 ⊢
              refine (each_any ab eT cb xs E2 ((srN.below BE).below B45) hN7).mono ?_
              rintro e w7 ⟨aK, cK, B, rfl, HKp, hB, bB, B7⟩
              have B47 : Below E1.heap.size E1 w7 := B45.trans (B7.mono B45.size)
              have Br7 : Below wr.heap.size wr w7 := BE.trans (B47.mono BE.size)
              have L7 : Below w.heap.size w w7 := L3.trans (Br7.mono L3.size)
              have zE : wr.heap.size ≤ E1.heap.size := BE.size
              have z7 : E2.heap.size ≤ w7.heap.size := B7.size
              have zB : B < w7.heap.size := bB.lt
              have bst : BSt w (tornB w V.heap.size E1.heap.size B (.slice al nl cl) (.slice aK eT cK) (wh : Int) 0) [] w7 := BSt.mk5 ((Br7.block _ bL3.lt).trans bL3) ((Br7.block _ bR3.lt).trans bR3) ((Br7.block _ bW3.lt).trans bW3) ((B7.block _ bI.lt).trans bI) bB ⟨Nat.le_refl _, by omega, by omega, by omega, by omega⟩ L7
              have HKP := hide HKp
              clear bI B45 B7 B47 Br7 HKp bB bL3 bR3 bW3 L3 L7 srN BE
              have qn := fun (X : World) (B : Nat) => each_none X B
              go_wp2_with fail
              refine each_enter rfl ?_
              intro fn hfn
              generalize hrec : recOf fn _ _ _ _ _ = r
              have i8 := LSt.enter bst (r .ready none)
              have o8 := row_below HKP.out (((Below.refl _ w7).alloc (Nat.le_refl _) (.deferred (some []))).alloc (by simp) (.loop (r .ready none)))
              have z8 : ((w7.alloc (.deferred (some []))).alloc (.loop (r .ready none))).heap.size = w7.heap.size + 1 + 1 := by simp
              generalize (w7.alloc (.deferred (some []))).alloc (.loop (r .ready none)) = W8 at i8 o8 z8 ⊢
              refine (each1_J (w7.heap.size + 1) B aK eT cK xs hN8 (fun pre A => LSt w (tornB w V.heap.size E1.heap.size B (.slice al nl cl) (.slice aK eT cK) (wh : Int) (pre.length : Int)) [w7.heap.size] (w7.heap.size + 1) (r .ready none) A ∧ OwnB A E2.heap.size (.slice aK eT cK) xs) (fun _ _ => False) W8 ?_ ?_ ?_ ?_ ⟨i8, o8⟩).mono ?_
              · rintro pre A ⟨h, ho⟩
                exact ⟨HTw.out.below h.st.bel HT0.out, OwnB.toSrc ho HBX.out, h.st.get 4 rfl⟩
              · rintro pre A C ⟨h, ho⟩ hb
                rw [z8] at hb
                refine ⟨h.belowN hb ?_ (by intro D hD; simp at hD; omega) (by omega) (by omega), OwnB.below ho hb (fun k hk => by have := (OwnB.lt HKP.out k hk).2; omega)⟩
                intro x hx
                simp only [tornB, List.mem_cons, List.not_mem_nil, or_false] at hx
                rcases hx with rfl | rfl | rfl | rfl | rfl <;> (simp only; omega)
              · intro pre A C h
                exact h.elim
              · rintro pre x U v ⟨hJ, hoK⟩ hsz ho hlen hpfx
                rw [z8] at ho hsz ⊢
                have hl := hJ.loop
                obtain ⟨av, mv, cv, hv⟩ : ∃ av mv cv, v = .slice av mv cv := by
                  rcases ho.split with ⟨h, _⟩ | ⟨gq, cq, h, _⟩
                  · exact ⟨_, _, _, h⟩
                  · exact ⟨_, _, _, h⟩
                subst hv
                obtain ⟨kq, hkq⟩ : ∃ kq, pre.length = kq := ⟨_, rfl⟩
                have hat := pre_at hpfx
                rw [hkq] at hat hJ hlen
                have hkw : kq < wh := by rw [← HPL.out]; exact (List.getElem?_eq_some_iff.1 hat).1
                obtain ⟨hke, hLk⟩ := right_at HL.out (show kq < L.length by omega)
                obtain ⟨q, hq1, hq2, hq3⟩ := HT4.out kq _ hLk hkw
                have hqx : q = x.1 := by rw [hat] at hq1; cases hq1; rfl
                rw [hqx] at hq2 hq3
                rw [hq3] at ho
                rw [hq2]
                have hkn : kq < nl := by rw [← HLn.out]; exact hke
                have PL : Hid ((((pre ++ [x]).length : Nat) : Int) = (kq : Int) + 1) := by unfold Hid; simp [hkq]
                obtain ⟨ej, hej⟩ : ∃ ej, es.getD kq (0, []) = ej := ⟨_, rfl⟩
                have hbx : ∀ y ∈ ej.2, 0 ≤ y ∧ y < 256 := by
                  obtain ⟨_, _, _, hc⟩ := HE.out.hrd (by omega)
                  obtain ⟨_, _, _, _, _, h3⟩ := hc kq hkn
                  rw [hej] at h3
                  exact h3.hbyt
                rw [hej] at hq2 hq3 ho ⊢
                obtain ⟨tk, xk⟩ := ej
                simp only [rightS] at ho hbx ⊢
                have HEJ := hide hej
                obtain ⟨zs, hzs⟩ : ∃ zs, xk.take 65535 = zs := ⟨_, rfl⟩
                have HKZ : Hid (∀ y ∈ zs, 0 ≤ y ∧ y < 256) := fun y hy => by subst hzs; exact hbx y (List.mem_of_mem_take hy)
                rw [hzs] at ho
                have HZS := hide hzs
                rw [← hrec] at hl
                have hl1 : (U.alloc (.cells #[.int .i64 (tk % 256), .slice av mv cv] 30)).heap[w7.heap.size + 1]? = some (.loop (recOf fn _ _ _ _ _ .ready none)) := (Below.heap_alloc _ _ _ (by omega)).trans hl
                refine range_roundA (a₁ := ?B2ac) hfn hl rfl hl1 ?_ ?_
                rotate_left
                · intro KK hKK
                  gi_wp2
                  exact hKK
                · rw [hrec]
                  have HI := hide ((hJ.below ((Below.refl _ _).alloc (Nat.le_refl _) (.cells #[.int .i64 (tk % 256), .slice av mv cv] 30))).put (r .busy none))
                  have GG : GB (fun q => q = E1.heap.size ∨ q = w7.heap.size + 1) U ((U.alloc (.cells #[.int .i64 (tk % 256), .slice av mv cv] 30)).putObj (w7.heap.size + 1) (.loop (r .busy none))) := ((GB.refl _ _).belowA ((Below.refl _ _).alloc (Nat.le_refl _) _)).step (grownBy_putObj' _ _ _) (fun _ h => h) (fun q hq => by cases hq; exact .inr rfl)
                  have oX := hide (GG.rowNe ho (fun q hq hs => by have := (OwnB.lt ho q hq).1; omega))
                  have oK := hide (GG.rowNe hoK (fun q hq hs => by have h1 := OwnB.lt HKP.out q hq; omega))
                  have xb : ((U.alloc (.cells #[.int .i64 (tk % 256), .slice av mv cv] 30)).putObj (w7.heap.size + 1) (.loop (r .busy none))).heap[U.heap.size]? = some (.cells #[.int .i64 (tk % 256), .slice av mv cv] 30) := (World.putObj_heap_other (by omega)).trans (World.alloc_heap_new _ _)
                  have HG := hide GG
                  clear hl hl1 hJ hoK hsz ho hlen hpfx hat hq1 hq2 hq3 hbx hej hzs hrec i8 o8 GG hLk
                  generalize (U.alloc (.cells #[.int .i64 (tk % 256), .slice av mv cv] 30)).putObj (w7.heap.size + 1) (.loop (r .busy none)) = W11 at HI HG oX oK xb ⊢
                  obtain ⟨s0, s1⟩ := boxed2 xb
                  obtain ⟨bl, ol, hal, hcel⟩ := (HE.out.below HI.out.st.bel).hrd (by omega)
                  obtain ⟨a, m0, c, k1, k2, k3⟩ := hcel kq hkn
                  rw [HEJ.out] at k1 k3
                  simp only at k1 k3
                  subst hal
                  clear hcel
                  have hm0 := k3.hlen
                  have k4 : Src W11 a (min m0 65535) c zs := by
                    have h := k3.head (min m0 65535) (Nat.min_le_left _ _)
                    have e1 : xk.take (min m0 65535) = zs := by rw [← HZS.out]; exact take_min hm0
                    rwa [e1] at h
                  obtain ⟨mm, hmm⟩ : ∃ mm, min m0 65535 = mm := ⟨_, rfl⟩
                  rw [hmm] at k4
                  have HMM := hide hmm
                  clear hmm hm0
                  have i0 := (HI.out.st.get 3 rfl).cell
                  have i1 := (HI.out.st.get 2 rfl).cell
                  have i2 := (HI.out.st.get 0 rfl).cell
                  have iF := (HI.out.st.get 3 rfl).frozen
                  have hSt : TAt E1.heap.size V.heap.size U.heap.size w.heap.size bl (ol + kq * 2) (kq : Int) (wh : Int) (tk % 256) tk av mv cv nl cl a m0 c mm ol zs W11.drew := ⟨i0, i1, s0, s1, i2, k1, k2, (OwnB.toSrc oX.out HKZ.out).drewN 1, k4.drewN 1⟩
                  have K3 := hide k3
                  clear i0 i1 i2 s0 s1 k1 k2 k3 k4 xb
                  have mI : (kq : Int) < (nl : Int) := by omega
                  have mG : ¬ (wh : Int) ≤ (kq : Int) := by omega
                  have pxx : (tk % 256 != tk % 256) = false := by simp
                  have wP : IntKind.i64.wrap ((kq : Int) + 1) = (kq : Int) + 1 := i64_in _ (by omega)
                  gi_wp2
                  refine wpIn_region_heldR (TAt E1.heap.size V.heap.size U.heap.size w.heap.size bl (ol + kq * 2) (kq : Int) (wh : Int) (tk % 256) tk av mv cv nl cl a m0 c mm ol zs) (fun ⟨_, _, h⟩ => h) (by kernel_rfl) (by kernel_rfl) ?_
                  refine wpAnyH_take (i := 0) (v := ?_) rfl (by kernel_rfl) (by kernel_rfl) (by kernel_rfl) (fun _ _ _ h => h) (Or.inl ⟨by rfl, ?_⟩) (by assumption) ?_
                  rotate_left
                  · intro wq hSq
                    obtain ⟨r0, r1, r2, r3, r4, r5, r6, r7, r8⟩ := hSq
                    go_simp
                    try with_reducible rfl
                  simp only [List.getElem_toArray, List.getElem_cons_zero, Act.put, List.setIfInBounds_toArray, List.set_cons_zero, List.set_cons_succ]
                  refine wpAnyH_take (i := 1) (v := ?_) rfl (by kernel_rfl) (by kernel_rfl) (by kernel_rfl) (fun _ _ _ h => h) (Or.inl ⟨by rfl, ?_⟩) (by assumption) ?_
                  rotate_left
                  · intro wq hSq
                    obtain ⟨r0, r1, r2, r3, r4, r5, r6, r7, r8⟩ := hSq
                    go_simp
                    try with_reducible rfl
                  simp only [List.getElem_toArray, List.getElem_cons_succ, List.getElem_cons_zero, Act.put, List.setIfInBounds_toArray, List.set_cons_zero, List.set_cons_succ]
                  refine wpAnyH_take (i := 2) (v := .bool false) rfl (by kernel_rfl) (by kernel_rfl) (by kernel_rfl) (fun _ _ _ h => h) (Or.inl ⟨by rfl, ?_⟩) (by assumption) ?_
                  · intro wq hSq
                    obtain ⟨r0, r1, r2, r3, r4, r5, r6, r7, r8⟩ := hSq
                    go_simp
                  simp only [List.getElem_toArray, List.getElem_cons_succ, List.getElem_cons_zero, Act.put, List.setIfInBounds_toArray, List.set_cons_zero, List.set_cons_succ]
                  refine wpAnyH_take (i := 3) (v := ?_) rfl (by kernel_rfl) (by kernel_rfl) (by kernel_rfl) (fun _ _ _ h => h) (Or.inl ⟨by rfl, ?_⟩) (by assumption) ?_
                  rotate_left
                  · intro wq hSq
                    obtain ⟨r0, r1, r2, r3, r4, r5, r6, r7, r8⟩ := hSq
                    go_simp
                    try with_reducible rfl
                  simp only [List.getElem_toArray, List.getElem_cons_succ, List.getElem_cons_zero, Act.put, List.setIfInBounds_toArray, List.set_cons_zero, List.set_cons_succ]
                  refine wpAnyH_take (i := 4) (v := ?_) rfl (by kernel_rfl) (by kernel_rfl) (by kernel_rfl) (fun _ _ _ h => h) (Or.inl ⟨by rfl, ?_⟩) (by assumption) ?_
                  rotate_left
                  · intro wq hSq
                    obtain ⟨r0, r1, r2, r3, r4, r5, r6, r7, r8⟩ := hSq
                    go_simp
                    try with_reducible rfl
                  simp only [List.getElem_toArray, List.getElem_cons_succ, List.getElem_cons_zero, Act.put, List.setIfInBounds_toArray, List.set_cons_zero, List.set_cons_succ]
                  refine wpAnyH_take (i := 5) (v := ?_) rfl (by kernel_rfl) (by kernel_rfl) (by kernel_rfl) (fun _ _ _ h => h) (Or.inl ⟨by rfl, ?_⟩) (by assumption) ?_
                  rotate_left
                  · intro wq hSq
                    obtain ⟨r0, r1, r2, r3, r4, r5, r6, r7, r8⟩ := hSq
                    go_simp
                    try with_reducible rfl
                  simp only [List.getElem_toArray, List.getElem_cons_succ, List.getElem_cons_zero, Act.put, List.setIfInBounds_toArray, List.set_cons_zero, List.set_cons_succ]
                  refine wpAnyH_take (i := 6) (v := ?_) rfl (by kernel_rfl) (by kernel_rfl) (by kernel_rfl) (fun _ _ _ h => h) (Or.inl ⟨by rfl, ?_⟩) (by assumption) ?_
                  rotate_left
                  · intro wq hSq
                    obtain ⟨r0, r1, r2, r3, r4, r5, r6, r7, r8⟩ := hSq
                    go_simp
                    try with_reducible rfl
                  simp only [List.getElem_toArray, List.getElem_cons_succ, List.getElem_cons_zero, Act.put, List.setIfInBounds_toArray, List.set_cons_zero, List.set_cons_succ]
                  refine wpAnyH_take (i := 7) (v := ?_) rfl (by kernel_rfl) (by kernel_rfl) (by kernel_rfl) (fun _ _ _ h => h) (Or.inl ⟨by rfl, ?_⟩) (by assumption) ?_
                  rotate_left
                  · intro wq hSq
                    obtain ⟨r0, r1, r2, r3, r4, r5, r6, r7, r8⟩ := hSq
                    go_simp
                    try with_reducible rfl
                  simp only [List.getElem_toArray, List.getElem_cons_succ, List.getElem_cons_zero, Act.put, List.setIfInBounds_toArray, List.set_cons_zero, List.set_cons_succ]
                  refine wpAnyH_take (i := 8) (v := ?_) rfl (by kernel_rfl) (by kernel_rfl) (by kernel_rfl) (fun _ _ _ h => h) (Or.inl ⟨by rfl, ?_⟩) (by assumption) ?_
                  rotate_left
                  · intro wq hSq
                    obtain ⟨r0, r1, r2, r3, r4, r5, r6, r7, r8⟩ := hSq
                    go_simp
                    try with_reducible rfl
                  simp only [List.getElem_toArray, List.getElem_cons_succ, List.getElem_cons_zero, Act.put, List.setIfInBounds_toArray, List.set_cons_zero, List.set_cons_succ]
                  refine wpAnyH_take (i := 9) (v := ?_) rfl (by kernel_rfl) (by kernel_rfl) (by kernel_rfl) (fun _ _ _ h => h) (Or.inl ⟨by rfl, ?_⟩) (by assumption) ?_
                  rotate_left
                  · intro wq hSq
                    obtain ⟨r0, r1, r2, r3, r4, r5, r6, r7, r8⟩ := hSq
                    go_simp
                    try with_reducible rfl
                  simp only [List.getElem_toArray, List.getElem_cons_succ, List.getElem_cons_zero, Act.put, List.setIfInBounds_toArray, List.set_cons_zero, List.set_cons_succ]
                  refine wpAnyH_ready (rs := [10]) (by kernel_rfl) (by simp) ?_
                  refine AllReadyH.cons rfl (fun Kq hKq => ?_) AllReadyH.nil
                  go_simp
                  refine (right_any tk a m0 c xk _ (K3.out.drewN 1)).mono ?_
                  rintro e w9 ⟨m9, rfl, hm9, _, B9⟩
                  rw [HMM.out] at hm9
                  subst hm9
                  have hS9 := hSt.below B9
                  have B9' : Below W11.heap.size W11 w9 := ⟨B9.os, B9.tape, B9.output, B9.size, B9.block⟩
                  refine hKq.out _ _ hS9 (fun hHeld => ?_)
                  clear hKq Kq hSt hHeld
                  refine wpAnyH_take (i := 11) (v := ?_) rfl (by kernel_rfl) (by kernel_rfl) (by kernel_rfl) (fun _ _ _ h => h) (Or.inl ⟨by rfl, ?_⟩) (by assumption) ?_
                  rotate_left
                  · intro wq hSq
                    obtain ⟨r0, r1, r2, r3, r4, r5, r6, r7, r8⟩ := hSq
                    go_simp
                    try with_reducible rfl
                  simp only [List.getElem_toArray, List.getElem_cons_succ, List.getElem_cons_zero, Act.put, List.setIfInBounds_toArray, List.set_cons_zero, List.set_cons_succ]
                  refine wpAnyH_take (i := 12) (v := .bool false) rfl (by kernel_rfl) (by kernel_rfl) (by kernel_rfl) (fun _ _ _ h => h) (Or.inl ⟨by rfl, ?_⟩) (by assumption) ?_
                  · intro wq hSq
                    obtain ⟨r0, r1, r2, r3, r4, r5, r6, r7, r8⟩ := hSq
                    go_simp
                  simp only [List.getElem_toArray, List.getElem_cons_succ, List.getElem_cons_zero, Act.put, List.setIfInBounds_toArray, List.set_cons_zero, List.set_cons_succ]
                  refine wpAnyH_take (i := 13) (v := ?_) rfl (by kernel_rfl) (by kernel_rfl) (by kernel_rfl) (fun _ _ _ h => h) (Or.inl ⟨by rfl, ?_⟩) (by assumption) ?_
                  rotate_left
                  · intro wq hSq
                    obtain ⟨r0, r1, r2, r3, r4, r5, r6, r7, r8⟩ := hSq
                    go_simp
                    try with_reducible rfl
                  simp only [List.getElem_toArray, List.getElem_cons_succ, List.getElem_cons_zero, Act.put, List.setIfInBounds_toArray, List.set_cons_zero, List.set_cons_succ]
                  refine wpAnyH_take (i := 14) (v := ?_) rfl (by kernel_rfl) (by kernel_rfl) (by kernel_rfl) (fun _ _ _ h => h) (Or.inl ⟨by rfl, ?_⟩) (by assumption) ?_
                  rotate_left
                  · intro wq hSq
                    obtain ⟨r0, r1, r2, r3, r4, r5, r6, r7, r8⟩ := hSq
                    go_simp
                    try with_reducible rfl
                  simp only [List.getElem_toArray, List.getElem_cons_succ, List.getElem_cons_zero, Act.put, List.setIfInBounds_toArray, List.set_cons_zero, List.set_cons_succ]
                  refine wpAnyH_take (i := 15) (v := ?_) rfl (by kernel_rfl) (by kernel_rfl) (by kernel_rfl) (fun _ _ _ h => h) (Or.inl ⟨by rfl, ?_⟩) (by assumption) ?_
                  rotate_left
                  · intro wq hSq
                    obtain ⟨r0, r1, r2, r3, r4, r5, r6, r7, r8⟩ := hSq
                    go_simp
                    try with_reducible rfl
                  simp only [List.getElem_toArray, List.getElem_cons_succ, List.getElem_cons_zero, Act.put, List.setIfInBounds_toArray, List.set_cons_zero, List.set_cons_succ]
                  refine wpAnyH_take (i := 16) (v := ?_) rfl (by kernel_rfl) (by kernel_rfl) (by kernel_rfl) (fun _ _ _ h => h) (Or.inl ⟨by rfl, ?_⟩) (by assumption) ?_
                  rotate_left
                  · intro wq hSq
                    obtain ⟨r0, r1, r2, r3, r4, r5, r6, r7, r8⟩ := hSq
                    go_simp
                    try with_reducible rfl
                  simp only [List.getElem_toArray, List.getElem_cons_succ, List.getElem_cons_zero, Act.put, List.setIfInBounds_toArray, List.set_cons_zero, List.set_cons_succ]
                  refine wpAnyH_take (i := 17) (v := .string (strOfNums zs)) rfl (by kernel_rfl) (by kernel_rfl) (by kernel_rfl) (fun _ _ _ h => h) (Or.inl ⟨by rfl, ?_⟩) (by assumption) ?_
                  · intro wq hSq
                    obtain ⟨r0, r1, r2, r3, r4, r5, r6, r7, r8⟩ := hSq
                    have rt := r7.text
                    go_simp
                  simp only [List.getElem_toArray, List.getElem_cons_succ, List.getElem_cons_zero, Act.put, List.setIfInBounds_toArray, List.set_cons_zero, List.set_cons_succ]
                  refine wpAnyH_take (i := 18) (v := ?_) rfl (by kernel_rfl) (by kernel_rfl) (by kernel_rfl) (fun _ _ _ h => h) (Or.inl ⟨by rfl, ?_⟩) (by assumption) ?_
                  rotate_left
                  · intro wq hSq
                    obtain ⟨r0, r1, r2, r3, r4, r5, r6, r7, r8⟩ := hSq
                    go_simp
                    try with_reducible rfl
                  simp only [List.getElem_toArray, List.getElem_cons_succ, List.getElem_cons_zero, Act.put, List.setIfInBounds_toArray, List.set_cons_zero, List.set_cons_succ]
                  refine wpAnyH_take (i := 19) (v := ?_) rfl (by kernel_rfl) (by kernel_rfl) (by kernel_rfl) (fun _ _ _ h => h) (Or.inl ⟨by rfl, ?_⟩) (by assumption) ?_
                  rotate_left
                  · intro wq hSq
                    obtain ⟨r0, r1, r2, r3, r4, r5, r6, r7, r8⟩ := hSq
                    go_simp
                    try with_reducible rfl
                  simp only [List.getElem_toArray, List.getElem_cons_succ, List.getElem_cons_zero, Act.put, List.setIfInBounds_toArray, List.set_cons_zero, List.set_cons_succ]
                  refine wpAnyH_take (i := 20) (v := ?_) rfl (by kernel_rfl) (by kernel_rfl) (by kernel_rfl) (fun _ _ _ h => h) (Or.inl ⟨by rfl, ?_⟩) (by assumption) ?_
                  rotate_left
                  · intro wq hSq
                    obtain ⟨r0, r1, r2, r3, r4, r5, r6, r7, r8⟩ := hSq
                    go_simp
                    try with_reducible rfl
                  simp only [List.getElem_toArray, List.getElem_cons_succ, List.getElem_cons_zero, Act.put, List.setIfInBounds_toArray, List.set_cons_zero, List.set_cons_succ]
                  refine wpAnyH_take (i := 21) (v := ?_) rfl (by kernel_rfl) (by kernel_rfl) (by kernel_rfl) (fun _ _ _ h => h) (Or.inl ⟨by rfl, ?_⟩) (by assumption) ?_
                  rotate_left
                  · intro wq hSq
                    obtain ⟨r0, r1, r2, r3, r4, r5, r6, r7, r8⟩ := hSq
                    go_simp
                    try with_reducible rfl
                  simp only [List.getElem_toArray, List.getElem_cons_succ, List.getElem_cons_zero, Act.put, List.setIfInBounds_toArray, List.set_cons_zero, List.set_cons_succ]
                  refine wpAnyH_ready (rs := [22]) (by kernel_rfl) (by simp) ?_
                  refine AllReadyH.cons rfl (fun Kq hKq => ?_) AllReadyH.nil
                  go_simp
                  refine (right_any tk a m0 c xk _ (K3.out.below B9')).mono ?_
                  rintro e w10 ⟨m10, rfl, hm10, _, B10⟩
                  rw [HMM.out] at hm10
                  subst hm10
                  have hS10 := hS9.below B10
                  refine hKq.out _ _ hS10 (fun hHeld => ?_)
                  clear hKq Kq hS9 hHeld
                  refine wpAnyH_take (i := 23) (v := ?_) rfl (by kernel_rfl) (by kernel_rfl) (by kernel_rfl) (fun _ _ _ h => h) (Or.inl ⟨by rfl, ?_⟩) (by assumption) ?_
                  rotate_left
                  · intro wq hSq
                    obtain ⟨r0, r1, r2, r3, r4, r5, r6, r7, r8⟩ := hSq
                    go_simp
                    try with_reducible rfl
                  simp only [List.getElem_toArray, List.getElem_cons_succ, List.getElem_cons_zero, Act.put, List.setIfInBounds_toArray, List.set_cons_zero, List.set_cons_succ]
                  refine wpAnyH_take (i := 24) (v := .string (strOfNums zs)) rfl (by kernel_rfl) (by kernel_rfl) (by kernel_rfl) (fun _ _ _ h => h) (Or.inl ⟨by rfl, ?_⟩) (by assumption) ?_
                  · intro wq hSq
                    obtain ⟨r0, r1, r2, r3, r4, r5, r6, r7, r8⟩ := hSq
                    have rt := r8.text
                    go_simp
                  simp only [List.getElem_toArray, List.getElem_cons_succ, List.getElem_cons_zero, Act.put, List.setIfInBounds_toArray, List.set_cons_zero, List.set_cons_succ]
                  refine wpAnyH_take (i := 25) (v := .bool false) rfl (by kernel_rfl) (by kernel_rfl) (by kernel_rfl) (fun _ _ _ h => h) (Or.inl ⟨by rfl, ?_⟩) (by assumption) ?_
                  · intro wq hSq
                    obtain ⟨r0, r1, r2, r3, r4, r5, r6, r7, r8⟩ := hSq
                    go_simp
                  simp only [List.getElem_toArray, List.getElem_cons_succ, List.getElem_cons_zero, Act.put, List.setIfInBounds_toArray, List.set_cons_zero, List.set_cons_succ]
                  refine wpAnyH_take (i := 26) (v := ?_) rfl (by kernel_rfl) (by kernel_rfl) (by kernel_rfl) (fun _ _ _ h => h) (Or.inl ⟨by rfl, ?_⟩) (by assumption) ?_
                  rotate_left
                  · intro wq hSq
                    obtain ⟨r0, r1, r2, r3, r4, r5, r6, r7, r8⟩ := hSq
                    go_simp
                    try with_reducible rfl
                  simp only [List.getElem_toArray, List.getElem_cons_succ, List.getElem_cons_zero, Act.put, List.setIfInBounds_toArray, List.set_cons_zero, List.set_cons_succ]
                  refine wpAnyH_done (by kernel_rfl) ?_ _
                  have B11 : Below W11.heap.size W11 w10 := B9'.trans (B10.mono B9'.size)
                  have HI2 := hide (HI.out.below B11)
                  have HG2 := hide (HG.out.belowA B11)
                  have oK2 := hide (row_below oK.out B11)
                  clear HI HG oK oX B9 B9' B10 B11 hS10 iF K3
                  have i0 := (HI2.out.st.get 3 rfl).cell
                  have iF := (HI2.out.st.get 3 rfl).frozen
                  gi_wp2
                  have z := HI2.out.set 3 rfl (.int .i64 ((kq : Int) + 1))
                  have g3 := HG2.out.step (grownBy_setCell' w10 E1.heap.size (.int .i64 ((kq : Int) + 1))) (fun _ h => h) (fun q hq => by cases hq; exact .inl rfl)
                  have g4 := g3.step (grownBy_putObj' _ (w7.heap.size + 1) (.loop (r .ready none))) (fun _ h => h) (fun q hq => by cases hq; exact .inr rfl)
                  refine ⟨z.loop, .inl ⟨rfl, ⟨by rw [PL.out]; exact z.put _, ?_⟩, ⟨g4.size, fun k h1 h2 _ => g4.same k h2 (fun hs => by omega)⟩⟩⟩
                  have G5 : GB (fun q => q = E1.heap.size ∨ q = w7.heap.size + 1) w10 _ := (((GB.refl (fun q => q = E1.heap.size ∨ q = w7.heap.size + 1) w10).step (grownBy_setCell' w10 E1.heap.size (.int .i64 ((kq : Int) + 1))) (fun _ h => h) (fun q hq => by cases hq; exact .inl rfl)).step (grownBy_putObj' _ (w7.heap.size + 1) (.loop (r .ready none))) (fun _ h => h) (fun q hq => by cases hq; exact .inr rfl))
                  exact G5.rowNe oK2.out (fun q hq hs => by have h1 := OwnB.lt HKP.out q hq; omega)
              · rintro e W' ⟨⟨v, rfl⟩, ⟨ys, hys, hI, _⟩ | ⟨pre, _, hI⟩⟩
                · have hl := hI.loop
                  rw [← hrec] at hl
                  refine range_done hl ?_
                  rw [hrec]
                  have h2 := hide (hI.put (r .exhausted none)).st
                  have yl : ys.length = wh := by rw [← HPL.out, ← hys, List.length_map]
                  rw [yl] at h2
                  clear hl hI hrec i8 o8
                  generalize W'.putObj (w7.heap.size + 1) (.loop (r .exhausted none)) = V9 at h2 ⊢
                  have cI := (h2.out.get 3 rfl).cell
                  have cW := (h2.out.get 2 rfl).cell
                  have cR := (h2.out.get 1 rfl).cell
                  have fR := (h2.out.get 1 rfl).frozen
                  have kk : ((wh : Int) == (wh : Int)) = true := by simp
                  go_wp2_with fail
                  show LeavesInM _ _ _ _ _ _ _ _ _
                  exact torn_leave w _ _ w7.heap.size _ (h2.out.set 1 rfl _) (w.heap.size + 1) rfl rfl
                · exact hI.elim
            · have eNN : ((eT : Int) == (N : Int)) = false := by simpa using (show ¬ (eT : Int) = (N : Int) by omega)
              have eLL : (eT : Int) < (N : Int) := by omega
              have e99 : ((90 : Int) != 90) = false := by decide
              rw [if_neg heN]
              go_wp2_with fail
              have bI := Boxed.new E1 3 (.int .i64 0)
              have B45 : Below E1.heap.size E1 (E1.alloc (.cells #[.int .i64 0] 3)) := (Below.refl _ _).alloc (Nat.le_refl _) _
              have z45 : (E1.alloc (.cells #[.int .i64 0] 3)).heap.size = E1.heap.size + 1 := by simp
              generalize E1.alloc (.cells #[.int .i64 0] 3) = E2 at bI B45 z45 ⊢
              refine (each_any ab N cb xs E2 ((srN.below BE).below B45) hN7).mono ?_
              rintro e w7 ⟨aK, cK, B, rfl, HKp, hB, bB, B7⟩
              have B47 : Below E1.heap.size E1 w7 := B45.trans (B7.mono B45.size)
              have Br7 : Below wr.heap.size wr w7 := BE.trans (B47.mono BE.size)
              have L7 : Below w.heap.size w w7 := L3.trans (Br7.mono L3.size)
              have zE : wr.heap.size ≤ E1.heap.size := BE.size
              have z7 : E2.heap.size ≤ w7.heap.size := B7.size
              have zB : B < w7.heap.size := bB.lt
              have bst : BSt w (tornB w V.heap.size E1.heap.size B (.slice al nl cl) (.slice aK N cK) (wh : Int) 0) [] w7 := BSt.mk5 ((Br7.block _ bL3.lt).trans bL3) ((Br7.block _ bR3.lt).trans bR3) ((Br7.block _ bW3.lt).trans bW3) ((B7.block _ bI.lt).trans bI) bB ⟨Nat.le_refl _, by omega, by omega, by omega, by omega⟩ L7
              have HKP := hide HKp
              clear bI B45 B7 B47 Br7 HKp bB bL3 bR3 bW3 L3 L7 srN BE
              have qn := fun (X : World) (B : Nat) => each_none X B
              go_wp2_with fail
              refine each_enter rfl ?_
              intro fn hfn
              generalize hrec : recOf fn _ _ _ _ _ = r
              have i8 := LSt.enter bst (r .ready none)
              have o8 := row_below HKP.out (((Below.refl _ w7).alloc (Nat.le_refl _) (.deferred (some []))).alloc (by simp) (.loop (r .ready none)))
              have z8 : ((w7.alloc (.deferred (some []))).alloc (.loop (r .ready none))).heap.size = w7.heap.size + 1 + 1 := by simp
              generalize (w7.alloc (.deferred (some []))).alloc (.loop (r .ready none)) = W8 at i8 o8 z8 ⊢
              refine (each1_J (w7.heap.size + 1) B aK N cK xs hN8 (fun pre A => LSt w (tornB w V.heap.size E1.heap.size B (.slice al nl cl) (.slice aK N cK) (wh : Int) (pre.length : Int)) [w7.heap.size] (w7.heap.size + 1) (r .ready none) A ∧ OwnB A E2.heap.size (.slice aK N cK) xs) (fun _ _ => False) W8 ?_ ?_ ?_ ?_ ⟨i8, o8⟩).mono ?_
              · rintro pre A ⟨h, ho⟩
                exact ⟨HTw.out.below h.st.bel HT0.out, OwnB.toSrc ho HBX.out, h.st.get 4 rfl⟩
              · rintro pre A C ⟨h, ho⟩ hb
                rw [z8] at hb
                refine ⟨h.belowN hb ?_ (by intro D hD; simp at hD; omega) (by omega) (by omega), OwnB.below ho hb (fun k hk => by have := (OwnB.lt HKP.out k hk).2; omega)⟩
                intro x hx
                simp only [tornB, List.mem_cons, List.not_mem_nil, or_false] at hx
                rcases hx with rfl | rfl | rfl | rfl | rfl <;> (simp only; omega)
              · intro pre A C h
                exact h.elim
              · rintro pre x U v ⟨hJ, hoK⟩ hsz ho hlen hpfx
                rw [z8] at ho hsz ⊢
                have hl := hJ.loop
                obtain ⟨av, mv, cv, hv⟩ : ∃ av mv cv, v = .slice av mv cv := by
                  rcases ho.split with ⟨h, _⟩ | ⟨gq, cq, h, _⟩
                  · exact ⟨_, _, _, h⟩
                  · exact ⟨_, _, _, h⟩
                subst hv
                obtain ⟨kq, hkq⟩ : ∃ kq, pre.length = kq := ⟨_, rfl⟩
                have hat := pre_at hpfx
                rw [hkq] at hat hJ hlen
                have hkw : kq < wh := by rw [← HPL.out]; exact (List.getElem?_eq_some_iff.1 hat).1
                obtain ⟨hke, hLk⟩ := right_at HL.out (show kq < L.length by omega)
                obtain ⟨q, hq1, hq2, hq3⟩ := HT4.out kq _ hLk hkw
                have hqx : q = x.1 := by rw [hat] at hq1; cases hq1; rfl
                rw [hqx] at hq2 hq3
                rw [hq3] at ho
                rw [hq2]
                have hkn : kq < nl := by rw [← HLn.out]; exact hke
                have PL : Hid ((((pre ++ [x]).length : Nat) : Int) = (kq : Int) + 1) := by unfold Hid; simp [hkq]
                obtain ⟨ej, hej⟩ : ∃ ej, es.getD kq (0, []) = ej := ⟨_, rfl⟩
                have hbx : ∀ y ∈ ej.2, 0 ≤ y ∧ y < 256 := by
                  obtain ⟨_, _, _, hc⟩ := HE.out.hrd (by omega)
                  obtain ⟨_, _, _, _, _, h3⟩ := hc kq hkn
                  rw [hej] at h3
                  exact h3.hbyt
                rw [hej] at hq2 hq3 ho ⊢
                obtain ⟨tk, xk⟩ := ej
                simp only [rightS] at ho hbx ⊢
                have HEJ := hide hej
                obtain ⟨zs, hzs⟩ : ∃ zs, xk.take 65535 = zs := ⟨_, rfl⟩
                have HKZ : Hid (∀ y ∈ zs, 0 ≤ y ∧ y < 256) := fun y hy => by subst hzs; exact hbx y (List.mem_of_mem_take hy)
                rw [hzs] at ho
                have HZS := hide hzs
                rw [← hrec] at hl
                have hl1 : (U.alloc (.cells #[.int .i64 (tk % 256), .slice av mv cv] 30)).heap[w7.heap.size + 1]? = some (.loop (recOf fn _ _ _ _ _ .ready none)) := (Below.heap_alloc _ _ _ (by omega)).trans hl
                refine range_roundA (a₁ := ?B2ad) hfn hl rfl hl1 ?_ ?_
                rotate_left
                · intro KK hKK
                  gi_wp2
                  exact hKK
                · rw [hrec]
                  have HI := hide ((hJ.below ((Below.refl _ _).alloc (Nat.le_refl _) (.cells #[.int .i64 (tk % 256), .slice av mv cv] 30))).put (r .busy none))
                  have GG : GB (fun q => q = E1.heap.size ∨ q = w7.heap.size + 1) U ((U.alloc (.cells #[.int .i64 (tk % 256), .slice av mv cv] 30)).putObj (w7.heap.size + 1) (.loop (r .busy none))) := ((GB.refl _ _).belowA ((Below.refl _ _).alloc (Nat.le_refl _) _)).step (grownBy_putObj' _ _ _) (fun _ h => h) (fun q hq => by cases hq; exact .inr rfl)
                  have oX := hide (GG.rowNe ho (fun q hq hs => by have := (OwnB.lt ho q hq).1; omega))
                  have oK := hide (GG.rowNe hoK (fun q hq hs => by have h1 := OwnB.lt HKP.out q hq; omega))
                  have xb : ((U.alloc (.cells #[.int .i64 (tk % 256), .slice av mv cv] 30)).putObj (w7.heap.size + 1) (.loop (r .busy none))).heap[U.heap.size]? = some (.cells #[.int .i64 (tk % 256), .slice av mv cv] 30) := (World.putObj_heap_other (by omega)).trans (World.alloc_heap_new _ _)
                  have HG := hide GG
                  clear hl hl1 hJ hoK hsz ho hlen hpfx hat hq1 hq2 hq3 hbx hej hzs hrec i8 o8 GG hLk
                  generalize (U.alloc (.cells #[.int .i64 (tk % 256), .slice av mv cv] 30)).putObj (w7.heap.size + 1) (.loop (r .busy none)) = W11 at HI HG oX oK xb ⊢
                  obtain ⟨s0, s1⟩ := boxed2 xb
                  obtain ⟨bl, ol, hal, hcel⟩ := (HE.out.below HI.out.st.bel).hrd (by omega)
                  obtain ⟨a, m0, c, k1, k2, k3⟩ := hcel kq hkn
                  rw [HEJ.out] at k1 k3
                  simp only at k1 k3
                  subst hal
                  clear hcel
                  have hm0 := k3.hlen
                  have k4 : Src W11 a (min m0 65535) c zs := by
                    have h := k3.head (min m0 65535) (Nat.min_le_left _ _)
                    have e1 : xk.take (min m0 65535) = zs := by rw [← HZS.out]; exact take_min hm0
                    rwa [e1] at h
                  obtain ⟨mm, hmm⟩ : ∃ mm, min m0 65535 = mm := ⟨_, rfl⟩
                  rw [hmm] at k4
                  have HMM := hide hmm
                  clear hmm hm0
                  have i0 := (HI.out.st.get 3 rfl).cell
                  have i1 := (HI.out.st.get 2 rfl).cell
                  have i2 := (HI.out.st.get 0 rfl).cell
                  have iF := (HI.out.st.get 3 rfl).frozen
                  have hSt : TAt E1.heap.size V.heap.size U.heap.size w.heap.size bl (ol + kq * 2) (kq : Int) (wh : Int) (tk % 256) tk av mv cv nl cl a m0 c mm ol zs W11.drew := ⟨i0, i1, s0, s1, i2, k1, k2, (OwnB.toSrc oX.out HKZ.out).drewN 1, k4.drewN 1⟩
                  have K3 := hide k3
                  clear i0 i1 i2 s0 s1 k1 k2 k3 k4 xb
                  have mI : (kq : Int) < (nl : Int) := by omega
                  have mG : ¬ (wh : Int) ≤ (kq : Int) := by omega
                  have pxx : (tk % 256 != tk % 256) = false := by simp
                  have wP : IntKind.i64.wrap ((kq : Int) + 1) = (kq : Int) + 1 := i64_in _ (by omega)
                  gi_wp2
                  refine wpIn_region_heldR (TAt E1.heap.size V.heap.size U.heap.size w.heap.size bl (ol + kq * 2) (kq : Int) (wh : Int) (tk % 256) tk av mv cv nl cl a m0 c mm ol zs) (fun ⟨_, _, h⟩ => h) (by kernel_rfl) (by kernel_rfl) ?_
                  refine wpAnyH_take (i := 0) (v := ?_) rfl (by kernel_rfl) (by kernel_rfl) (by kernel_rfl) (fun _ _ _ h => h) (Or.inl ⟨by rfl, ?_⟩) (by assumption) ?_
                  rotate_left
                  · intro wq hSq
                    obtain ⟨r0, r1, r2, r3, r4, r5, r6, r7, r8⟩ := hSq
                    go_simp
                    try with_reducible rfl
                  simp only [List.getElem_toArray, List.getElem_cons_zero, Act.put, List.setIfInBounds_toArray, List.set_cons_zero, List.set_cons_succ]
                  refine wpAnyH_take (i := 1) (v := ?_) rfl (by kernel_rfl) (by kernel_rfl) (by kernel_rfl) (fun _ _ _ h => h) (Or.inl ⟨by rfl, ?_⟩) (by assumption) ?_
                  rotate_left
                  · intro wq hSq
                    obtain ⟨r0, r1, r2, r3, r4, r5, r6, r7, r8⟩ := hSq
                    go_simp
                    try with_reducible rfl
                  simp only [List.getElem_toArray, List.getElem_cons_succ, List.getElem_cons_zero, Act.put, List.setIfInBounds_toArray, List.set_cons_zero, List.set_cons_succ]
                  refine wpAnyH_take (i := 2) (v := .bool false) rfl (by kernel_rfl) (by kernel_rfl) (by kernel_rfl) (fun _ _ _ h => h) (Or.inl ⟨by rfl, ?_⟩) (by assumption) ?_
                  · intro wq hSq
                    obtain ⟨r0, r1, r2, r3, r4, r5, r6, r7, r8⟩ := hSq
                    go_simp
                  simp only [List.getElem_toArray, List.getElem_cons_succ, List.getElem_cons_zero, Act.put, List.setIfInBounds_toArray, List.set_cons_zero, List.set_cons_succ]
                  refine wpAnyH_take (i := 3) (v := ?_) rfl (by kernel_rfl) (by kernel_rfl) (by kernel_rfl) (fun _ _ _ h => h) (Or.inl ⟨by rfl, ?_⟩) (by assumption) ?_
                  rotate_left
                  · intro wq hSq
                    obtain ⟨r0, r1, r2, r3, r4, r5, r6, r7, r8⟩ := hSq
                    go_simp
                    try with_reducible rfl
                  simp only [List.getElem_toArray, List.getElem_cons_succ, List.getElem_cons_zero, Act.put, List.setIfInBounds_toArray, List.set_cons_zero, List.set_cons_succ]
                  refine wpAnyH_take (i := 4) (v := ?_) rfl (by kernel_rfl) (by kernel_rfl) (by kernel_rfl) (fun _ _ _ h => h) (Or.inl ⟨by rfl, ?_⟩) (by assumption) ?_
                  rotate_left
                  · intro wq hSq
                    obtain ⟨r0, r1, r2, r3, r4, r5, r6, r7, r8⟩ := hSq
                    go_simp
                    try with_reducible rfl
                  simp only [List.getElem_toArray, List.getElem_cons_succ, List.getElem_cons_zero, Act.put, List.setIfInBounds_toArray, List.set_cons_zero, List.set_cons_succ]
                  refine wpAnyH_take (i := 5) (v := ?_) rfl (by kernel_rfl) (by kernel_rfl) (by kernel_rfl) (fun _ _ _ h => h) (Or.inl ⟨by rfl, ?_⟩) (by assumption) ?_
                  rotate_left
                  · intro wq hSq
                    obtain ⟨r0, r1, r2, r3, r4, r5, r6, r7, r8⟩ := hSq
                    go_simp
                    try with_reducible rfl
                  simp only [List.getElem_toArray, List.getElem_cons_succ, List.getElem_cons_zero, Act.put, List.setIfInBounds_toArray, List.set_cons_zero, List.set_cons_succ]
                  refine wpAnyH_take (i := 6) (v := ?_) rfl (by kernel_rfl) (by kernel_rfl) (by kernel_rfl) (fun _ _ _ h => h) (Or.inl ⟨by rfl, ?_⟩) (by assumption) ?_
                  rotate_left
                  · intro wq hSq
                    obtain ⟨r0, r1, r2, r3, r4, r5, r6, r7, r8⟩ := hSq
                    go_simp
                    try with_reducible rfl
                  simp only [List.getElem_toArray, List.getElem_cons_succ, List.getElem_cons_zero, Act.put, List.setIfInBounds_toArray, List.set_cons_zero, List.set_cons_succ]
                  refine wpAnyH_take (i := 7) (v := ?_) rfl (by kernel_rfl) (by kernel_rfl) (by kernel_rfl) (fun _ _ _ h => h) (Or.inl ⟨by rfl, ?_⟩) (by assumption) ?_
                  rotate_left
                  · intro wq hSq
                    obtain ⟨r0, r1, r2, r3, r4, r5, r6, r7, r8⟩ := hSq
                    go_simp
                    try with_reducible rfl
                  simp only [List.getElem_toArray, List.getElem_cons_succ, List.getElem_cons_zero, Act.put, List.setIfInBounds_toArray, List.set_cons_zero, List.set_cons_succ]
                  refine wpAnyH_take (i := 8) (v := ?_) rfl (by kernel_rfl) (by kernel_rfl) (by kernel_rfl) (fun _ _ _ h => h) (Or.inl ⟨by rfl, ?_⟩) (by assumption) ?_
                  rotate_left
                  · intro wq hSq
                    obtain ⟨r0, r1, r2, r3, r4, r5, r6, r7, r8⟩ := hSq
                    go_simp
                    try with_reducible rfl
                  simp only [List.getElem_toArray, List.getElem_cons_succ, List.getElem_cons_zero, Act.put, List.setIfInBounds_toArray, List.set_cons_zero, List.set_cons_succ]
                  refine wpAnyH_take (i := 9) (v := ?_) rfl (by kernel_rfl) (by kernel_rfl) (by kernel_rfl) (fun _ _ _ h => h) (Or.inl ⟨by rfl, ?_⟩) (by assumption) ?_
                  rotate_left
                  · intro wq hSq
                    obtain ⟨r0, r1, r2, r3, r4, r5, r6, r7, r8⟩ := hSq
                    go_simp
                    try with_reducible rfl
                  simp only [List.getElem_toArray, List.getElem_cons_succ, List.getElem_cons_zero, Act.put, List.setIfInBounds_toArray, List.set_cons_zero, List.set_cons_succ]
                  refine wpAnyH_ready (rs := [10]) (by kernel_rfl) (by simp) ?_
                  refine AllReadyH.cons rfl (fun Kq hKq => ?_) AllReadyH.nil
                  go_simp
                  refine (right_any tk a m0 c xk _ (K3.out.drewN 1)).mono ?_
                  rintro e w9 ⟨m9, rfl, hm9, _, B9⟩
                  rw [HMM.out] at hm9
                  subst hm9
                  have hS9 := hSt.below B9
                  have B9' : Below W11.heap.size W11 w9 := ⟨B9.os, B9.tape, B9.output, B9.size, B9.block⟩
                  refine hKq.out _ _ hS9 (fun hHeld => ?_)
                  clear hKq Kq hSt hHeld
                  refine wpAnyH_take (i := 11) (v := ?_) rfl (by kernel_rfl) (by kernel_rfl) (by kernel_rfl) (fun _ _ _ h => h) (Or.inl ⟨by rfl, ?_⟩) (by assumption) ?_
                  rotate_left
                  · intro wq hSq
                    obtain ⟨r0, r1, r2, r3, r4, r5, r6, r7, r8⟩ := hSq
                    go_simp
                    try with_reducible rfl
                  simp only [List.getElem_toArray, List.getElem_cons_succ, List.getElem_cons_zero, Act.put, List.setIfInBounds_toArray, List.set_cons_zero, List.set_cons_succ]
                  refine wpAnyH_take (i := 12) (v := .bool false) rfl (by kernel_rfl) (by kernel_rfl) (by kernel_rfl) (fun _ _ _ h => h) (Or.inl ⟨by rfl, ?_⟩) (by assumption) ?_
                  · intro wq hSq
                    obtain ⟨r0, r1, r2, r3, r4, r5, r6, r7, r8⟩ := hSq
                    go_simp
                  simp only [List.getElem_toArray, List.getElem_cons_succ, List.getElem_cons_zero, Act.put, List.setIfInBounds_toArray, List.set_cons_zero, List.set_cons_succ]
                  refine wpAnyH_take (i := 13) (v := ?_) rfl (by kernel_rfl) (by kernel_rfl) (by kernel_rfl) (fun _ _ _ h => h) (Or.inl ⟨by rfl, ?_⟩) (by assumption) ?_
                  rotate_left
                  · intro wq hSq
                    obtain ⟨r0, r1, r2, r3, r4, r5, r6, r7, r8⟩ := hSq
                    go_simp
                    try with_reducible rfl
                  simp only [List.getElem_toArray, List.getElem_cons_succ, List.getElem_cons_zero, Act.put, List.setIfInBounds_toArray, List.set_cons_zero, List.set_cons_succ]
                  refine wpAnyH_take (i := 14) (v := ?_) rfl (by kernel_rfl) (by kernel_rfl) (by kernel_rfl) (fun _ _ _ h => h) (Or.inl ⟨by rfl, ?_⟩) (by assumption) ?_
                  rotate_left
                  · intro wq hSq
                    obtain ⟨r0, r1, r2, r3, r4, r5, r6, r7, r8⟩ := hSq
                    go_simp
                    try with_reducible rfl
                  simp only [List.getElem_toArray, List.getElem_cons_succ, List.getElem_cons_zero, Act.put, List.setIfInBounds_toArray, List.set_cons_zero, List.set_cons_succ]
                  refine wpAnyH_take (i := 15) (v := ?_) rfl (by kernel_rfl) (by kernel_rfl) (by kernel_rfl) (fun _ _ _ h => h) (Or.inl ⟨by rfl, ?_⟩) (by assumption) ?_
                  rotate_left
                  · intro wq hSq
                    obtain ⟨r0, r1, r2, r3, r4, r5, r6, r7, r8⟩ := hSq
                    go_simp
                    try with_reducible rfl
                  simp only [List.getElem_toArray, List.getElem_cons_succ, List.getElem_cons_zero, Act.put, List.setIfInBounds_toArray, List.set_cons_zero, List.set_cons_succ]
                  refine wpAnyH_take (i := 16) (v := ?_) rfl (by kernel_rfl) (by kernel_rfl) (by kernel_rfl) (fun _ _ _ h => h) (Or.inl ⟨by rfl, ?_⟩) (by assumption) ?_
                  rotate_left
                  · intro wq hSq
                    obtain ⟨r0, r1, r2, r3, r4, r5, r6, r7, r8⟩ := hSq
                    go_simp
                    try with_reducible rfl
                  simp only [List.getElem_toArray, List.getElem_cons_succ, List.getElem_cons_zero, Act.put, List.setIfInBounds_toArray, List.set_cons_zero, List.set_cons_succ]
                  refine wpAnyH_take (i := 17) (v := .string (strOfNums zs)) rfl (by kernel_rfl) (by kernel_rfl) (by kernel_rfl) (fun _ _ _ h => h) (Or.inl ⟨by rfl, ?_⟩) (by assumption) ?_
                  · intro wq hSq
                    obtain ⟨r0, r1, r2, r3, r4, r5, r6, r7, r8⟩ := hSq
                    have rt := r7.text
                    go_simp
                  simp only [List.getElem_toArray, List.getElem_cons_succ, List.getElem_cons_zero, Act.put, List.setIfInBounds_toArray, List.set_cons_zero, List.set_cons_succ]
                  refine wpAnyH_take (i := 18) (v := ?_) rfl (by kernel_rfl) (by kernel_rfl) (by kernel_rfl) (fun _ _ _ h => h) (Or.inl ⟨by rfl, ?_⟩) (by assumption) ?_
                  rotate_left
                  · intro wq hSq
                    obtain ⟨r0, r1, r2, r3, r4, r5, r6, r7, r8⟩ := hSq
                    go_simp
                    try with_reducible rfl
                  simp only [List.getElem_toArray, List.getElem_cons_succ, List.getElem_cons_zero, Act.put, List.setIfInBounds_toArray, List.set_cons_zero, List.set_cons_succ]
                  refine wpAnyH_take (i := 19) (v := ?_) rfl (by kernel_rfl) (by kernel_rfl) (by kernel_rfl) (fun _ _ _ h => h) (Or.inl ⟨by rfl, ?_⟩) (by assumption) ?_
                  rotate_left
                  · intro wq hSq
                    obtain ⟨r0, r1, r2, r3, r4, r5, r6, r7, r8⟩ := hSq
                    go_simp
                    try with_reducible rfl
                  simp only [List.getElem_toArray, List.getElem_cons_succ, List.getElem_cons_zero, Act.put, List.setIfInBounds_toArray, List.set_cons_zero, List.set_cons_succ]
                  refine wpAnyH_take (i := 20) (v := ?_) rfl (by kernel_rfl) (by kernel_rfl) (by kernel_rfl) (fun _ _ _ h => h) (Or.inl ⟨by rfl, ?_⟩) (by assumption) ?_
                  rotate_left
                  · intro wq hSq
                    obtain ⟨r0, r1, r2, r3, r4, r5, r6, r7, r8⟩ := hSq
                    go_simp
                    try with_reducible rfl
                  simp only [List.getElem_toArray, List.getElem_cons_succ, List.getElem_cons_zero, Act.put, List.setIfInBounds_toArray, List.set_cons_zero, List.set_cons_succ]
                  refine wpAnyH_take (i := 21) (v := ?_) rfl (by kernel_rfl) (by kernel_rfl) (by kernel_rfl) (fun _ _ _ h => h) (Or.inl ⟨by rfl, ?_⟩) (by assumption) ?_
                  rotate_left
                  · intro wq hSq
                    obtain ⟨r0, r1, r2, r3, r4, r5, r6, r7, r8⟩ := hSq
                    go_simp
                    try with_reducible rfl
                  simp only [List.getElem_toArray, List.getElem_cons_succ, List.getElem_cons_zero, Act.put, List.setIfInBounds_toArray, List.set_cons_zero, List.set_cons_succ]
                  refine wpAnyH_ready (rs := [22]) (by kernel_rfl) (by simp) ?_
                  refine AllReadyH.cons rfl (fun Kq hKq => ?_) AllReadyH.nil
                  go_simp
                  refine (right_any tk a m0 c xk _ (K3.out.below B9')).mono ?_
                  rintro e w10 ⟨m10, rfl, hm10, _, B10⟩
                  rw [HMM.out] at hm10
                  subst hm10
                  have hS10 := hS9.below B10
                  refine hKq.out _ _ hS10 (fun hHeld => ?_)
                  clear hKq Kq hS9 hHeld
                  refine wpAnyH_take (i := 23) (v := ?_) rfl (by kernel_rfl) (by kernel_rfl) (by kernel_rfl) (fun _ _ _ h => h) (Or.inl ⟨by rfl, ?_⟩) (by assumption) ?_
                  rotate_left
                  · intro wq hSq
                    obtain ⟨r0, r1, r2, r3, r4, r5, r6, r7, r8⟩ := hSq
                    go_simp
                    try with_reducible rfl
                  simp only [List.getElem_toArray, List.getElem_cons_succ, List.getElem_cons_zero, Act.put, List.setIfInBounds_toArray, List.set_cons_zero, List.set_cons_succ]
                  refine wpAnyH_take (i := 24) (v := .string (strOfNums zs)) rfl (by kernel_rfl) (by kernel_rfl) (by kernel_rfl) (fun _ _ _ h => h) (Or.inl ⟨by rfl, ?_⟩) (by assumption) ?_
                  · intro wq hSq
                    obtain ⟨r0, r1, r2, r3, r4, r5, r6, r7, r8⟩ := hSq
                    have rt := r8.text
                    go_simp
                  simp only [List.getElem_toArray, List.getElem_cons_succ, List.getElem_cons_zero, Act.put, List.setIfInBounds_toArray, List.set_cons_zero, List.set_cons_succ]
                  refine wpAnyH_take (i := 25) (v := .bool false) rfl (by kernel_rfl) (by kernel_rfl) (by kernel_rfl) (fun _ _ _ h => h) (Or.inl ⟨by rfl, ?_⟩) (by assumption) ?_
                  · intro wq hSq
                    obtain ⟨r0, r1, r2, r3, r4, r5, r6, r7, r8⟩ := hSq
                    go_simp
                  simp only [List.getElem_toArray, List.getElem_cons_succ, List.getElem_cons_zero, Act.put, List.setIfInBounds_toArray, List.set_cons_zero, List.set_cons_succ]
                  refine wpAnyH_take (i := 26) (v := ?_) rfl (by kernel_rfl) (by kernel_rfl) (by kernel_rfl) (fun _ _ _ h => h) (Or.inl ⟨by rfl, ?_⟩) (by assumption) ?_
                  rotate_left
                  · intro wq hSq
                    obtain ⟨r0, r1, r2, r3, r4, r5, r6, r7, r8⟩ := hSq
                    go_simp
                    try with_reducible rfl
                  simp only [List.getElem_toArray, List.getElem_cons_succ, List.getElem_cons_zero, Act.put, List.setIfInBounds_toArray, List.set_cons_zero, List.set_cons_succ]
                  refine wpAnyH_done (by kernel_rfl) ?_ _
                  have B11 : Below W11.heap.size W11 w10 := B9'.trans (B10.mono B9'.size)
                  have HI2 := hide (HI.out.below B11)
                  have HG2 := hide (HG.out.belowA B11)
                  have oK2 := hide (row_below oK.out B11)
                  clear HI HG oK oX B9 B9' B10 B11 hS10 iF K3
                  have i0 := (HI2.out.st.get 3 rfl).cell
                  have iF := (HI2.out.st.get 3 rfl).frozen
                  gi_wp2
                  have z := HI2.out.set 3 rfl (.int .i64 ((kq : Int) + 1))
                  have g3 := HG2.out.step (grownBy_setCell' w10 E1.heap.size (.int .i64 ((kq : Int) + 1))) (fun _ h => h) (fun q hq => by cases hq; exact .inl rfl)
                  have g4 := g3.step (grownBy_putObj' _ (w7.heap.size + 1) (.loop (r .ready none))) (fun _ h => h) (fun q hq => by cases hq; exact .inr rfl)
                  refine ⟨z.loop, .inl ⟨rfl, ⟨by rw [PL.out]; exact z.put _, ?_⟩, ⟨g4.size, fun k h1 h2 _ => g4.same k h2 (fun hs => by omega)⟩⟩⟩
                  have G5 : GB (fun q => q = E1.heap.size ∨ q = w7.heap.size + 1) w10 _ := (((GB.refl (fun q => q = E1.heap.size ∨ q = w7.heap.size + 1) w10).step (grownBy_setCell' w10 E1.heap.size (.int .i64 ((kq : Int) + 1))) (fun _ h => h) (fun q hq => by cases hq; exact .inl rfl)).step (grownBy_putObj' _ (w7.heap.size + 1) (.loop (r .ready none))) (fun _ h => h) (fun q hq => by cases hq; exact .inr rfl))
                  exact G5.rowNe oK2.out (fun q hq hs => by have h1 := OwnB.lt HKP.out q hq; omega)
              · rintro e W' ⟨⟨v, rfl⟩, ⟨ys, hys, hI, _⟩ | ⟨pre, _, hI⟩⟩
                · have hl := hI.loop
                  rw [← hrec] at hl
                  refine range_done hl ?_
                  rw [hrec]
                  have h2 := hide (hI.put (r .exhausted none)).st
                  have yl : ys.length = wh := by rw [← HPL.out, ← hys, List.length_map]
                  rw [yl] at h2
                  clear hl hI hrec i8 o8
                  generalize W'.putObj (w7.heap.size + 1) (.loop (r .exhausted none)) = V9 at h2 ⊢
                  have cI := (h2.out.get 3 rfl).cell
                  have cW := (h2.out.get 2 rfl).cell
                  have cR := (h2.out.get 1 rfl).cell
                  have fR := (h2.out.get 1 rfl).frozen
                  have kk : ((wh : Int) == (wh : Int)) = true := by simp
                  go_wp2_with fail
                  show LeavesInM _ _ _ _ _ _ _ _ _
                  exact torn_leave w _ _ w7.heap.size _ (h2.out.set 1 rfl _) (w.heap.size + 1) rfl rfl
                · exact hI.elim
      · have hcI : (j : Int) < (nl : Int) := by omega
        have hc20 : ¬ (j : Int) < 20 := by omega
        clear hc2
        go_wp2_with fail
        have bWh := Boxed.new V 3 (.int .i64 0)
        have BA : Below V.heap.size V (V.alloc (.cells #[.int .i64 0] 3)) := (Below.refl _ _).alloc (Nat.le_refl _) _
        have HOb1 := hide (row_below HOb.out BA)
        have HOe1 := hide (row_below HOe.out BA)
        generalize V.alloc (.cells #[.int .i64 0] 3) = V1 at bWh BA HOb1 HOe1 ⊢
        have HVl : Hid (∀ q, (Value.slice ae j ce).ownBlock = some q → q < V.heap.size) := fun q hq => (World.ownsRow.lt HOe.out q hq).2
        have HVb : Hid (∀ q, (Value.slice ab nb cb).ownBlock = some q → q < V.heap.size) := fun q hq => (World.ownsRow.lt HOb.out q hq).2
        have hNI : (N : Int) ≤ 1310840 := by omega
        go_loopw [12, 13] (fun ve vi wr => ∃ (t : Nat) (st : Nat × Nat), t ≤ j ∧ vi = .int .i64 t ∧ ve = .int .i64 ((st.2 : Nat) : Int) ∧ Hid (scanE N ((endsL L 0).take t) 0 (0, 0) = st) ∧ Hid (Boxed wr V.heap.size 3 (.int .i64 ((st.1 : Nat) : Int))) ∧ Hid (V1.grownBy wr (some V.heap.size))) (fun _ i _ => j - (intOf i).toNat)
        case atStart => exact ⟨0, (0, 0), by omega, rfl, rfl, rfl, bWh, World.grownBy.refl _ _⟩
        case round =>
          obtain ⟨t, st, ht, rfl, rfl, HSt, HBx, HGx⟩ := hrel
          have HOe2 := hide (World.ownsRow.kept HOe1.out HGx.out (.inr (fun h => by have := HVl.out _ h; omega)))
          by_cases htj : t < j
          · have htI : (t : Int) < (j : Int) := by omega
            obtain ⟨ge, hge⟩ : ∃ ge, ae = some ⟨ge, 0, none⟩ := by
              rcases HOe2.out.2 with ⟨h1, h2⟩ | ⟨g, c, _, h1, _⟩
              · rw [HLE.out] at h2; omega
              · simp at h1; exact ⟨g, h1.1⟩
            subst hge
            obtain ⟨e, he⟩ : ∃ e, (endsL L 0)[t]? = some e := ⟨_, List.getElem?_eq_getElem (by rw [endsL_len, ← HJL.out]; exact htj)⟩
            have hc := World.ownsRow.cells HOe2.out (g := ge) rfl t (.int .i64 (e : Int)) (by simp [he])
            rw [addNone7] at hc
            have bx := HBx.out.cell
            have bf := HBx.out.frozen
            have hgn : ¬ ge = V.heap.size := fun h => by have := HVl.out ge rfl; omega
            have hgn2 : ¬ V.heap.size = ge := fun h => hgn h.symm
            have hsn : scanE N ((endsL L 0).take (t + 1)) 0 (0, 0) = if e ≤ N then (t + 1, e) else st := by
              rw [List.take_add_one, he]
              have h := scan_snoc N ((endsL L 0).take t) e 0 (0, 0)
              rw [HSt.out, List.length_take, endsL_len, ← HJL.out] at h
              simp only [Option.toList_some]
              rw [h, show 0 + min t j + 1 = t + 1 by omega]
            have HSN := hide hsn
            clear he hsn
            by_cases hle : e ≤ N
            · have hleI : (e : Int) ≤ (N : Int) := by omega
              go_wp2
              go_roundw
              case rel => exact ⟨t + 1, (t + 1, e), by omega, by go_num, rfl, by unfold Hid; rw [HSN.out, if_pos hle], by unfold Hid; exact HBx.out.set _, grown_trans HGx.out (grownBy_setCell' _ _ _)⟩
              case measure => simp [intOf]; omega
            · have hleI : ¬ (e : Int) ≤ (N : Int) := by omega
              go_wp2
              go_roundw
              case rel => exact ⟨t + 1, st, by omega, by go_num, rfl, by unfold Hid; rw [HSN.out, if_neg hle], HBx, HGx⟩
              case measure => simp [intOf]; omega
          · obtain rfl : t = j := by omega
            have hst : st = (wholes L N, endsT L N) := by rw [← HSt.out, List.take_of_length_le (by rw [endsL_len, ← HJL.out]; exact Nat.le_refl _), scan_all]
            obtain ⟨wh, eT⟩ := st
            have hwh : wh = wholes L N := congrArg Prod.fst hst
            have heT : eT = endsT L N := congrArg Prod.snd hst
            clear hst
            have Bwr : Below V.heap.size V wr := BA.grown HGx.out BA.size (by intro k e; cases e; exact Nat.le_refl _)
            have B1r : Below W1.heap.size W1 wr := HBr.out.trans (Bwr.mono s1)
            have L3 : Below w.heap.size w wr := L1.trans (B1r.mono L1.size)
            have bL3 : Boxed wr w.heap.size 22 (.slice al nl cl) := (B1r.block _ bL1.lt).trans bL1
            have bR3 : Boxed wr (w.heap.size + 1) 4 (.bool false) := (B1r.block _ bR1.lt).trans bR1
            have bW3 : Boxed wr V.heap.size 3 (.int .i64 (wh : Int)) := HBx.out
            have hby : ∀ x ∈ catB L, 0 ≤ x ∧ x < 256 := by have h := HBY.out L.length; rwa [List.take_length] at h
            have okL : ∀ s ∈ L, Sl.ok s := by
              intro s hs
              rw [← HL.out] at hs
              obtain ⟨e, he, rfl⟩ := List.mem_map.1 (List.mem_of_mem_take hs)
              exact rightS_ok e (HE.out.byt e he)
            have srb := OwnB.toSrc (row_below HOb.out Bwr) hby
            have hlb := srb.hlen
            have srN := srb.head N hNb
            have TT := torn_all L N okL (by omega)
            have hxl : ((catB L).take N).length = N := by rw [List.length_take]; omega
            have hbx : ∀ x ∈ (catB L).take N, 0 ≤ x ∧ x < 256 := fun x hx => hby x (List.mem_of_mem_take hx)
            generalize (catB L).take N = xs at srN TT hxl hbx
            obtain ⟨t1, t2, t3, t4⟩ := TT
            have sl : ∀ X : World, (Instr.slice 24 (.slice ab nb cb) none (some (.int .i64 (N : Int))) none).run Tryd.prog X = .ok (.slice ab N cb) X := fun X => by
              have h := slice_hi X ab nb cb (N : Int) N rfl (by have := srb.hcap; omega)
              rwa [cutA_zero] at h
            have hzV : V.heap.size < wr.heap.size := bW3.lt
            have hle := endsT_le L N
            have hwl := wholes_le L N
            obtain ⟨hN7, hN8⟩ := le_torn hNI
            clear hN hwN
            have ECl := callsIn_wide.1 (end_in ab N cb xs wr (HTw.out.below L3 HT0.out) srN hN8)
            rw [t1, t2] at ECl
            rw [← hwh] at t3 t4 hwl
            rw [← heT] at ECl hle
            have HPL := hide t3
            have HT4 := hide t4
            have HBX := hide hbx
            have HXL := hide hxl
            have HB1R := hide B1r
            clear t1 t2 t3 t4 hbx hxl hby okL srb hlb HBx HSt HOe HOb HOb1 HOe1 HOe2 bWh BA Bwr HGx hwh heT B1r HBY
            have ECl2 := hide ECl
            clear ECl
            go_wp2_with fail
            refine ECl2.out.mono ?_
            rintro e E1 ⟨rfl, BE⟩
            clear ECl2
            have exx : ((eT : Int) != (eT : Int)) = false := by simp
            by_cases heN : eT = N
            · subst heN
              have eYY : ((eT : Int) == (eT : Int)) = true := by simp
              have eZZ : ((0 : Int) != 0) = false := by decide
              have eLL : ¬ (eT : Int) < (eT : Int) := by omega
              rw [if_pos rfl]
              go_wp2_with fail
              have bI := Boxed.new E1 3 (.int .i64 0)
              have B45 : Below E1.heap.size E1 (E1.alloc (.cells #[.int .i64 0] 3)) := (Below.refl _ _).alloc (Nat.le_refl _) _
              have z45 : (E1.alloc (.cells #[.int .i64 0] 3)).heap.size = E1.heap.size + 1 := by simp
              generalize E1.alloc (.cells #[.int .i64 0] 3) = E2 at bI B45 z45 ⊢
              refine (each_any ab eT cb xs E2 ((srN.below BE).below B45) hN7).mono ?_
              rintro e w7 ⟨aK, cK, B, rfl, HKp, hB, bB, B7⟩
              have B47 : Below E1.heap.size E1 w7 := B45.trans (B7.mono B45.size)
              have Br7 : Below wr.heap.size wr w7 := BE.trans (B47.mono BE.size)
              have L7 : Below w.heap.size w w7 := L3.trans (Br7.mono L3.size)
              have zE : wr.heap.size ≤ E1.heap.size := BE.size
              have z7 : E2.heap.size ≤ w7.heap.size := B7.size
              have zB : B < w7.heap.size := bB.lt
              have bst : BSt w (tornB w V.heap.size E1.heap.size B (.slice al nl cl) (.slice aK eT cK) (wh : Int) 0) [] w7 := BSt.mk5 ((Br7.block _ bL3.lt).trans bL3) ((Br7.block _ bR3.lt).trans bR3) ((Br7.block _ bW3.lt).trans bW3) ((B7.block _ bI.lt).trans bI) bB ⟨Nat.le_refl _, by omega, by omega, by omega, by omega⟩ L7
              have HKP := hide HKp
              clear bI B45 B7 B47 Br7 HKp bB bL3 bR3 bW3 L3 L7 srN BE
              have qn := fun (X : World) (B : Nat) => each_none X B
              go_wp2_with fail
              refine each_enter rfl ?_
              intro fn hfn
              generalize hrec : recOf fn _ _ _ _ _ = r
              have i8 := LSt.enter bst (r .ready none)
              have o8 := row_below HKP.out (((Below.refl _ w7).alloc (Nat.le_refl _) (.deferred (some []))).alloc (by simp) (.loop (r .ready none)))
              have z8 : ((w7.alloc (.deferred (some []))).alloc (.loop (r .ready none))).heap.size = w7.heap.size + 1 + 1 := by simp
              generalize (w7.alloc (.deferred (some []))).alloc (.loop (r .ready none)) = W8 at i8 o8 z8 ⊢
              refine (each1_J (w7.heap.size + 1) B aK eT cK xs hN8 (fun pre A => LSt w (tornB w V.heap.size E1.heap.size B (.slice al nl cl) (.slice aK eT cK) (wh : Int) (pre.length : Int)) [w7.heap.size] (w7.heap.size + 1) (r .ready none) A ∧ OwnB A E2.heap.size (.slice aK eT cK) xs) (fun _ _ => False) W8 ?_ ?_ ?_ ?_ ⟨i8, o8⟩).mono ?_
              · rintro pre A ⟨h, ho⟩
                exact ⟨HTw.out.below h.st.bel HT0.out, OwnB.toSrc ho HBX.out, h.st.get 4 rfl⟩
              · rintro pre A C ⟨h, ho⟩ hb
                rw [z8] at hb
                refine ⟨h.belowN hb ?_ (by intro D hD; simp at hD; omega) (by omega) (by omega), OwnB.below ho hb (fun k hk => by have := (OwnB.lt HKP.out k hk).2; omega)⟩
                intro x hx
                simp only [tornB, List.mem_cons, List.not_mem_nil, or_false] at hx
                rcases hx with rfl | rfl | rfl | rfl | rfl <;> (simp only; omega)
              · intro pre A C h
                exact h.elim
              · rintro pre x U v ⟨hJ, hoK⟩ hsz ho hlen hpfx
                rw [z8] at ho hsz ⊢
                have hl := hJ.loop
                obtain ⟨av, mv, cv, hv⟩ : ∃ av mv cv, v = .slice av mv cv := by
                  rcases ho.split with ⟨h, _⟩ | ⟨gq, cq, h, _⟩
                  · exact ⟨_, _, _, h⟩
                  · exact ⟨_, _, _, h⟩
                subst hv
                obtain ⟨kq, hkq⟩ : ∃ kq, pre.length = kq := ⟨_, rfl⟩
                have hat := pre_at hpfx
                rw [hkq] at hat hJ hlen
                have hkw : kq < wh := by rw [← HPL.out]; exact (List.getElem?_eq_some_iff.1 hat).1
                obtain ⟨hke, hLk⟩ := right_at HL.out (show kq < L.length by omega)
                obtain ⟨q, hq1, hq2, hq3⟩ := HT4.out kq _ hLk hkw
                have hqx : q = x.1 := by rw [hat] at hq1; cases hq1; rfl
                rw [hqx] at hq2 hq3
                rw [hq3] at ho
                rw [hq2]
                have hkn : kq < nl := by rw [← HLn.out]; exact hke
                have PL : Hid ((((pre ++ [x]).length : Nat) : Int) = (kq : Int) + 1) := by unfold Hid; simp [hkq]
                obtain ⟨ej, hej⟩ : ∃ ej, es.getD kq (0, []) = ej := ⟨_, rfl⟩
                have hbx : ∀ y ∈ ej.2, 0 ≤ y ∧ y < 256 := by
                  obtain ⟨_, _, _, hc⟩ := HE.out.hrd (by omega)
                  obtain ⟨_, _, _, _, _, h3⟩ := hc kq hkn
                  rw [hej] at h3
                  exact h3.hbyt
                rw [hej] at hq2 hq3 ho ⊢
                obtain ⟨tk, xk⟩ := ej
                simp only [rightS] at ho hbx ⊢
                have HEJ := hide hej
                obtain ⟨zs, hzs⟩ : ∃ zs, xk.take 65535 = zs := ⟨_, rfl⟩
                have HKZ : Hid (∀ y ∈ zs, 0 ≤ y ∧ y < 256) := fun y hy => by subst hzs; exact hbx y (List.mem_of_mem_take hy)
                rw [hzs] at ho
                have HZS := hide hzs
                rw [← hrec] at hl
                have hl1 : (U.alloc (.cells #[.int .i64 (tk % 256), .slice av mv cv] 30)).heap[w7.heap.size + 1]? = some (.loop (recOf fn _ _ _ _ _ .ready none)) := (Below.heap_alloc _ _ _ (by omega)).trans hl
                refine range_roundA (a₁ := ?B2bc) hfn hl rfl hl1 ?_ ?_
                rotate_left
                · intro KK hKK
                  gi_wp2
                  exact hKK
                · rw [hrec]
                  have HI := hide ((hJ.below ((Below.refl _ _).alloc (Nat.le_refl _) (.cells #[.int .i64 (tk % 256), .slice av mv cv] 30))).put (r .busy none))
                  have GG : GB (fun q => q = E1.heap.size ∨ q = w7.heap.size + 1) U ((U.alloc (.cells #[.int .i64 (tk % 256), .slice av mv cv] 30)).putObj (w7.heap.size + 1) (.loop (r .busy none))) := ((GB.refl _ _).belowA ((Below.refl _ _).alloc (Nat.le_refl _) _)).step (grownBy_putObj' _ _ _) (fun _ h => h) (fun q hq => by cases hq; exact .inr rfl)
                  have oX := hide (GG.rowNe ho (fun q hq hs => by have := (OwnB.lt ho q hq).1; omega))
                  have oK := hide (GG.rowNe hoK (fun q hq hs => by have h1 := OwnB.lt HKP.out q hq; omega))
                  have xb : ((U.alloc (.cells #[.int .i64 (tk % 256), .slice av mv cv] 30)).putObj (w7.heap.size + 1) (.loop (r .busy none))).heap[U.heap.size]? = some (.cells #[.int .i64 (tk % 256), .slice av mv cv] 30) := (World.putObj_heap_other (by omega)).trans (World.alloc_heap_new _ _)
                  have HG := hide GG
                  clear hl hl1 hJ hoK hsz ho hlen hpfx hat hq1 hq2 hq3 hbx hej hzs hrec i8 o8 GG hLk
                  generalize (U.alloc (.cells #[.int .i64 (tk % 256), .slice av mv cv] 30)).putObj (w7.heap.size + 1) (.loop (r .busy none)) = W11 at HI HG oX oK xb ⊢
                  obtain ⟨s0, s1⟩ := boxed2 xb
                  obtain ⟨bl, ol, hal, hcel⟩ := (HE.out.below HI.out.st.bel).hrd (by omega)
                  obtain ⟨a, m0, c, k1, k2, k3⟩ := hcel kq hkn
                  rw [HEJ.out] at k1 k3
                  simp only at k1 k3
                  subst hal
                  clear hcel
                  have hm0 := k3.hlen
                  have k4 : Src W11 a (min m0 65535) c zs := by
                    have h := k3.head (min m0 65535) (Nat.min_le_left _ _)
                    have e1 : xk.take (min m0 65535) = zs := by rw [← HZS.out]; exact take_min hm0
                    rwa [e1] at h
                  obtain ⟨mm, hmm⟩ : ∃ mm, min m0 65535 = mm := ⟨_, rfl⟩
                  rw [hmm] at k4
                  have HMM := hide hmm
                  clear hmm hm0
                  have i0 := (HI.out.st.get 3 rfl).cell
                  have i1 := (HI.out.st.get 2 rfl).cell
                  have i2 := (HI.out.st.get 0 rfl).cell
                  have iF := (HI.out.st.get 3 rfl).frozen
                  have hSt : TAt E1.heap.size V.heap.size U.heap.size w.heap.size bl (ol + kq * 2) (kq : Int) (wh : Int) (tk % 256) tk av mv cv nl cl a m0 c mm ol zs W11.drew := ⟨i0, i1, s0, s1, i2, k1, k2, (OwnB.toSrc oX.out HKZ.out).drewN 1, k4.drewN 1⟩
                  have K3 := hide k3
                  clear i0 i1 i2 s0 s1 k1 k2 k3 k4 xb
                  have mI : (kq : Int) < (nl : Int) := by omega
                  have mG : ¬ (wh : Int) ≤ (kq : Int) := by omega
                  have pxx : (tk % 256 != tk % 256) = false := by simp
                  have wP : IntKind.i64.wrap ((kq : Int) + 1) = (kq : Int) + 1 := i64_in _ (by omega)
                  gi_wp2
                  refine wpIn_region_heldR (TAt E1.heap.size V.heap.size U.heap.size w.heap.size bl (ol + kq * 2) (kq : Int) (wh : Int) (tk % 256) tk av mv cv nl cl a m0 c mm ol zs) (fun ⟨_, _, h⟩ => h) (by kernel_rfl) (by kernel_rfl) ?_
                  refine wpAnyH_take (i := 0) (v := ?_) rfl (by kernel_rfl) (by kernel_rfl) (by kernel_rfl) (fun _ _ _ h => h) (Or.inl ⟨by rfl, ?_⟩) (by assumption) ?_
                  rotate_left
                  · intro wq hSq
                    obtain ⟨r0, r1, r2, r3, r4, r5, r6, r7, r8⟩ := hSq
                    go_simp
                    try with_reducible rfl
                  simp only [List.getElem_toArray, List.getElem_cons_zero, Act.put, List.setIfInBounds_toArray, List.set_cons_zero, List.set_cons_succ]
                  refine wpAnyH_take (i := 1) (v := ?_) rfl (by kernel_rfl) (by kernel_rfl) (by kernel_rfl) (fun _ _ _ h => h) (Or.inl ⟨by rfl, ?_⟩) (by assumption) ?_
                  rotate_left
                  · intro wq hSq
                    obtain ⟨r0, r1, r2, r3, r4, r5, r6, r7, r8⟩ := hSq
                    go_simp
                    try with_reducible rfl
                  simp only [List.getElem_toArray, List.getElem_cons_succ, List.getElem_cons_zero, Act.put, List.setIfInBounds_toArray, List.set_cons_zero, List.set_cons_succ]
                  refine wpAnyH_take (i := 2) (v := .bool false) rfl (by kernel_rfl) (by kernel_rfl) (by kernel_rfl) (fun _ _ _ h => h) (Or.inl ⟨by rfl, ?_⟩) (by assumption) ?_
                  · intro wq hSq
                    obtain ⟨r0, r1, r2, r3, r4, r5, r6, r7, r8⟩ := hSq
                    go_simp
                  simp only [List.getElem_toArray, List.getElem_cons_succ, List.getElem_cons_zero, Act.put, List.setIfInBounds_toArray, List.set_cons_zero, List.set_cons_succ]
                  refine wpAnyH_take (i := 3) (v := ?_) rfl (by kernel_rfl) (by kernel_rfl) (by kernel_rfl) (fun _ _ _ h => h) (Or.inl ⟨by rfl, ?_⟩) (by assumption) ?_
                  rotate_left
                  · intro wq hSq
                    obtain ⟨r0, r1, r2, r3, r4, r5, r6, r7, r8⟩ := hSq
                    go_simp
                    try with_reducible rfl
                  simp only [List.getElem_toArray, List.getElem_cons_succ, List.getElem_cons_zero, Act.put, List.setIfInBounds_toArray, List.set_cons_zero, List.set_cons_succ]
                  refine wpAnyH_take (i := 4) (v := ?_) rfl (by kernel_rfl) (by kernel_rfl) (by kernel_rfl) (fun _ _ _ h => h) (Or.inl ⟨by rfl, ?_⟩) (by assumption) ?_
                  rotate_left
                  · intro wq hSq
                    obtain ⟨r0, r1, r2, r3, r4, r5, r6, r7, r8⟩ := hSq
                    go_simp
                    try with_reducible rfl
                  simp only [List.getElem_toArray, List.getElem_cons_succ, List.getElem_cons_zero, Act.put, List.setIfInBounds_toArray, List.set_cons_zero, List.set_cons_succ]
                  refine wpAnyH_take (i := 5) (v := ?_) rfl (by kernel_rfl) (by kernel_rfl) (by kernel_rfl) (fun _ _ _ h => h) (Or.inl ⟨by rfl, ?_⟩) (by assumption) ?_
                  rotate_left
                  · intro wq hSq
                    obtain ⟨r0, r1, r2, r3, r4, r5, r6, r7, r8⟩ := hSq
                    go_simp
                    try with_reducible rfl
                  simp only [List.getElem_toArray, List.getElem_cons_succ, List.getElem_cons_zero, Act.put, List.setIfInBounds_toArray, List.set_cons_zero, List.set_cons_succ]
                  refine wpAnyH_take (i := 6) (v := ?_) rfl (by kernel_rfl) (by kernel_rfl) (by kernel_rfl) (fun _ _ _ h => h) (Or.inl ⟨by rfl, ?_⟩) (by assumption) ?_
                  rotate_left
                  · intro wq hSq
                    obtain ⟨r0, r1, r2, r3, r4, r5, r6, r7, r8⟩ := hSq
                    go_simp
                    try with_reducible rfl
                  simp only [List.getElem_toArray, List.getElem_cons_succ, List.getElem_cons_zero, Act.put, List.setIfInBounds_toArray, List.set_cons_zero, List.set_cons_succ]
                  refine wpAnyH_take (i := 7) (v := ?_) rfl (by kernel_rfl) (by kernel_rfl) (by kernel_rfl) (fun _ _ _ h => h) (Or.inl ⟨by rfl, ?_⟩) (by assumption) ?_
                  rotate_left
                  · intro wq hSq
                    obtain ⟨r0, r1, r2, r3, r4, r5, r6, r7, r8⟩ := hSq
                    go_simp
                    try with_reducible rfl
                  simp only [List.getElem_toArray, List.getElem_cons_succ, List.getElem_cons_zero, Act.put, List.setIfInBounds_toArray, List.set_cons_zero, List.set_cons_succ]
                  refine wpAnyH_take (i := 8) (v := ?_) rfl (by kernel_rfl) (by kernel_rfl) (by kernel_rfl) (fun _ _ _ h => h) (Or.inl ⟨by rfl, ?_⟩) (by assumption) ?_
                  rotate_left
                  · intro wq hSq
                    obtain ⟨r0, r1, r2, r3, r4, r5, r6, r7, r8⟩ := hSq
                    go_simp
                    try with_reducible rfl
                  simp only [List.getElem_toArray, List.getElem_cons_succ, List.getElem_cons_zero, Act.put, List.setIfInBounds_toArray, List.set_cons_zero, List.set_cons_succ]
                  refine wpAnyH_take (i := 9) (v := ?_) rfl (by kernel_rfl) (by kernel_rfl) (by kernel_rfl) (fun _ _ _ h => h) (Or.inl ⟨by rfl, ?_⟩) (by assumption) ?_
                  rotate_left
                  · intro wq hSq
                    obtain ⟨r0, r1, r2, r3, r4, r5, r6, r7, r8⟩ := hSq
                    go_simp
                    try with_reducible rfl
                  simp only [List.getElem_toArray, List.getElem_cons_succ, List.getElem_cons_zero, Act.put, List.setIfInBounds_toArray, List.set_cons_zero, List.set_cons_succ]
                  refine wpAnyH_ready (rs := [10]) (by kernel_rfl) (by simp) ?_
                  refine AllReadyH.cons rfl (fun Kq hKq => ?_) AllReadyH.nil
                  go_simp
                  refine (right_any tk a m0 c xk _ (K3.out.drewN 1)).mono ?_
                  rintro e w9 ⟨m9, rfl, hm9, _, B9⟩
                  rw [HMM.out] at hm9
                  subst hm9
                  have hS9 := hSt.below B9
                  have B9' : Below W11.heap.size W11 w9 := ⟨B9.os, B9.tape, B9.output, B9.size, B9.block⟩
                  refine hKq.out _ _ hS9 (fun hHeld => ?_)
                  clear hKq Kq hSt hHeld
                  refine wpAnyH_take (i := 11) (v := ?_) rfl (by kernel_rfl) (by kernel_rfl) (by kernel_rfl) (fun _ _ _ h => h) (Or.inl ⟨by rfl, ?_⟩) (by assumption) ?_
                  rotate_left
                  · intro wq hSq
                    obtain ⟨r0, r1, r2, r3, r4, r5, r6, r7, r8⟩ := hSq
                    go_simp
                    try with_reducible rfl
                  simp only [List.getElem_toArray, List.getElem_cons_succ, List.getElem_cons_zero, Act.put, List.setIfInBounds_toArray, List.set_cons_zero, List.set_cons_succ]
                  refine wpAnyH_take (i := 12) (v := .bool false) rfl (by kernel_rfl) (by kernel_rfl) (by kernel_rfl) (fun _ _ _ h => h) (Or.inl ⟨by rfl, ?_⟩) (by assumption) ?_
                  · intro wq hSq
                    obtain ⟨r0, r1, r2, r3, r4, r5, r6, r7, r8⟩ := hSq
                    go_simp
                  simp only [List.getElem_toArray, List.getElem_cons_succ, List.getElem_cons_zero, Act.put, List.setIfInBounds_toArray, List.set_cons_zero, List.set_cons_succ]
                  refine wpAnyH_take (i := 13) (v := ?_) rfl (by kernel_rfl) (by kernel_rfl) (by kernel_rfl) (fun _ _ _ h => h) (Or.inl ⟨by rfl, ?_⟩) (by assumption) ?_
                  rotate_left
                  · intro wq hSq
                    obtain ⟨r0, r1, r2, r3, r4, r5, r6, r7, r8⟩ := hSq
                    go_simp
                    try with_reducible rfl
                  simp only [List.getElem_toArray, List.getElem_cons_succ, List.getElem_cons_zero, Act.put, List.setIfInBounds_toArray, List.set_cons_zero, List.set_cons_succ]
                  refine wpAnyH_take (i := 14) (v := ?_) rfl (by kernel_rfl) (by kernel_rfl) (by kernel_rfl) (fun _ _ _ h => h) (Or.inl ⟨by rfl, ?_⟩) (by assumption) ?_
                  rotate_left
                  · intro wq hSq
                    obtain ⟨r0, r1, r2, r3, r4, r5, r6, r7, r8⟩ := hSq
                    go_simp
                    try with_reducible rfl
                  simp only [List.getElem_toArray, List.getElem_cons_succ, List.getElem_cons_zero, Act.put, List.setIfInBounds_toArray, List.set_cons_zero, List.set_cons_succ]
                  refine wpAnyH_take (i := 15) (v := ?_) rfl (by kernel_rfl) (by kernel_rfl) (by kernel_rfl) (fun _ _ _ h => h) (Or.inl ⟨by rfl, ?_⟩) (by assumption) ?_
                  rotate_left
                  · intro wq hSq
                    obtain ⟨r0, r1, r2, r3, r4, r5, r6, r7, r8⟩ := hSq
                    go_simp
                    try with_reducible rfl
                  simp only [List.getElem_toArray, List.getElem_cons_succ, List.getElem_cons_zero, Act.put, List.setIfInBounds_toArray, List.set_cons_zero, List.set_cons_succ]
                  refine wpAnyH_take (i := 16) (v := ?_) rfl (by kernel_rfl) (by kernel_rfl) (by kernel_rfl) (fun _ _ _ h => h) (Or.inl ⟨by rfl, ?_⟩) (by assumption) ?_
                  rotate_left
                  · intro wq hSq
                    obtain ⟨r0, r1, r2, r3, r4, r5, r6, r7, r8⟩ := hSq
                    go_simp
                    try with_reducible rfl
                  simp only [List.getElem_toArray, List.getElem_cons_succ, List.getElem_cons_zero, Act.put, List.setIfInBounds_toArray, List.set_cons_zero, List.set_cons_succ]
                  refine wpAnyH_take (i := 17) (v := .string (strOfNums zs)) rfl (by kernel_rfl) (by kernel_rfl) (by kernel_rfl) (fun _ _ _ h => h) (Or.inl ⟨by rfl, ?_⟩) (by assumption) ?_
                  · intro wq hSq
                    obtain ⟨r0, r1, r2, r3, r4, r5, r6, r7, r8⟩ := hSq
                    have rt := r7.text
                    go_simp
                  simp only [List.getElem_toArray, List.getElem_cons_succ, List.getElem_cons_zero, Act.put, List.setIfInBounds_toArray, List.set_cons_zero, List.set_cons_succ]
                  refine wpAnyH_take (i := 18) (v := ?_) rfl (by kernel_rfl) (by kernel_rfl) (by kernel_rfl) (fun _ _ _ h => h) (Or.inl ⟨by rfl, ?_⟩) (by assumption) ?_
                  rotate_left
                  · intro wq hSq
                    obtain ⟨r0, r1, r2, r3, r4, r5, r6, r7, r8⟩ := hSq
                    go_simp
                    try with_reducible rfl
                  simp only [List.getElem_toArray, List.getElem_cons_succ, List.getElem_cons_zero, Act.put, List.setIfInBounds_toArray, List.set_cons_zero, List.set_cons_succ]
                  refine wpAnyH_take (i := 19) (v := ?_) rfl (by kernel_rfl) (by kernel_rfl) (by kernel_rfl) (fun _ _ _ h => h) (Or.inl ⟨by rfl, ?_⟩) (by assumption) ?_
                  rotate_left
                  · intro wq hSq
                    obtain ⟨r0, r1, r2, r3, r4, r5, r6, r7, r8⟩ := hSq
                    go_simp
                    try with_reducible rfl
                  simp only [List.getElem_toArray, List.getElem_cons_succ, List.getElem_cons_zero, Act.put, List.setIfInBounds_toArray, List.set_cons_zero, List.set_cons_succ]
                  refine wpAnyH_take (i := 20) (v := ?_) rfl (by kernel_rfl) (by kernel_rfl) (by kernel_rfl) (fun _ _ _ h => h) (Or.inl ⟨by rfl, ?_⟩) (by assumption) ?_
                  rotate_left
                  · intro wq hSq
                    obtain ⟨r0, r1, r2, r3, r4, r5, r6, r7, r8⟩ := hSq
                    go_simp
                    try with_reducible rfl
                  simp only [List.getElem_toArray, List.getElem_cons_succ, List.getElem_cons_zero, Act.put, List.setIfInBounds_toArray, List.set_cons_zero, List.set_cons_succ]
                  refine wpAnyH_take (i := 21) (v := ?_) rfl (by kernel_rfl) (by kernel_rfl) (by kernel_rfl) (fun _ _ _ h => h) (Or.inl ⟨by rfl, ?_⟩) (by assumption) ?_
                  rotate_left
                  · intro wq hSq
                    obtain ⟨r0, r1, r2, r3, r4, r5, r6, r7, r8⟩ := hSq
                    go_simp
                    try with_reducible rfl
                  simp only [List.getElem_toArray, List.getElem_cons_succ, List.getElem_cons_zero, Act.put, List.setIfInBounds_toArray, List.set_cons_zero, List.set_cons_succ]
                  refine wpAnyH_ready (rs := [22]) (by kernel_rfl) (by simp) ?_
                  refine AllReadyH.cons rfl (fun Kq hKq => ?_) AllReadyH.nil
                  go_simp
                  refine (right_any tk a m0 c xk _ (K3.out.below B9')).mono ?_
                  rintro e w10 ⟨m10, rfl, hm10, _, B10⟩
                  rw [HMM.out] at hm10
                  subst hm10
                  have hS10 := hS9.below B10
                  refine hKq.out _ _ hS10 (fun hHeld => ?_)
                  clear hKq Kq hS9 hHeld
                  refine wpAnyH_take (i := 23) (v := ?_) rfl (by kernel_rfl) (by kernel_rfl) (by kernel_rfl) (fun _ _ _ h => h) (Or.inl ⟨by rfl, ?_⟩) (by assumption) ?_
                  rotate_left
                  · intro wq hSq
                    obtain ⟨r0, r1, r2, r3, r4, r5, r6, r7, r8⟩ := hSq
                    go_simp
                    try with_reducible rfl
                  simp only [List.getElem_toArray, List.getElem_cons_succ, List.getElem_cons_zero, Act.put, List.setIfInBounds_toArray, List.set_cons_zero, List.set_cons_succ]
                  refine wpAnyH_take (i := 24) (v := .string (strOfNums zs)) rfl (by kernel_rfl) (by kernel_rfl) (by kernel_rfl) (fun _ _ _ h => h) (Or.inl ⟨by rfl, ?_⟩) (by assumption) ?_
                  · intro wq hSq
                    obtain ⟨r0, r1, r2, r3, r4, r5, r6, r7, r8⟩ := hSq
                    have rt := r8.text
                    go_simp
                  simp only [List.getElem_toArray, List.getElem_cons_succ, List.getElem_cons_zero, Act.put, List.setIfInBounds_toArray, List.set_cons_zero, List.set_cons_succ]
                  refine wpAnyH_take (i := 25) (v := .bool false) rfl (by kernel_rfl) (by kernel_rfl) (by kernel_rfl) (fun _ _ _ h => h) (Or.inl ⟨by rfl, ?_⟩) (by assumption) ?_
                  · intro wq hSq
                    obtain ⟨r0, r1, r2, r3, r4, r5, r6, r7, r8⟩ := hSq
                    go_simp
                  simp only [List.getElem_toArray, List.getElem_cons_succ, List.getElem_cons_zero, Act.put, List.setIfInBounds_toArray, List.set_cons_zero, List.set_cons_succ]
                  refine wpAnyH_take (i := 26) (v := ?_) rfl (by kernel_rfl) (by kernel_rfl) (by kernel_rfl) (fun _ _ _ h => h) (Or.inl ⟨by rfl, ?_⟩) (by assumption) ?_
                  rotate_left
                  · intro wq hSq
                    obtain ⟨r0, r1, r2, r3, r4, r5, r6, r7, r8⟩ := hSq
                    go_simp
                    try with_reducible rfl
                  simp only [List.getElem_toArray, List.getElem_cons_succ, List.getElem_cons_zero, Act.put, List.setIfInBounds_toArray, List.set_cons_zero, List.set_cons_succ]
                  refine wpAnyH_done (by kernel_rfl) ?_ _
                  have B11 : Below W11.heap.size W11 w10 := B9'.trans (B10.mono B9'.size)
                  have HI2 := hide (HI.out.below B11)
                  have HG2 := hide (HG.out.belowA B11)
                  have oK2 := hide (row_below oK.out B11)
                  clear HI HG oK oX B9 B9' B10 B11 hS10 iF K3
                  have i0 := (HI2.out.st.get 3 rfl).cell
                  have iF := (HI2.out.st.get 3 rfl).frozen
                  gi_wp2
                  have z := HI2.out.set 3 rfl (.int .i64 ((kq : Int) + 1))
                  have g3 := HG2.out.step (grownBy_setCell' w10 E1.heap.size (.int .i64 ((kq : Int) + 1))) (fun _ h => h) (fun q hq => by cases hq; exact .inl rfl)
                  have g4 := g3.step (grownBy_putObj' _ (w7.heap.size + 1) (.loop (r .ready none))) (fun _ h => h) (fun q hq => by cases hq; exact .inr rfl)
                  refine ⟨z.loop, .inl ⟨rfl, ⟨by rw [PL.out]; exact z.put _, ?_⟩, ⟨g4.size, fun k h1 h2 _ => g4.same k h2 (fun hs => by omega)⟩⟩⟩
                  have G5 : GB (fun q => q = E1.heap.size ∨ q = w7.heap.size + 1) w10 _ := (((GB.refl (fun q => q = E1.heap.size ∨ q = w7.heap.size + 1) w10).step (grownBy_setCell' w10 E1.heap.size (.int .i64 ((kq : Int) + 1))) (fun _ h => h) (fun q hq => by cases hq; exact .inl rfl)).step (grownBy_putObj' _ (w7.heap.size + 1) (.loop (r .ready none))) (fun _ h => h) (fun q hq => by cases hq; exact .inr rfl))
                  exact G5.rowNe oK2.out (fun q hq hs => by have h1 := OwnB.lt HKP.out q hq; omega)
              · rintro e W' ⟨⟨v, rfl⟩, ⟨ys, hys, hI, _⟩ | ⟨pre, _, hI⟩⟩
                · have hl := hI.loop
                  rw [← hrec] at hl
                  refine range_done hl ?_
                  rw [hrec]
                  have h2 := hide (hI.put (r .exhausted none)).st
                  have yl : ys.length = wh := by rw [← HPL.out, ← hys, List.length_map]
                  rw [yl] at h2
                  clear hl hI hrec i8 o8
                  generalize W'.putObj (w7.heap.size + 1) (.loop (r .exhausted none)) = V9 at h2 ⊢
                  have cI := (h2.out.get 3 rfl).cell
                  have cW := (h2.out.get 2 rfl).cell
                  have cR := (h2.out.get 1 rfl).cell
                  have fR := (h2.out.get 1 rfl).frozen
                  have kk : ((wh : Int) == (wh : Int)) = true := by simp
                  go_wp2_with fail
                  show LeavesInM _ _ _ _ _ _ _ _ _
                  exact torn_leave w _ _ w7.heap.size _ (h2.out.set 1 rfl _) (w.heap.size + 1) rfl rfl
                · exact hI.elim
            · have eNN : ((eT : Int) == (N : Int)) = false := by simpa using (show ¬ (eT : Int) = (N : Int) by omega)
              have eLL : (eT : Int) < (N : Int) := by omega
              have e99 : ((90 : Int) != 90) = false := by decide
              rw [if_neg heN]
              go_wp2_with fail
              have bI := Boxed.new E1 3 (.int .i64 0)
              have B45 : Below E1.heap.size E1 (E1.alloc (.cells #[.int .i64 0] 3)) := (Below.refl _ _).alloc (Nat.le_refl _) _
              have z45 : (E1.alloc (.cells #[.int .i64 0] 3)).heap.size = E1.heap.size + 1 := by simp
              generalize E1.alloc (.cells #[.int .i64 0] 3) = E2 at bI B45 z45 ⊢
              refine (each_any ab N cb xs E2 ((srN.below BE).below B45) hN7).mono ?_
              rintro e w7 ⟨aK, cK, B, rfl, HKp, hB, bB, B7⟩
              have B47 : Below E1.heap.size E1 w7 := B45.trans (B7.mono B45.size)
              have Br7 : Below wr.heap.size wr w7 := BE.trans (B47.mono BE.size)
              have L7 : Below w.heap.size w w7 := L3.trans (Br7.mono L3.size)
              have zE : wr.heap.size ≤ E1.heap.size := BE.size
              have z7 : E2.heap.size ≤ w7.heap.size := B7.size
              have zB : B < w7.heap.size := bB.lt
              have bst : BSt w (tornB w V.heap.size E1.heap.size B (.slice al nl cl) (.slice aK N cK) (wh : Int) 0) [] w7 := BSt.mk5 ((Br7.block _ bL3.lt).trans bL3) ((Br7.block _ bR3.lt).trans bR3) ((Br7.block _ bW3.lt).trans bW3) ((B7.block _ bI.lt).trans bI) bB ⟨Nat.le_refl _, by omega, by omega, by omega, by omega⟩ L7
              have HKP := hide HKp
              clear bI B45 B7 B47 Br7 HKp bB bL3 bR3 bW3 L3 L7 srN BE
              have qn := fun (X : World) (B : Nat) => each_none X B
              go_wp2_with fail
              refine each_enter rfl ?_
              intro fn hfn
              generalize hrec : recOf fn _ _ _ _ _ = r
              have i8 := LSt.enter bst (r .ready none)
              have o8 := row_below HKP.out (((Below.refl _ w7).alloc (Nat.le_refl _) (.deferred (some []))).alloc (by simp) (.loop (r .ready none)))
              have z8 : ((w7.alloc (.deferred (some []))).alloc (.loop (r .ready none))).heap.size = w7.heap.size + 1 + 1 := by simp
              generalize (w7.alloc (.deferred (some []))).alloc (.loop (r .ready none)) = W8 at i8 o8 z8 ⊢
              refine (each1_J (w7.heap.size + 1) B aK N cK xs hN8 (fun pre A => LSt w (tornB w V.heap.size E1.heap.size B (.slice al nl cl) (.slice aK N cK) (wh : Int) (pre.length : Int)) [w7.heap.size] (w7.heap.size + 1) (r .ready none) A ∧ OwnB A E2.heap.size (.slice aK N cK) xs) (fun _ _ => False) W8 ?_ ?_ ?_ ?_ ⟨i8, o8⟩).mono ?_
              · rintro pre A ⟨h, ho⟩
                exact ⟨HTw.out.below h.st.bel HT0.out, OwnB.toSrc ho HBX.out, h.st.get 4 rfl⟩
              · rintro pre A C ⟨h, ho⟩ hb
                rw [z8] at hb
                refine ⟨h.belowN hb ?_ (by intro D hD; simp at hD; omega) (by omega) (by omega), OwnB.below ho hb (fun k hk => by have := (OwnB.lt HKP.out k hk).2; omega)⟩
                intro x hx
                simp only [tornB, List.mem_cons, List.not_mem_nil, or_false] at hx
                rcases hx with rfl | rfl | rfl | rfl | rfl <;> (simp only; omega)
              · intro pre A C h
                exact h.elim
              · rintro pre x U v ⟨hJ, hoK⟩ hsz ho hlen hpfx
                rw [z8] at ho hsz ⊢
                have hl := hJ.loop
                obtain ⟨av, mv, cv, hv⟩ : ∃ av mv cv, v = .slice av mv cv := by
                  rcases ho.split with ⟨h, _⟩ | ⟨gq, cq, h, _⟩
                  · exact ⟨_, _, _, h⟩
                  · exact ⟨_, _, _, h⟩
                subst hv
                obtain ⟨kq, hkq⟩ : ∃ kq, pre.length = kq := ⟨_, rfl⟩
                have hat := pre_at hpfx
                rw [hkq] at hat hJ hlen
                have hkw : kq < wh := by rw [← HPL.out]; exact (List.getElem?_eq_some_iff.1 hat).1
                obtain ⟨hke, hLk⟩ := right_at HL.out (show kq < L.length by omega)
                obtain ⟨q, hq1, hq2, hq3⟩ := HT4.out kq _ hLk hkw
                have hqx : q = x.1 := by rw [hat] at hq1; cases hq1; rfl
                rw [hqx] at hq2 hq3
                rw [hq3] at ho
                rw [hq2]
                have hkn : kq < nl := by rw [← HLn.out]; exact hke
                have PL : Hid ((((pre ++ [x]).length : Nat) : Int) = (kq : Int) + 1) := by unfold Hid; simp [hkq]
                obtain ⟨ej, hej⟩ : ∃ ej, es.getD kq (0, []) = ej := ⟨_, rfl⟩
                have hbx : ∀ y ∈ ej.2, 0 ≤ y ∧ y < 256 := by
                  obtain ⟨_, _, _, hc⟩ := HE.out.hrd (by omega)
                  obtain ⟨_, _, _, _, _, h3⟩ := hc kq hkn
                  rw [hej] at h3
                  exact h3.hbyt
                rw [hej] at hq2 hq3 ho ⊢
                obtain ⟨tk, xk⟩ := ej
                simp only [rightS] at ho hbx ⊢
                have HEJ := hide hej
                obtain ⟨zs, hzs⟩ : ∃ zs, xk.take 65535 = zs := ⟨_, rfl⟩
                have HKZ : Hid (∀ y ∈ zs, 0 ≤ y ∧ y < 256) := fun y hy => by subst hzs; exact hbx y (List.mem_of_mem_take hy)
                rw [hzs] at ho
                have HZS := hide hzs
                rw [← hrec] at hl
                have hl1 : (U.alloc (.cells #[.int .i64 (tk % 256), .slice av mv cv] 30)).heap[w7.heap.size + 1]? = some (.loop (recOf fn _ _ _ _ _ .ready none)) := (Below.heap_alloc _ _ _ (by omega)).trans hl
                refine range_roundA (a₁ := ?B2bd) hfn hl rfl hl1 ?_ ?_
                rotate_left
                · intro KK hKK
                  gi_wp2
                  exact hKK
                · rw [hrec]
                  have HI := hide ((hJ.below ((Below.refl _ _).alloc (Nat.le_refl _) (.cells #[.int .i64 (tk % 256), .slice av mv cv] 30))).put (r .busy none))
                  have GG : GB (fun q => q = E1.heap.size ∨ q = w7.heap.size + 1) U ((U.alloc (.cells #[.int .i64 (tk % 256), .slice av mv cv] 30)).putObj (w7.heap.size + 1) (.loop (r .busy none))) := ((GB.refl _ _).belowA ((Below.refl _ _).alloc (Nat.le_refl _) _)).step (grownBy_putObj' _ _ _) (fun _ h => h) (fun q hq => by cases hq; exact .inr rfl)
                  have oX := hide (GG.rowNe ho (fun q hq hs => by have := (OwnB.lt ho q hq).1; omega))
                  have oK := hide (GG.rowNe hoK (fun q hq hs => by have h1 := OwnB.lt HKP.out q hq; omega))
                  have xb : ((U.alloc (.cells #[.int .i64 (tk % 256), .slice av mv cv] 30)).putObj (w7.heap.size + 1) (.loop (r .busy none))).heap[U.heap.size]? = some (.cells #[.int .i64 (tk % 256), .slice av mv cv] 30) := (World.putObj_heap_other (by omega)).trans (World.alloc_heap_new _ _)
                  have HG := hide GG
                  clear hl hl1 hJ hoK hsz ho hlen hpfx hat hq1 hq2 hq3 hbx hej hzs hrec i8 o8 GG hLk
                  generalize (U.alloc (.cells #[.int .i64 (tk % 256), .slice av mv cv] 30)).putObj (w7.heap.size + 1) (.loop (r .busy none)) = W11 at HI HG oX oK xb ⊢
                  obtain ⟨s0, s1⟩ := boxed2 xb
                  obtain ⟨bl, ol, hal, hcel⟩ := (HE.out.below HI.out.st.bel).hrd (by omega)
                  obtain ⟨a, m0, c, k1, k2, k3⟩ := hcel kq hkn
                  rw [HEJ.out] at k1 k3
                  simp only at k1 k3
                  subst hal
                  clear hcel
                  have hm0 := k3.hlen
                  have k4 : Src W11 a (min m0 65535) c zs := by
                    have h := k3.head (min m0 65535) (Nat.min_le_left _ _)
                    have e1 : xk.take (min m0 65535) = zs := by rw [← HZS.out]; exact take_min hm0
                    rwa [e1] at h
                  obtain ⟨mm, hmm⟩ : ∃ mm, min m0 65535 = mm := ⟨_, rfl⟩
                  rw [hmm] at k4
                  have HMM := hide hmm
                  clear hmm hm0
                  have i0 := (HI.out.st.get 3 rfl).cell
                  have i1 := (HI.out.st.get 2 rfl).cell
                  have i2 := (HI.out.st.get 0 rfl).cell
                  have iF := (HI.out.st.get 3 rfl).frozen
                  have hSt : TAt E1.heap.size V.heap.size U.heap.size w.heap.size bl (ol + kq * 2) (kq : Int) (wh : Int) (tk % 256) tk av mv cv nl cl a m0 c mm ol zs W11.drew := ⟨i0, i1, s0, s1, i2, k1, k2, (OwnB.toSrc oX.out HKZ.out).drewN 1, k4.drewN 1⟩
                  have K3 := hide k3
                  clear i0 i1 i2 s0 s1 k1 k2 k3 k4 xb
                  have mI : (kq : Int) < (nl : Int) := by omega
                  have mG : ¬ (wh : Int) ≤ (kq : Int) := by omega
                  have pxx : (tk % 256 != tk % 256) = false := by simp
                  have wP : IntKind.i64.wrap ((kq : Int) + 1) = (kq : Int) + 1 := i64_in _ (by omega)
                  gi_wp2
                  refine wpIn_region_heldR (TAt E1.heap.size V.heap.size U.heap.size w.heap.size bl (ol + kq * 2) (kq : Int) (wh : Int) (tk % 256) tk av mv cv nl cl a m0 c mm ol zs) (fun ⟨_, _, h⟩ => h) (by kernel_rfl) (by kernel_rfl) ?_
                  refine wpAnyH_take (i := 0) (v := ?_) rfl (by kernel_rfl) (by kernel_rfl) (by kernel_rfl) (fun _ _ _ h => h) (Or.inl ⟨by rfl, ?_⟩) (by assumption) ?_
                  rotate_left
                  · intro wq hSq
                    obtain ⟨r0, r1, r2, r3, r4, r5, r6, r7, r8⟩ := hSq
                    go_simp
                    try with_reducible rfl
                  simp only [List.getElem_toArray, List.getElem_cons_zero, Act.put, List.setIfInBounds_toArray, List.set_cons_zero, List.set_cons_succ]
                  refine wpAnyH_take (i := 1) (v := ?_) rfl (by kernel_rfl) (by kernel_rfl) (by kernel_rfl) (fun _ _ _ h => h) (Or.inl ⟨by rfl, ?_⟩) (by assumption) ?_
                  rotate_left
                  · intro wq hSq
                    obtain ⟨r0, r1, r2, r3, r4, r5, r6, r7, r8⟩ := hSq
                    go_simp
                    try with_reducible rfl
                  simp only [List.getElem_toArray, List.getElem_cons_succ, List.getElem_cons_zero, Act.put, List.setIfInBounds_toArray, List.set_cons_zero, List.set_cons_succ]
                  refine wpAnyH_take (i := 2) (v := .bool false) rfl (by kernel_rfl) (by kernel_rfl) (by kernel_rfl) (fun _ _ _ h => h) (Or.inl ⟨by rfl, ?_⟩) (by assumption) ?_
                  · intro wq hSq
                    obtain ⟨r0, r1, r2, r3, r4, r5, r6, r7, r8⟩ := hSq
                    go_simp
                  simp only [List.getElem_toArray, List.getElem_cons_succ, List.getElem_cons_zero, Act.put, List.setIfInBounds_toArray, List.set_cons_zero, List.set_cons_succ]
                  refine wpAnyH_take (i := 3) (v := ?_) rfl (by kernel_rfl) (by kernel_rfl) (by kernel_rfl) (fun _ _ _ h => h) (Or.inl ⟨by rfl, ?_⟩) (by assumption) ?_
                  rotate_left
                  · intro wq hSq
                    obtain ⟨r0, r1, r2, r3, r4, r5, r6, r7, r8⟩ := hSq
                    go_simp
                    try with_reducible rfl
                  simp only [List.getElem_toArray, List.getElem_cons_succ, List.getElem_cons_zero, Act.put, List.setIfInBounds_toArray, List.set_cons_zero, List.set_cons_succ]
                  refine wpAnyH_take (i := 4) (v := ?_) rfl (by kernel_rfl) (by kernel_rfl) (by kernel_rfl) (fun _ _ _ h => h) (Or.inl ⟨by rfl, ?_⟩) (by assumption) ?_
                  rotate_left
                  · intro wq hSq
                    obtain ⟨r0, r1, r2, r3, r4, r5, r6, r7, r8⟩ := hSq
                    go_simp
                    try with_reducible rfl
                  simp only [List.getElem_toArray, List.getElem_cons_succ, List.getElem_cons_zero, Act.put, List.setIfInBounds_toArray, List.set_cons_zero, List.set_cons_succ]
                  refine wpAnyH_take (i := 5) (v := ?_) rfl (by kernel_rfl) (by kernel_rfl) (by kernel_rfl) (fun _ _ _ h => h) (Or.inl ⟨by rfl, ?_⟩) (by assumption) ?_
                  rotate_left
                  · intro wq hSq
                    obtain ⟨r0, r1, r2, r3, r4, r5, r6, r7, r8⟩ := hSq
                    go_simp
                    try with_reducible rfl
                  simp only [List.getElem_toArray, List.getElem_cons_succ, List.getElem_cons_zero, Act.put, List.setIfInBounds_toArray, List.set_cons_zero, List.set_cons_succ]
                  refine wpAnyH_take (i := 6) (v := ?_) rfl (by kernel_rfl) (by kernel_rfl) (by kernel_rfl) (fun _ _ _ h => h) (Or.inl ⟨by rfl, ?_⟩) (by assumption) ?_
                  rotate_left
                  · intro wq hSq
                    obtain ⟨r0, r1, r2, r3, r4, r5, r6, r7, r8⟩ := hSq
                    go_simp
                    try with_reducible rfl
                  simp only [List.getElem_toArray, List.getElem_cons_succ, List.getElem_cons_zero, Act.put, List.setIfInBounds_toArray, List.set_cons_zero, List.set_cons_succ]
                  refine wpAnyH_take (i := 7) (v := ?_) rfl (by kernel_rfl) (by kernel_rfl) (by kernel_rfl) (fun _ _ _ h => h) (Or.inl ⟨by rfl, ?_⟩) (by assumption) ?_
                  rotate_left
                  · intro wq hSq
                    obtain ⟨r0, r1, r2, r3, r4, r5, r6, r7, r8⟩ := hSq
                    go_simp
                    try with_reducible rfl
                  simp only [List.getElem_toArray, List.getElem_cons_succ, List.getElem_cons_zero, Act.put, List.setIfInBounds_toArray, List.set_cons_zero, List.set_cons_succ]
                  refine wpAnyH_take (i := 8) (v := ?_) rfl (by kernel_rfl) (by kernel_rfl) (by kernel_rfl) (fun _ _ _ h => h) (Or.inl ⟨by rfl, ?_⟩) (by assumption) ?_
                  rotate_left
                  · intro wq hSq
                    obtain ⟨r0, r1, r2, r3, r4, r5, r6, r7, r8⟩ := hSq
                    go_simp
                    try with_reducible rfl
                  simp only [List.getElem_toArray, List.getElem_cons_succ, List.getElem_cons_zero, Act.put, List.setIfInBounds_toArray, List.set_cons_zero, List.set_cons_succ]
                  refine wpAnyH_take (i := 9) (v := ?_) rfl (by kernel_rfl) (by kernel_rfl) (by kernel_rfl) (fun _ _ _ h => h) (Or.inl ⟨by rfl, ?_⟩) (by assumption) ?_
                  rotate_left
                  · intro wq hSq
                    obtain ⟨r0, r1, r2, r3, r4, r5, r6, r7, r8⟩ := hSq
                    go_simp
                    try with_reducible rfl
                  simp only [List.getElem_toArray, List.getElem_cons_succ, List.getElem_cons_zero, Act.put, List.setIfInBounds_toArray, List.set_cons_zero, List.set_cons_succ]
                  refine wpAnyH_ready (rs := [10]) (by kernel_rfl) (by simp) ?_
                  refine AllReadyH.cons rfl (fun Kq hKq => ?_) AllReadyH.nil
                  go_simp
                  refine (right_any tk a m0 c xk _ (K3.out.drewN 1)).mono ?_
                  rintro e w9 ⟨m9, rfl, hm9, _, B9⟩
                  rw [HMM.out] at hm9
                  subst hm9
                  have hS9 := hSt.below B9
                  have B9' : Below W11.heap.size W11 w9 := ⟨B9.os, B9.tape, B9.output, B9.size, B9.block⟩
                  refine hKq.out _ _ hS9 (fun hHeld => ?_)
                  clear hKq Kq hSt hHeld
                  refine wpAnyH_take (i := 11) (v := ?_) rfl (by kernel_rfl) (by kernel_rfl) (by kernel_rfl) (fun _ _ _ h => h) (Or.inl ⟨by rfl, ?_⟩) (by assumption) ?_
                  rotate_left
                  · intro wq hSq
                    obtain ⟨r0, r1, r2, r3, r4, r5, r6, r7, r8⟩ := hSq
                    go_simp
                    try with_reducible rfl
                  simp only [List.getElem_toArray, List.getElem_cons_succ, List.getElem_cons_zero, Act.put, List.setIfInBounds_toArray, List.set_cons_zero, List.set_cons_succ]
                  refine wpAnyH_take (i := 12) (v := .bool false) rfl (by kernel_rfl) (by kernel_rfl) (by kernel_rfl) (fun _ _ _ h => h) (Or.inl ⟨by rfl, ?_⟩) (by assumption) ?_
                  · intro wq hSq
                    obtain ⟨r0, r1, r2, r3, r4, r5, r6, r7, r8⟩ := hSq
                    go_simp
                  simp only [List.getElem_toArray, List.getElem_cons_succ, List.getElem_cons_zero, Act.put, List.setIfInBounds_toArray, List.set_cons_zero, List.set_cons_succ]
                  refine wpAnyH_take (i := 13) (v := ?_) rfl (by kernel_rfl) (by kernel_rfl) (by kernel_rfl) (fun _ _ _ h => h) (Or.inl ⟨by rfl, ?_⟩) (by assumption) ?_
                  rotate_left
                  · intro wq hSq
                    obtain ⟨r0, r1, r2, r3, r4, r5, r6, r7, r8⟩ := hSq
                    go_simp
                    try with_reducible rfl
                  simp only [List.getElem_toArray, List.getElem_cons_succ, List.getElem_cons_zero, Act.put, List.setIfInBounds_toArray, List.set_cons_zero, List.set_cons_succ]
                  refine wpAnyH_take (i := 14) (v := ?_) rfl (by kernel_rfl) (by kernel_rfl) (by kernel_rfl) (fun _ _ _ h => h) (Or.inl ⟨by rfl, ?_⟩) (by assumption) ?_
                  rotate_left
                  · intro wq hSq
                    obtain ⟨r0, r1, r2, r3, r4, r5, r6, r7, r8⟩ := hSq
                    go_simp
                    try with_reducible rfl
                  simp only [List.getElem_toArray, List.getElem_cons_succ, List.getElem_cons_zero, Act.put, List.setIfInBounds_toArray, List.set_cons_zero, List.set_cons_succ]
                  refine wpAnyH_take (i := 15) (v := ?_) rfl (by kernel_rfl) (by kernel_rfl) (by kernel_rfl) (fun _ _ _ h => h) (Or.inl ⟨by rfl, ?_⟩) (by assumption) ?_
                  rotate_left
                  · intro wq hSq
                    obtain ⟨r0, r1, r2, r3, r4, r5, r6, r7, r8⟩ := hSq
                    go_simp
                    try with_reducible rfl
                  simp only [List.getElem_toArray, List.getElem_cons_succ, List.getElem_cons_zero, Act.put, List.setIfInBounds_toArray, List.set_cons_zero, List.set_cons_succ]
                  refine wpAnyH_take (i := 16) (v := ?_) rfl (by kernel_rfl) (by kernel_rfl) (by kernel_rfl) (fun _ _ _ h => h) (Or.inl ⟨by rfl, ?_⟩) (by assumption) ?_
                  rotate_left
                  · intro wq hSq
                    obtain ⟨r0, r1, r2, r3, r4, r5, r6, r7, r8⟩ := hSq
                    go_simp
                    try with_reducible rfl
                  simp only [List.getElem_toArray, List.getElem_cons_succ, List.getElem_cons_zero, Act.put, List.setIfInBounds_toArray, List.set_cons_zero, List.set_cons_succ]
                  refine wpAnyH_take (i := 17) (v := .string (strOfNums zs)) rfl (by kernel_rfl) (by kernel_rfl) (by kernel_rfl) (fun _ _ _ h => h) (Or.inl ⟨by rfl, ?_⟩) (by assumption) ?_
                  · intro wq hSq
                    obtain ⟨r0, r1, r2, r3, r4, r5, r6, r7, r8⟩ := hSq
                    have rt := r7.text
                    go_simp
                  simp only [List.getElem_toArray, List.getElem_cons_succ, List.getElem_cons_zero, Act.put, List.setIfInBounds_toArray, List.set_cons_zero, List.set_cons_succ]
                  refine wpAnyH_take (i := 18) (v := ?_) rfl (by kernel_rfl) (by kernel_rfl) (by kernel_rfl) (fun _ _ _ h => h) (Or.inl ⟨by rfl, ?_⟩) (by assumption) ?_
                  rotate_left
                  · intro wq hSq
                    obtain ⟨r0, r1, r2, r3, r4, r5, r6, r7, r8⟩ := hSq
                    go_simp
                    try with_reducible rfl
                  simp only [List.getElem_toArray, List.getElem_cons_succ, List.getElem_cons_zero, Act.put, List.setIfInBounds_toArray, List.set_cons_zero, List.set_cons_succ]
                  refine wpAnyH_take (i := 19) (v := ?_) rfl (by kernel_rfl) (by kernel_rfl) (by kernel_rfl) (fun _ _ _ h => h) (Or.inl ⟨by rfl, ?_⟩) (by assumption) ?_
                  rotate_left
                  · intro wq hSq
                    obtain ⟨r0, r1, r2, r3, r4, r5, r6, r7, r8⟩ := hSq
                    go_simp
                    try with_reducible rfl
                  simp only [List.getElem_toArray, List.getElem_cons_succ, List.getElem_cons_zero, Act.put, List.setIfInBounds_toArray, List.set_cons_zero, List.set_cons_succ]
                  refine wpAnyH_take (i := 20) (v := ?_) rfl (by kernel_rfl) (by kernel_rfl) (by kernel_rfl) (fun _ _ _ h => h) (Or.inl ⟨by rfl, ?_⟩) (by assumption) ?_
                  rotate_left
                  · intro wq hSq
                    obtain ⟨r0, r1, r2, r3, r4, r5, r6, r7, r8⟩ := hSq
                    go_simp
                    try with_reducible rfl
                  simp only [List.getElem_toArray, List.getElem_cons_succ, List.getElem_cons_zero, Act.put, List.setIfInBounds_toArray, List.set_cons_zero, List.set_cons_succ]
                  refine wpAnyH_take (i := 21) (v := ?_) rfl (by kernel_rfl) (by kernel_rfl) (by kernel_rfl) (fun _ _ _ h => h) (Or.inl ⟨by rfl, ?_⟩) (by assumption) ?_
                  rotate_left
                  · intro wq hSq
                    obtain ⟨r0, r1, r2, r3, r4, r5, r6, r7, r8⟩ := hSq
                    go_simp
                    try with_reducible rfl
                  simp only [List.getElem_toArray, List.getElem_cons_succ, List.getElem_cons_zero, Act.put, List.setIfInBounds_toArray, List.set_cons_zero, List.set_cons_succ]
                  refine wpAnyH_ready (rs := [22]) (by kernel_rfl) (by simp) ?_
                  refine AllReadyH.cons rfl (fun Kq hKq => ?_) AllReadyH.nil
                  go_simp
                  refine (right_any tk a m0 c xk _ (K3.out.below B9')).mono ?_
                  rintro e w10 ⟨m10, rfl, hm10, _, B10⟩
                  rw [HMM.out] at hm10
                  subst hm10
                  have hS10 := hS9.below B10
                  refine hKq.out _ _ hS10 (fun hHeld => ?_)
                  clear hKq Kq hS9 hHeld
                  refine wpAnyH_take (i := 23) (v := ?_) rfl (by kernel_rfl) (by kernel_rfl) (by kernel_rfl) (fun _ _ _ h => h) (Or.inl ⟨by rfl, ?_⟩) (by assumption) ?_
                  rotate_left
                  · intro wq hSq
                    obtain ⟨r0, r1, r2, r3, r4, r5, r6, r7, r8⟩ := hSq
                    go_simp
                    try with_reducible rfl
                  simp only [List.getElem_toArray, List.getElem_cons_succ, List.getElem_cons_zero, Act.put, List.setIfInBounds_toArray, List.set_cons_zero, List.set_cons_succ]
                  refine wpAnyH_take (i := 24) (v := .string (strOfNums zs)) rfl (by kernel_rfl) (by kernel_rfl) (by kernel_rfl) (fun _ _ _ h => h) (Or.inl ⟨by rfl, ?_⟩) (by assumption) ?_
                  · intro wq hSq
                    obtain ⟨r0, r1, r2, r3, r4, r5, r6, r7, r8⟩ := hSq
                    have rt := r8.text
                    go_simp
                  simp only [List.getElem_toArray, List.getElem_cons_succ, List.getElem_cons_zero, Act.put, List.setIfInBounds_toArray, List.set_cons_zero, List.set_cons_succ]
                  refine wpAnyH_take (i := 25) (v := .bool false) rfl (by kernel_rfl) (by kernel_rfl) (by kernel_rfl) (fun _ _ _ h => h) (Or.inl ⟨by rfl, ?_⟩) (by assumption) ?_
                  · intro wq hSq
                    obtain ⟨r0, r1, r2, r3, r4, r5, r6, r7, r8⟩ := hSq
                    go_simp
                  simp only [List.getElem_toArray, List.getElem_cons_succ, List.getElem_cons_zero, Act.put, List.setIfInBounds_toArray, List.set_cons_zero, List.set_cons_succ]
                  refine wpAnyH_take (i := 26) (v := ?_) rfl (by kernel_rfl) (by kernel_rfl) (by kernel_rfl) (fun _ _ _ h => h) (Or.inl ⟨by rfl, ?_⟩) (by assumption) ?_
                  rotate_left
                  · intro wq hSq
                    obtain ⟨r0, r1, r2, r3, r4, r5, r6, r7, r8⟩ := hSq
                    go_simp
                    try with_reducible rfl
                  simp only [List.getElem_toArray, List.getElem_cons_succ, List.getElem_cons_zero, Act.put, List.setIfInBounds_toArray, List.set_cons_zero, List.set_cons_succ]
                  refine wpAnyH_done (by kernel_rfl) ?_ _
                  have B11 : Below W11.heap.size W11 w10 := B9'.trans (B10.mono B9'.size)
                  have HI2 := hide (HI.out.below B11)
                  have HG2 := hide (HG.out.belowA B11)
                  have oK2 := hide (row_below oK.out B11)
                  clear HI HG oK oX B9 B9' B10 B11 hS10 iF K3
                  have i0 := (HI2.out.st.get 3 rfl).cell
                  have iF := (HI2.out.st.get 3 rfl).frozen
                  gi_wp2
                  have z := HI2.out.set 3 rfl (.int .i64 ((kq : Int) + 1))
                  have g3 := HG2.out.step (grownBy_setCell' w10 E1.heap.size (.int .i64 ((kq : Int) + 1))) (fun _ h => h) (fun q hq => by cases hq; exact .inl rfl)
                  have g4 := g3.step (grownBy_putObj' _ (w7.heap.size + 1) (.loop (r .ready none))) (fun _ h => h) (fun q hq => by cases hq; exact .inr rfl)
                  refine ⟨z.loop, .inl ⟨rfl, ⟨by rw [PL.out]; exact z.put _, ?_⟩, ⟨g4.size, fun k h1 h2 _ => g4.same k h2 (fun hs => by omega)⟩⟩⟩
                  have G5 : GB (fun q => q = E1.heap.size ∨ q = w7.heap.size + 1) w10 _ := (((GB.refl (fun q => q = E1.heap.size ∨ q = w7.heap.size + 1) w10).step (grownBy_setCell' w10 E1.heap.size (.int .i64 ((kq : Int) + 1))) (fun _ h => h) (fun q hq => by cases hq; exact .inl rfl)).step (grownBy_putObj' _ (w7.heap.size + 1) (.loop (r .ready none))) (fun _ h => h) (fun q hq => by cases hq; exact .inr rfl))
                  exact G5.rowNe oK2.out (fun q hq hs => by have h1 := OwnB.lt HKP.out q hq; omega)
              · rintro e W' ⟨⟨v, rfl⟩, ⟨ys, hys, hI, _⟩ | ⟨pre, _, hI⟩⟩
                · have hl := hI.loop
                  rw [← hrec] at hl
                  refine range_done hl ?_
                  rw [hrec]
                  have h2 := hide (hI.put (r .exhausted none)).st
                  have yl : ys.length = wh := by rw [← HPL.out, ← hys, List.length_map]
                  rw [yl] at h2
                  clear hl hI hrec i8 o8
                  generalize W'.putObj (w7.heap.size + 1) (.loop (r .exhausted none)) = V9 at h2 ⊢
                  have cI := (h2.out.get 3 rfl).cell
                  have cW := (h2.out.get 2 rfl).cell
                  have cR := (h2.out.get 1 rfl).cell
                  have fR := (h2.out.get 1 rfl).frozen
                  have kk : ((wh : Int) == (wh : Int)) = true := by simp
                  go_wp2_with fail
                  show LeavesInM _ _ _ _ _ _ _ _ _
                  exact torn_leave w _ _ w7.heap.size _ (h2.out.set 1 rfl _) (w.heap.size + 1) rfl rfl
                · exact hI.elim

end Go.Proofs.YtilkbjohekhjcaaDoor
