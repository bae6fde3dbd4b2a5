/-
  der.All: all elements that stand one behind the other, or the place of the first that is wrong.
-/
import Derived.Test.YtnabmdpgibnkaabDoorYAllBase
namespace Go.Proofs.YtnabmdpgibnkaabDoor
open Go.RowKit Go.Shelf Go.IntWalk
attribute [local go_sem] Oper.semAt_some
attribute [local go_sem ↓] appOf_of

set_option maxRecDepth 100000 in
set_option maxHeartbeats 4000000 in
theorem all_in (ao : Option Addr) (n cap : Nat) (xs : List Int) (w : World) (hs : Src w ao n cap xs) (hN : (n : Int) ≤ 4398046511104) :
    CallsIn Fence.wide 4 Tryd.prog 32 #[.slice ao n cap] w fun e w' => ∃ v pl err, e = .returned (.tuple #[v, .int .i64 pl, .int .i64 err]) ∧ AllAns w' w.heap.size xs v pl err ∧ Below w.heap.size w w' := by
  obtain ⟨i0, hi, hz0, hz1, hz2⟩ := info_parts Tryd.infoE
  refine callsIn_of_wp_marks Tryd.func32 rfl trivial ?_ rfl
  simp only [Tryd.ntmps32, List.size_toArray, List.length_cons, List.length_nil, Nat.reduceAdd, Nat.reduceSub, Array.replicate_succ, Array.replicate_zero, List.push_toArray, List.append_toArray, List.nil_append, List.cons_append]
  gi_wp2_with (refine ⟨trivial, ?_⟩; gi_at_call 71; refine (spans_in _ _ _ _ _).mono ?_; rintro e w' ⟨rfl, rfl⟩)
  have hnc := hs.hcap
  have hl := hs.hlen
  have b0 := (((Boxed.new w 22 (.slice ao n cap)).alloc (.cells #[.slice none 0 0] 73)).alloc (.cells #[.int .i64 0] 3)).alloc (.cells #[.slice ao n cap] 22)
  have b1 := ((Boxed.new (w.alloc (.cells #[.slice ao n cap] 22)) 73 (.slice none 0 0)).alloc (.cells #[.int .i64 0] 3)).alloc (.cells #[.slice ao n cap] 22)
  have b2 := (Boxed.new ((w.alloc (.cells #[.slice ao n cap] 22)).alloc (.cells #[.slice none 0 0] 73)) 3 (.int .i64 0)).alloc (.cells #[.slice ao n cap] 22)
  have b3 := Boxed.new (((w.alloc (.cells #[.slice ao n cap] 22)).alloc (.cells #[.slice none 0 0] 73)).alloc (.cells #[.int .i64 0] 3)) 22 (.slice ao n cap)
  simp only [World.size_alloc] at b1 b2 b3
  have hB0 : Below w.heap.size w ((((w.alloc (.cells #[.slice ao n cap] 22)).alloc (.cells #[.slice none 0 0] 73)).alloc (.cells #[.int .i64 0] 3)).alloc (.cells #[.slice ao n cap] 22)) :=
    ((((Below.refl _ w).alloc (Nat.le_refl _) _).alloc (by simp) _).alloc (by simp; omega) _).alloc (by simp; omega) _
  have hsz : ((((w.alloc (.cells #[.slice ao n cap] 22)).alloc (.cells #[.slice none 0 0] 73)).alloc (.cells #[.int .i64 0] 3)).alloc (.cells #[.slice ao n cap] 22)).heap.size = w.heap.size + 4 := by simp
  obtain ⟨W0, hW0⟩ : ∃ W0, (((w.alloc (.cells #[.slice ao n cap] 22)).alloc (.cells #[.slice none 0 0] 73)).alloc (.cells #[.int .i64 0] 3)).alloc (.cells #[.slice ao n cap] 22) = W0 := ⟨_, rfl⟩
  rw [hW0] at b0 b1 b2 b3 hB0 hsz ⊢
  clear hW0
  refine wpIn_rangeFunc_ownH rfl (by decide) (gf := 104) (lb := #[.pointer (some ⟨w.heap.size + 1 + 1 + 1, 0, none⟩)]) rfl trivial (enters_of Tryd.func104 (by kernel_rfl) rfl)
    (spans_stops 3 (by decide) (w.heap.size + 1 + 1 + 1) ao n cap xs (by omega) w W0 hs hB0 b3.cell) KpB.trans (KpB.put (by omega)) (Below.refl _ _) (fun _ => rfl)
    (fun (pre : List (Pl xs)) W => AInv w xs ao n cap (pre.map Subtype.val) W)
    (fun _ _ _ => False)
    (fun _ _ _ _ h hg hr => h.kept hg (fun r e => ⟨by have := (hr r e).1; omega, (hr r e).2⟩))
    (fun _ _ _ _ _ h _ _ => h)
    ⟨⟨_, [], b1, World.ownsRow_nil _ _ _ _, trivial, by simp, EApart.nil⟩, b0, b2, b3, hB0⟩
    (fun x a' W => ∃ Bx, w.heap.size + 1 + 1 < Bx ∧ W.heap[Bx]? = some (Obj.cells #[.int .i64 (findS (xs.drop x.1)).1, .int .i64 (findS (xs.drop x.1)).2.1, .int .i64 (findS (xs.drop x.1)).2.2.1] 130 (0, 0)) ∧ a' = { tmps := #[.slice ao n cap, .pointer (some ⟨w.heap.size, 0, none⟩), .slice none 0 0, .int .i64 0, .int .i64 0, .pointer (some ⟨w.heap.size + 1, 0, none⟩), .pointer (some ⟨w.heap.size + 1 + 1, 0, none⟩), .int .i64 (x.1 : Int), .pointer (some ⟨Bx, 0, none⟩), undef, undef, .slice ao n cap, .func (.func 104) #[] #[.pointer (some ⟨w.heap.size + 1 + 1 + 1, 0, none⟩)], .int .i64 (x.1 : Int), .agg #[.int .i64 (findS (xs.drop x.1)).1, .int .i64 (findS (xs.drop x.1)).2.1, .int .i64 (findS (xs.drop x.1)).2.2.1], undef, undef, undef, undef, undef, undef, undef, undef, undef, undef, undef, undef, undef, undef, undef, undef, undef, undef, undef, undef, undef, undef, undef, undef, undef, undef, undef], defers := [] })
    (fun x a' _ X Y row hx hg hr => by
      obtain ⟨Bx, h1, h2, h3⟩ := hx
      refine ⟨Bx, h1, (hg.block Bx (Array.getElem?_eq_some_iff.1 h2).1 (fun e => ?_)).trans h2, h3⟩
      obtain ⟨_, o, ho, hf⟩ := hr Bx e.symm
      rw [h2] at ho; cases ho; simp [Obj.isCells] at hf)
    ?assign ?body ?done ?stop
  case assign =>
    rintro l pre x W K hI hK
    simp only [encP]
    gi_wp2
    exact hK _ _ ((KeepsOthers.alloc _ _).from _) (KpB.grown (World.grownBy_alloc _ _ none) hI.below.size (by intro r e; cases e)) (hI.kept (World.grownBy_alloc _ _ none) (by intro r e; cases e)) ⟨W.heap.size, hI.fin.lt, World.alloc_heap_new _ _, rfl⟩
  case body =>
    rintro l pre x a' W hl' ⟨r, hr⟩ hI ⟨Bx, hBx, bX, rfl⟩ hlt
    obtain ⟨⟨v, cs, bL, hrow, hm, hnil⟩, bB, bE, bS, hB⟩ := hI
    have hx := x.2
    obtain ⟨p, hp⟩ : ∃ p, x.val = p := ⟨_, rfl⟩
    have HX := hide hp
    rw [hp] at hx bX ⊢
    obtain ⟨hp1, hp2⟩ := hx
    clear hp
    have hs1 := (hs.below hB).cut p n (by omega) (Nat.le_refl _)
    have ed : (xs.take n).drop p = xs.drop p := by rw [List.take_of_length_le (by omega)]
    rw [ed] at hs1
    have sl := fun X => slice_lo X ao n cap p p rfl (by omega)
    generalize cutA ao cap p = A at hs1 sl
    rcases findS_cases (xs.drop p) hs1.hbyt with ⟨err, h1, h2, h3, he⟩ | ⟨a, b, he, h1, h2, h3, h4, h5⟩
    · rw [he] at hp2; exact (h1 hp2).elim
    rw [he] at bX ⊢
    obtain ⟨t, ht⟩ : ∃ t, (xs.drop p).getD 0 0 = t := ⟨_, rfl⟩
    rw [ht] at he bX ⊢
    simp only at bX ⊢
    have HE := hide he
    have HEL := hide (show elS xs p = (t, ((xs.drop p).take b).drop a) by unfold elS contS; rw [he]; simp)
    have hbl : b ≤ n - p := by simp [hl] at h4; omega
    have c0 : W.cell? ⟨Bx, 0, none⟩ = some (.int .i64 t) := by simp [World.cell?, bX]
    have c1 : W.cell? ⟨Bx, 1, none⟩ = some (.int .i64 a) := by simp [World.cell?, bX]
    have c2 : W.cell? ⟨Bx, 2, none⟩ = some (.int .i64 b) := by simp [World.cell?, bX]
    have cL := bL.cell
    have cB := bB.cell
    generalize hps : pre.map Subtype.val = ps at hrow hm hnil bE
    have hlt' : ps.length + 1 ≤ n := by rw [← hps, List.length_map]; omega
    have HPS := hide (show (pre ++ [x]).map Subtype.val = ps ++ [p] by rw [List.map_append, hps]; simp [HX.out])
    have HEN := hide (show ((endS xs (ps ++ [p]) : Nat) : Int) = (p : Int) + (b : Int) by rw [endS_snoc, he]; simp)
    clear he hp2 ed ht h4 hl hps
    gi_wp2
    rename_i K hK
    have key : ∀ (w1 w2 : World) (ao' : Option Addr) (c' g' cap' : Nat), Below W.drew.heap.size W.drew w1 → OwnB w1 W.drew.heap.size (.slice ao' (b - a) c') (((xs.drop p).take b).drop a) →
        (w1.alloc (.cells #[.int .i64 t, .slice ao' (b - a) c'] 70)).grownBy w2 v.ownBlock → Boxed w2 (w.heap.size + 1) 73 v →
        Boxed (w2.setCell ⟨w.heap.size + 1, 0, none⟩ (.slice (some ⟨g', 0, none⟩) (ps.length + 1) cap')) (w.heap.size + 1) 73 (.slice (some ⟨g', 0, none⟩) (ps.length + 1) cap') →
        (w2.setCell ⟨w.heap.size + 1, 0, none⟩ (.slice (some ⟨g', 0, none⟩) (ps.length + 1) cap')).ownsRow w.heap.size 70 2 (.slice (some ⟨g', 0, none⟩) (ps.length + 1) cap') (ps.length + 1) (cs ++ [.int .i64 t, .slice ao' (b - a) c']) →
        KeepsOthers w1 (w2.setCell ⟨w.heap.size + 1, 0, none⟩ (.slice (some ⟨g', 0, none⟩) (ps.length + 1) cap')) → Below w.heap.size w1 (w2.setCell ⟨w.heap.size + 1, 0, none⟩ (.slice (some ⟨g', 0, none⟩) (ps.length + 1) cap')) →
        K { tmps := #[.slice ao n cap, .pointer (some ⟨w.heap.size, 0, none⟩), .slice none 0 0, .int .i64 0, .int .i64 0, .pointer (some ⟨w.heap.size + 1, 0, none⟩), .pointer (some ⟨w.heap.size + 1 + 1, 0, none⟩), .int .i64 p, .pointer (some ⟨Bx, 0, none⟩), undef, undef, .slice ao n cap, .func (.func 104) #[] #[.pointer (some ⟨w.heap.size + 1 + 1 + 1, 0, none⟩)], .int .i64 p, .agg #[.int .i64 t, .int .i64 a, .int .i64 b], v, .agg #[.int .i64 t, .int .i64 a, .int .i64 b], .slice ao n cap, .int .i64 p, .slice A (n - p) (cap - p), .agg #[.int .i64 t, .slice ao' (b - a) c'], .slice (some ⟨w1.heap.size, 0, none⟩) 1 1, .slice (some ⟨g', 0, none⟩) (ps.length + 1) cap', undef, undef, undef, undef, undef, undef, undef, undef, undef, undef, undef, undef, undef, undef, undef, undef, undef, undef, undef], defers := [] }
          (w2.setCell ⟨w.heap.size + 1, 0, none⟩ (.slice (some ⟨g', 0, none⟩) (ps.length + 1) cap')) := by
      intro w1 w2 ao' c' g' cap' B1 ho hgrow hv1 hv2 hr2 hk2 hb2
      obtain ⟨W3, e3⟩ : ∃ W3, w2.setCell ⟨w.heap.size + 1, 0, none⟩ (.slice (some ⟨g', 0, none⟩) (ps.length + 1) cap') = W3 := ⟨_, rfl⟩
      obtain ⟨s1, s2, s3⟩ := all_step bL hrow hm hnil.2 bB bE bS hB ⟨B1.os, B1.tape, B1.output, B1.size, B1.block⟩ hgrow hv1 hv2 hr2 hk2 hb2 ho p HEL.out e3
      rw [e3]
      have b3 := s1 Bx _ bX
      have c23 : W3.cell? ⟨Bx, 2, none⟩ = some (.int .i64 b) := by simp [World.cell?, b3]
      have cE := s2.cell
      have fE := s2.frozen
      obtain ⟨r1, r2, r3⟩ := s3 W0.heap.size ((p : Int) + (b : Int)) HEN.out.symm
      have R3 := hide r3
      clear b3 s1 s2 s3 e3 hv1 hv2 hr2 hk2 hb2 hgrow ho B1 r3
      refine hK _ _ ?_
      clear hK
      gi_wp2
      exact ⟨r1, r2, by show AInv w xs ao n cap ((pre ++ [x]).map Subtype.val) _; rw [HPS.out]; exact R3.out⟩
    have KEY := hide key
    have hrowd : W.drew.ownsRow w.heap.size 70 2 v ps.length cs := hrow
    have hbs := hB.size
    have bLd : Boxed W.drew (w.heap.size + 1) 73 v := bL
    clear key hK HPS HEN HX HEL HE hr hl' bE bB bS hm hnil hrow bX
    gi_region_with (refine ⟨trivial, ?_⟩; gi_at_call 70; refine (CallsIn.inRound l (callsIn_wide.2 (element_any t a b A (n - p) (cap - p) (xs.drop p) _ (by exact hs1.drewN 1) (by omega) h3 hbl))).mono ?_; rintro e w1 ⟨ao', c', rfl, ho, B1⟩; obtain ⟨g', cap', w2, hrun, hown', hgrow, hv1, hv2, hr2, hk2, hb2⟩ := app_el hi hz0 hz1 hz2 bLd hrowd (by omega) (by omega) B1 hbs t ao' (b - a) c'; have hc1 := hv1.cell; have hf1 := hv1.frozen; have bL1 : Boxed w1 (w.heap.size + 1) 73 v := bLd.kept (grown_of_below (r := none) B1) (by simp); have cL1 := bL1.cell; have hz1 := bL1.lt; have FIN := hide (KEY.out w1 w2 ao' c' g' cap' B1 ho hgrow hv1 hv2 hr2 hk2 hb2); clear B1 ho hgrow hv1 hv2 hr2 hk2 hb2 hown' bL1)
    all_goals exact FIN.out
  case done =>
    rintro D ys W hD hS hI hK
    have hI' : AInv w xs ao n cap (placesS xs 0) W := by have h := hI; rw [show ys.map Subtype.val = placesS xs 0 from hS] at h; exact h
    obtain ⟨⟨v, cs, bL, hrow, hm, hnil⟩, bB, bE, bS, hB⟩ := hI'
    clear hI hS
    obtain ⟨en, hen⟩ : ∃ en, endS xs (placesS xs 0) = en := ⟨_, rfl⟩
    rw [hen] at bE
    have HEN := hide hen
    have cB := bB.cell
    have cE := bE.cell
    have cL := bL.cell
    clear hen
    by_cases hlt : en < n
    · have hs1 := (hs.below hB).cut en n (by omega) (Nat.le_refl _)
      have ed : (xs.take n).drop en = xs.drop en := by rw [List.take_of_length_le (by omega)]
      rw [ed] at hs1
      have sl := fun X => slice_lo X ao n cap en en rfl (by omega)
      generalize cutA ao cap en = A at hs1 sl
      have hltI : (en : Int) < (n : Int) := by omega
      obtain ⟨f, hf⟩ : ∃ f, findS (xs.drop en) = f := ⟨_, rfl⟩
      have HF := hide hf
      clear hf ed
      gi_wp2_with (refine ⟨trivial, ?_⟩; gi_at_call 69; refine (callsIn_wide.2 (find_any _ _ _ (xs.drop en) _ (by exact hs1) (by omega))).mono ?_; rintro e w1 ⟨rfl, B1⟩; rw [HF.out]; unfold spanV; have cE1 : w1.cell? ⟨w.heap.size + 1 + 1, 0, none⟩ = some (.int .i64 en) := (B1.cell (p := ⟨w.heap.size + 1 + 1, 0, none⟩) bE.lt).trans cE; have hz := Nat.lt_of_lt_of_le bE.lt B1.size)
      gi_region
      have hKf : (w1.alloc (.cells #[.int .i64 f.1, .int .i64 f.2.1, .int .i64 f.2.2.1] 130)).drew.heap[D]? = some (.deferred (some [])) := (Below.heap_alloc w1 _ D (Nat.lt_of_lt_of_le (Array.getElem?_eq_some_iff.1 hK).1 B1.size)).trans ((B1.block D (Array.getElem?_eq_some_iff.1 hK).1).trans hK)
      gi_wp2
      refine ⟨by simp, .inl ⟨_, _, rfl, run_takeDeferred hKf, ?_⟩⟩
      refine ⟨.tuple #[.slice none 0 0, .int .i64 en, .int .i64 f.2.2.2], by simp [results, Tryd.results32, go_sem], _, _, _, rfl, ⟨by rw [HEN.out], fun _ => ⟨rfl, by rw [HEN.out, HF.out]⟩, fun h => absurd (by rw [HEN.out]; omega) h⟩, ?_⟩
      exact (((hB.trans (B1.mono hB.size)).alloc (Nat.le_trans hB.size B1.size) _).drew).trans (belowK_b (w := w) (Nat.le_refl _) _ D _ _ (by omega) hKf rfl rfl)
    · have hltI : ¬ (en : Int) < (n : Int) := by omega
      gi_wp2
      gi_region
      gi_wp2
      have hKf : W.drew.heap[D]? = some (.deferred (some [])) := hK
      refine ⟨by simp, .inl ⟨_, _, rfl, run_takeDeferred hKf, ?_⟩⟩
      have g0 := grownBy_putObj' W.drew D (.deferred none)
      have gD : W.grownBy (W.drew.putObj D (.deferred none)) (some D) := ⟨g0.os, g0.tape, g0.output, g0.size, g0.block⟩
      have hno : ∀ r, some D = some r → ∀ c e, W.heap[r]? ≠ some (Obj.cells c e (0, 0)) := by
        intro r e c t h; cases e; rw [hK] at h; cases h
      refine ⟨.tuple #[v, .int .i64 en, .int .i64 0], by simp [results, Tryd.results32, go_sem], _, _, _, rfl, ⟨by rw [HEN.out], fun h => absurd h (by rw [HEN.out]; omega), fun _ => ⟨rfl, cs, row_kept hrow gD (fun r e c => hno r e c _), hm.kept (fun s ys h => row_kept h gD (fun r e c => hno r e c _)), hnil⟩⟩, ?_⟩
      exact hB.drew.trans (belowK_b (w := w) (Nat.le_refl _) _ D _ _ (by omega) hKf rfl rfl)
  case stop =>
    rintro D c pre W _ _ h _
    exact h.elim

end Go.Proofs.YtnabmdpgibnkaabDoor
