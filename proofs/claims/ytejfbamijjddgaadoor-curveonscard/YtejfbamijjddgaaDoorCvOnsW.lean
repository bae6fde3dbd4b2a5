/-
  The statement CurveOns: its walk.
-/
import Derived.Test.YtejfbamijjddgaaDoorCvEnc
import Derived.Test.YtejfbamijjddgaaDoorCvNeg
import Derived.Test.YtejfbamijjddgaaDoorCrNeg
namespace Go.Proofs.YtejfbamijjddgaaDoor
open Go.RowKit Go.IntWalk
attribute [local go_sem ↓] ld_num st_num ld_pln st_pln ld_ops st_ops ld_pnt st_pnt ld_dig st_dig ld_tri st_tri eq_num ne_num eq_pnt ne_pnt bd_pnt ld_F st_F eq_F ld_a32 st_a32 ld_rpt st_rpt eq_rpt bd_rpt eq_dgs

/-- What stays while the law runs. -/
structure Oz (w : World) (L : List Value) (gq : Nat) (W : World) : Prop where
  p : Blk 25 W w.heap.size L
  q : Blk 27 W gq L
  cv : Cv W
  cn : Cn W
  bl : Below w.heap.size w W
theorem Oz.below {w W V : World} {L : List Value} {gq : Nat} (h : Oz w L gq W) (b : Below W.heap.size W V) : Oz w L gq V := ⟨h.p.below b, h.q.below b, h.cv.below b, h.cn.below b, below_then h.bl b⟩
theorem Cv.grown {w w' : World} {r : Option Nat} (h : Cv w) (hg : w.grownBy w' r) (hne : ∀ k, r = some k → 3 ≠ k ∧ 4 ≠ k ∧ 5 ≠ k) : Cv w' := by
  have hl := h.lt
  refine ⟨fun j v hv => ?_, fun j v hv => ?_, fun j v hv => ?_⟩
  · exact (World.cell?_of_block (hg.block _ hl.1 (fun e => (hne _ e.symm).1 rfl))).trans (h.co j v hv)
  · exact (World.cell?_of_block (hg.block _ hl.2.1 (fun e => (hne _ e.symm).2.1 rfl))).trans (h.on j v hv)
  · exact (World.cell?_of_block (hg.block _ hl.2.2 (fun e => (hne _ e.symm).2.2 rfl))).trans (h.li j v hv)
theorem Cn.lt {w : World} (h : Cn w) : 2 < w.heap.size ∧ 0 < w.heap.size ∧ 1 < w.heap.size := ⟨range_lt h.od, range_lt h.bx, range_lt h.by_⟩
theorem Cn.grown {w w' : World} {r : Option Nat} (h : Cn w) (hg : w.grownBy w' r) (hne : ∀ k, r = some k → 2 ≠ k ∧ 0 ≠ k ∧ 1 ≠ k) : Cn w' := by
  have hl := h.lt
  refine ⟨fun j v hv => ?_, fun j v hv => ?_, fun j v hv => ?_⟩
  · exact (World.cell?_of_block (hg.block _ hl.1 (fun e => (hne _ e.symm).1 rfl))).trans (h.od j v hv)
  · exact (World.cell?_of_block (hg.block _ hl.2.1 (fun e => (hne _ e.symm).2.1 rfl))).trans (h.bx j v hv)
  · exact (World.cell?_of_block (hg.block _ hl.2.2 (fun e => (hne _ e.symm).2.2 rfl))).trans (h.by_ j v hv)

theorem grown_drew {w w' : World} {r : Option Nat} (h : w.grownBy w' r) : w.grownBy w'.drew r := ⟨h.os, h.tape, h.output, h.size, h.block⟩

/-- What the last comparison reads. -/
theorem ons_S {W : World} {gx gq n2 c2 n3 c3 : Nat} {a2 a3 : Option Addr} {X Y X' Y' B : List Int} {f f' : Bool} (hX : X.length = 32) (hY : Y.length = 32) (hX' : X'.length = 32) (hY' : Y'.length = 32) (hx : Blk 25 W gx (pL X Y f)) (hq : Blk 27 W gq (pL X' Y' f')) (h2 : Src W a2 n2 c2 B) (h3 : Src W a3 n3 c3 B) :
    (ldA 25 (.pointer (some ⟨gx, 0, none⟩))).run Tryd.prog W = .ok (.agg (pL X Y f).toArray) W ∧ (ldA 27 (.pointer (some ⟨gq, 0, none⟩))).run Tryd.prog W = .ok (.agg (pL X' Y' f').toArray) W ∧ (convert 33 9 (.slice a2 n2 c2)).run Tryd.prog W = .ok (.string (strOfNums B)) W ∧ (convert 33 9 (.slice a3 n3 c3)).run Tryd.prog W = .ok (.string (strOfNums B)) W :=
  ⟨(pnt_ld hX hY hx).1, (rpt_ld hX' hY' hq).1, h2.text, h3.text⟩

structure Oe (W : World) (gx gq : Nat) (a2 : Option Addr) (n2 c2 : Nat) (a3 : Option Addr) (n3 c3 : Nat) (LN L : List Value) (B : List Int) : Prop where
  x : Blk 25 W gx LN
  q : Blk 27 W gq L
  s2 : Src W a2 n2 c2 B
  s3 : Src W a3 n3 c3 B
  cn : Cn W
theorem Oe.below {W V : World} {gx gq : Nat} {a2 : Option Addr} {n2 c2 : Nat} {a3 : Option Addr} {n3 c3 : Nat} {LN L : List Value} {B : List Int} (h : Oe W gx gq a2 n2 c2 a3 n3 c3 LN L B) (b : Below W.heap.size W V) : Oe V gx gq a2 n2 c2 a3 n3 c3 LN L B := ⟨h.x.below b, h.q.below b, h.s2.below b, h.s3.below b, h.cn.below b⟩
theorem Oe.drew {W : World} {gx gq : Nat} {a2 : Option Addr} {n2 c2 : Nat} {a3 : Option Addr} {n3 c3 : Nat} {LN L : List Value} {B : List Int} (h : Oe W gx gq a2 n2 c2 a3 n3 c3 LN L B) : Oe W.drew gx gq a2 n2 c2 a3 n3 c3 LN L B := ⟨h.x.heap rfl, h.q.heap rfl, h.s2.heap rfl, h.s3.heap rfl, h.cn.heap rfl⟩

theorem ne_own {v v' : Value} {m : Nat} (h : ∀ k, v.ownBlock = some k → m ≤ k) (h' : ∀ k, v'.ownBlock = some k → k < m) : v.ownBlock = none ∨ v.ownBlock ≠ v'.ownBlock := by
  cases hv : v.ownBlock with
  | none => exact .inl rfl
  | some k =>
    refine .inr fun e => ?_
    have h1 := h k hv
    have h2 := h' k e.symm
    omega

set_option maxRecDepth 100000 in
set_option maxHeartbeats 8000000 in
theorem ons_walk (X Y : List Int) (f : Bool) (w : World) (hC : Cv w) (hN : Cn w) (hX : X.length = 32) (hY : Y.length = 32) (dX : Dg 256 X) (dY : Dg 256 Y) :
    Calls Tryd.prog 3 #[.agg (pL X Y f).toArray] w fun e w' => e = .returned (.bool true) ∧ Below w.heap.size w w' := by
  have HTH : Hid (∀ W, Calls Tryd.prog 9 #[.agg (pL X Y f).toArray] W fun e w' => e = .returned (.agg (pL X Y f).toArray) ∧ Below W.heap.size W w') := fun W => theirs_any X Y f hX hY W
  have HRO : Hid (∀ W, Calls Tryd.prog 10 #[.agg (pL X Y f).toArray] W fun e w' => e = .returned (.bool (onP X Y f)) ∧ Below W.heap.size W w') := fun W => ron_any X Y hX hY dX dY f W
  have HCO : Hid (∀ W, Cv W → Calls Tryd.prog 14 #[.agg (pL X Y f).toArray] W fun e w' => e = .returned (.bool (onP X Y f)) ∧ Below W.heap.size W w') := fun W hW => on_any X Y f hX hY dX dY W hW
  have HNE : Hid (∀ W, Cv W → Calls Tryd.prog 11 #[.agg (pL X Y f).toArray] W fun e w' => e = .returned (.tuple #[.agg (pL (ngX X Y f) (ngY X Y f) (ngF X Y f)).toArray, .int .i64 (onE X Y f)]) ∧ Below W.heap.size W w') := fun W hW => neg_any X Y f hX hY dX dY W hW
  have HEN : Hid (∀ W, Cv W → Calls Tryd.prog 12 #[.agg (pL X Y f).toArray] W fun e w' => ∃ a n c, e = .returned (.tuple #[.slice a n c, .int .i64 (encE X Y f)]) ∧ OwnB w' W.heap.size (.slice a n c) (encB X Y f) ∧ Below W.heap.size W w') := fun W hW => encode_any X Y f hX hY dX dY W hW
  have HRE : Hid (∀ W, Calls Tryd.prog 13 #[.agg (pL X Y f).toArray] W fun e w' => ∃ a n c, e = .returned (.tuple #[.slice a n c, .int .i64 (encE X Y f)]) ∧ OwnB w' W.heap.size (.slice a n c) (encB X Y f) ∧ Below W.heap.size W w') := fun W => rencode_any X Y f hX hY dX dY W
  have HBB := hide (encB_bd f dX dY)
  have HBL := hide (encB_len f hX hY)
  have HLP : Hid (∀ W g, Blk 25 W g (pL X Y f) → (ldA 25 (.pointer (some ⟨g, 0, none⟩))).run Tryd.prog W = .ok (.agg (pL X Y f).toArray) W) := fun W g h => (pnt_ld hX hY h).1
  have HLQ : Hid (∀ W g, Blk 27 W g (pL X Y f) → (ldA 27 (.pointer (some ⟨g, 0, none⟩))).run Tryd.prog W = .ok (.agg (pL X Y f).toArray) W) := fun W g h => (rpt_ld hX hY h).1
  have HSQ : Hid (∀ W g, Blk 27 W g PZ → (stA 27 (.pointer (some ⟨g, 0, none⟩)) (.agg (pL X Y f).toArray)).run Tryd.prog W = .ok () (W.setCells g 0 (pL X Y f)) ∧ Blk 27 (W.setCells g 0 (pL X Y f)) g (pL X Y f)) := fun W g h => ⟨stRp hX hY h rfl, blk_all h (by rw [pL_len hX hY]; rfl)⟩
  have K0 := hide (Blk.new (T := 25) w (pL X Y f) _ _ rfl rfl)
  have U0 := hide (below1 w (.cells (pL X Y f).toArray 25))
  have HC0 := hide (hC.alloc (.cells (pL X Y f).toArray 25))
  have HN0 := hide (hN.alloc (.cells (pL X Y f).toArray 25))
  have ld0 := HLP.out _ _ K0.out
  have hone := pL_one X Y f
  have HSN : Hid (∀ W g, Blk 25 W g PZ → (stA 25 (.pointer (some ⟨g, 0, none⟩)) (.agg (pL (ngX X Y f) (ngY X Y f) (ngF X Y f)).toArray)).run Tryd.prog W = .ok () (W.setCells g 0 (pL (ngX X Y f) (ngY X Y f) (ngF X Y f))) ∧ Blk 25 (W.setCells g 0 (pL (ngX X Y f) (ngY X Y f) (ngF X Y f))) g (pL (ngX X Y f) (ngY X Y f) (ngF X Y f))) := fun W g h => ⟨stPt (ngX_len f hX) (ngY_len f hY) h rfl, blk_all h (by rw [pL_len (ngX_len f hX) (ngY_len f hY)]; rfl)⟩
  have HXL := hide hX
  have HYL := hide hY
  obtain ⟨on, hon⟩ : ∃ on, onP X Y f = on := ⟨_, rfl⟩
  have hone2 := pL_one (ngX X Y f) (ngY X Y f) (ngF X Y f)
  cases on with
  | false =>
    have eN : pL (ngX X Y f) (ngY X Y f) (ngF X Y f) = PZ := by unfold ngX ngY ngF; rw [hon]; rfl
    have eE : onE X Y f = 100 := by unfold onE; rw [hon]; rfl
    rw [hon] at HRO HCO
    rw [eN] at HNE HSN hone2
    rw [eE] at HNE
    have hbz : ∀ W : World, (bdA 25 #[]).run Tryd.prog W = .ok (.agg PZ.toArray) W := fun W => by kernel_rfl
    have hpe : ∀ W : World, (eqA 25 (.agg PZ.toArray) (.agg PZ.toArray)).run Tryd.prog W = .ok (.bool true) W := fun W => by
      rw [show PZ = pL z32 z32 false from rfl, eqP z32 z32 z32 z32 false false rfl rfl rfl rfl W, decide_eq_true ⟨rfl, rfl, rfl⟩]
    have HLZ : Hid (∀ W g, Blk 25 W g PZ → (ldA 25 (.pointer (some ⟨g, 0, none⟩))).run Tryd.prog W = .ok (.agg PZ.toArray) W) := fun W g h => (pnt_ld (X := z32) (Y := z32) (f := false) rfl rfl h).1
    obtain ⟨LN, hLN⟩ : ∃ LN, PZ = LN := ⟨_, rfl⟩
    have HLN := hide hLN
    simp only [hLN] at HNE hone2 hbz hpe
    generalize encB X Y f = B at *
    generalize encE X Y f = E at *
    generalize pL X Y f = L at *
    clear hX hY dX dY hC hN hon eN eE hLN
    rw [show (PZ : List Value) = LN from HLN.out] at HLZ
    have HSN : Hid (∀ W g, Blk 25 W g PZ → (stA 25 (.pointer (some ⟨g, 0, none⟩)) (.agg LN.toArray)).run Tryd.prog W = .ok () (W.setCells g 0 LN) ∧ Blk 25 (W.setCells g 0 LN) g LN) := by rw [← HLN.out]; exact HSN
    have HGE : Hid (∀ a1 n1 c1 W V, OwnB W V (.slice a1 n1 c1) B → Src W a1 n1 c1 B) := fun a1 n1 c1 W V h => h.toSrc HBB.out
    go_enter Tryd.func3, Tryd.ntmps3
    go_wp2_with fail
    refine (HTH.out _).mono ?_
    rintro e w1 ⟨rfl, LB⟩
    have Q1 := hide (Blk.new (T := 27) w1 PZ Tryd.zeroCells27 w1.heap.size zc_rpt rfl)
    obtain ⟨hst1, q1⟩ := HSQ.out _ _ Q1.out
    have bs1 : Below w1.heap.size w1 ((w1.alloc (.cells Tryd.zeroCells27 27)).setCells w1.heap.size 0 L) := below_sets (below1 w1 _) (Nat.le_refl _) (by simp) _ _
    have Z1 : Hid (Oz w L w1.heap.size ((w1.alloc (.cells Tryd.zeroCells27 27)).setCells w1.heap.size 0 L)) := ⟨(K0.out.below LB).below bs1, q1, (HC0.out.below LB).below bs1, (HN0.out.below LB).below bs1, below_then (below_then U0.out LB) bs1⟩
    have HQ1 : Hid (w.heap.size < w1.heap.size) := (K0.out.below LB).lt
    clear LB q1 bs1 Q1 ld0
    go_upto_region 2 with fail
    generalize (w1.alloc (.cells Tryd.zeroCells27 27)).setCells w1.heap.size 0 L = V1 at Z1 ⊢
    generalize w1.heap.size = gq at Z1 HQ1 ⊢
    have l1 := HLQ.out _ _ Z1.out.q
    clear hst1
    go_wp2_with fail
    refine (HRO.out _).mono ?_
    rintro e w2 ⟨rfl, LB⟩
    have Z2 := hide (Z1.out.below LB)
    have l2 := HLP.out _ _ Z2.out.p
    clear LB l1
    go_wp2_with fail
    refine (HNE.out _ Z2.out.cv).mono ?_
    rintro e w3 ⟨rfl, LB⟩
    have Z2b := hide (Z2.out.below LB)
    have X3 := hide (Blk.new (T := 25) w3 PZ Tryd.zeroCells25 w3.heap.size zc_pnt rfl)
    obtain ⟨hst3, x3⟩ := HSN.out _ _ X3.out
    have bs3 : Below w3.heap.size w3 ((w3.alloc (.cells Tryd.zeroCells25 25)).setCells w3.heap.size 0 LN) := below_sets (below1 w3 _) (Nat.le_refl _) (by simp) _ _
    have Z3 := hide (Z2b.out.below bs3)
    have X4 := hide x3
    have HQ3 : Hid (gq < w3.heap.size) := Z2b.out.q.lt
    clear LB x3 bs3 X3 l2
    go_upto_region 4 with fail
    generalize (w3.alloc (.cells Tryd.zeroCells25 25)).setCells w3.heap.size 0 LN = V3 at Z3 X4 ⊢
    generalize w3.heap.size = gx at X4 HQ3 ⊢
    have l3 := HLP.out _ _ Z3.out.p
    clear hst3
    go_wp2_with fail
    refine (HEN.out _ Z3.out.cv).mono ?_
    rintro e w4 ⟨a1, n1, c1, rfl, ho1, LB⟩
    have O1 := hide ho1
    have Z4 := hide (Z3.out.below LB)
    have X5 := hide (X4.out.below LB)
    have l4 := HLP.out _ _ Z4.out.p
    clear LB ho1 l3
    go_wp2_with fail
    refine (HEN.out _ Z4.out.cv).mono ?_
    rintro e w5 ⟨a2, n2, c2, rfl, ho2, LB⟩
    have O2 := hide ho2
    have O1b := hide (O1.out.belowA LB)
    have HS45 := hide LB.size
    have Z5 := hide (Z4.out.below LB)
    have X6 := hide (X5.out.below LB)
    have l5 := HLQ.out _ _ Z5.out.q
    clear LB ho2 l4
    go_wp2_with fail
    refine (HRE.out _).mono ?_
    rintro e w6 ⟨a3, n3, c3, rfl, ho3, LB⟩
    have O3 := hide ho3
    have O1c := hide (O1b.out.belowA LB)
    have O2b := hide (O2.out.belowA LB)
    have Z6 := hide (Z5.out.below LB)
    have X7 := hide (X6.out.below LB)
    have l6 := HLP.out _ _ Z6.out.p
    clear LB ho3 l5
    go_wp2_with (go_at_call 14; refine (HCO.out _ Z6.out.cv).mono ?_; rintro e w7 ⟨rfl, LB⟩; have O1d := hide (O1c.out.belowA LB); have O2c := hide (O2b.out.belowA LB); have O3b := hide (O3.out.belowA LB); have Z7 := hide (Z6.out.below LB); have X8 := hide (X7.out.below LB); clear LB; have t1 := (HGE.out _ _ _ _ _ O1d.out).text; have t3 := (HGE.out _ _ _ _ _ O3b.out).text)
    clear l6 t1 t3
    have HL1 : Hid (B.length = n1) := (HGE.out _ _ _ _ _ O1d.out).hlen
    have hn1 : (n1 : Int) ≤ 65 := by have := HL1.out; have := HBL.out; omega
    go_loopw [13] (fun i wr => ∃ (t : Nat) (zs : List Int), t ≤ n1 ∧ i = .int .i64 t ∧ Hid (OwnB wr V3.heap.size (.slice a1 n1 c1) zs) ∧ Hid (zs.length = n1) ∧ Hid (w7.grownBy wr (Value.slice a1 n1 c1).ownBlock)) (fun i _ => n1 - (intOf i).toNat)
    case atStart => exact ⟨0, B, by omega, rfl, O1d, HL1, World.grownBy.refl _ _⟩
    case round =>
      obtain ⟨t, zs, ht, rfl, HOr, HLr, HGr⟩ := hrel
      by_cases hlt : t < n1
      · rcases HOr.out.split with ⟨he, hz⟩ | ⟨g, cap, he, _⟩
        · have := HLr.out; rw [hz] at this; simp at this; omega
        · simp at he
          obtain ⟨rfl, hmz, rfl⟩ := he
          have hcell := HOr.out.cell t (by rw [HLr.out]; exact hlt)
          have hfr := HOr.out.frozen t
          have hltI : (t : Int) < (n1 : Int) := by omega
          have HST := hide (fun u => HOr.out.stored t u)
          generalize zs.getD t 0 = z at hcell
          clear hmz
          go_wp2
          try go_region
          all_goals (
            try go_wp2
            go_roundw
            case rel => exact ⟨t + 1, _, by omega, by go_num, (HST.out _).1, by unfold Hid; rw [List.length_set]; exact HLr.out, (grown_trans HGr.out (HST.out _).2)⟩
            case measure => simp [intOf]; omega)
      · obtain rfl : t = n1 := by omega
        have hlt1 : ∀ k, (Value.slice a1 t c1).ownBlock = some k → V3.heap.size ≤ k ∧ k < w4.heap.size := fun k hk => O1.out.lt k hk
        have hne : ∀ k, k < V3.heap.size → some k ≠ (Value.slice a1 t c1).ownBlock := fun k hk he => by have := hlt1 k he.symm; omega
        have hx4 : gx < V3.heap.size := X4.out.lt
        have hq4 : gq < V3.heap.size := Z3.out.q.lt
        have hcn := Z3.out.cn.lt
        have E0 : Hid (Oe wr gx gq a2 n2 c2 a3 n3 c3 LN L B) := ⟨X8.out.kept HGr.out (hne _ hx4), Z7.out.q.kept HGr.out (hne _ hq4), HGE.out _ _ _ _ _ (O2c.out.kept HGr.out (ne_own (fun k hk => (O2.out.lt k hk).1) fun k hk => (hlt1 k hk).2)), HGE.out _ _ _ _ _ (O3b.out.kept HGr.out (ne_own (fun k hk => Nat.le_trans HS45.out (O3.out.lt k hk).1) fun k hk => (hlt1 k hk).2)), Z7.out.cn.grown HGr.out (fun k hk => by have := hlt1 k hk; omega)⟩
        have BR : Hid (Below w.heap.size w wr) := Z7.out.bl.grown HGr.out Z7.out.bl.size (fun k hk => by have := (hlt1 k hk).1; have := Z3.out.bl.size; omega)
        clear hlt1 hne hx4 hq4 hcn
        have lx := HLZ.out _ _ E0.out.x
        go_wp2_with (go_at_call 15; refine (names_any _ E0.out.cn).mono ?_; rintro e w8 ⟨rfl, LB⟩; have U8 := hide (below_then BR.out LB); clear LB)
        go_ret
        exact ⟨rfl, U8.out⟩
  | true =>
    have eN : pL (ngX X Y f) (ngY X Y f) (ngF X Y f) = pL X (negY Y f) f := by unfold ngX ngY ngF; rw [hon]; rfl
    have eE : onE X Y f = 0 := by unfold onE; rw [hon]; rfl
    rw [hon] at HRO HCO
    rw [eN] at HNE HSN hone2
    rw [eE] at HNE
    have HRN : Hid (∀ W, Calls Tryd.prog 17 #[.agg (pL X Y f).toArray] W fun e w' => e = .returned (.agg (pL X (negY Y f) f).toArray) ∧ Below W.heap.size W w') := fun W => rneg_any X Y f hX hY dY (fun hf => by subst hf; simp [onP] at hon; exact hon.2.1) W
    have HSM : Hid (∀ W, Calls Tryd.prog 16 #[.agg (pL X (negY Y f) f).toArray, .agg (pL X (negY Y f) f).toArray] W fun e w' => e = .returned (.bool true) ∧ Below W.heap.size W w') := fun W => same_self _ _ _ hX (negY_len hY f) W
    have HES : Hid (∀ W gx gq a2 n2 c2 a3 n3 c3 B, Oe W gx gq a2 n2 c2 a3 n3 c3 (pL X (negY Y f) f) (pL X Y f) B → (ldA 25 (.pointer (some ⟨gx, 0, none⟩))).run Tryd.prog W = .ok (.agg (pL X (negY Y f) f).toArray) W ∧ (ldA 27 (.pointer (some ⟨gq, 0, none⟩))).run Tryd.prog W = .ok (.agg (pL X Y f).toArray) W ∧ (convert 33 9 (.slice a2 n2 c2)).run Tryd.prog W = .ok (.string (strOfNums B)) W ∧ (convert 33 9 (.slice a3 n3 c3)).run Tryd.prog W = .ok (.string (strOfNums B)) W) := fun W gx gq a2 n2 c2 a3 n3 c3 B h => ons_S hX (negY_len hY f) hX hY h.x h.q h.s2 h.s3
    generalize encB X Y f = B at *
    generalize encE X Y f = E at *
    generalize pL X (negY Y f) f = LN at *
    generalize pL X Y f = L at *
    clear hX hY dX dY hC hN hon eN eE
    have HGE : Hid (∀ a1 n1 c1 W V, OwnB W V (.slice a1 n1 c1) B → Src W a1 n1 c1 B) := fun a1 n1 c1 W V h => h.toSrc HBB.out
    go_enter Tryd.func3, Tryd.ntmps3
    go_wp2_with fail
    refine (HTH.out _).mono ?_
    rintro e w1 ⟨rfl, LB⟩
    have Q1 := hide (Blk.new (T := 27) w1 PZ Tryd.zeroCells27 w1.heap.size zc_rpt rfl)
    obtain ⟨hst1, q1⟩ := HSQ.out _ _ Q1.out
    have bs1 : Below w1.heap.size w1 ((w1.alloc (.cells Tryd.zeroCells27 27)).setCells w1.heap.size 0 L) := below_sets (below1 w1 _) (Nat.le_refl _) (by simp) _ _
    have Z1 : Hid (Oz w L w1.heap.size ((w1.alloc (.cells Tryd.zeroCells27 27)).setCells w1.heap.size 0 L)) := ⟨(K0.out.below LB).below bs1, q1, (HC0.out.below LB).below bs1, (HN0.out.below LB).below bs1, below_then (below_then U0.out LB) bs1⟩
    have HQ1 : Hid (w.heap.size < w1.heap.size) := (K0.out.below LB).lt
    clear LB q1 bs1 Q1 ld0
    go_upto_region 2 with fail
    generalize (w1.alloc (.cells Tryd.zeroCells27 27)).setCells w1.heap.size 0 L = V1 at Z1 ⊢
    generalize w1.heap.size = gq at Z1 HQ1 ⊢
    have l1 := HLQ.out _ _ Z1.out.q
    clear hst1
    go_wp2_with fail
    refine (HRO.out _).mono ?_
    rintro e w2 ⟨rfl, LB⟩
    have Z2 := hide (Z1.out.below LB)
    have l2 := HLP.out _ _ Z2.out.p
    clear LB l1
    go_wp2_with fail
    refine (HNE.out _ Z2.out.cv).mono ?_
    rintro e w3 ⟨rfl, LB⟩
    have Z2b := hide (Z2.out.below LB)
    have X3 := hide (Blk.new (T := 25) w3 PZ Tryd.zeroCells25 w3.heap.size zc_pnt rfl)
    obtain ⟨hst3, x3⟩ := HSN.out _ _ X3.out
    have bs3 : Below w3.heap.size w3 ((w3.alloc (.cells Tryd.zeroCells25 25)).setCells w3.heap.size 0 LN) := below_sets (below1 w3 _) (Nat.le_refl _) (by simp) _ _
    have Z3 := hide (Z2b.out.below bs3)
    have X4 := hide x3
    have HQ3 : Hid (gq < w3.heap.size) := Z2b.out.q.lt
    clear LB x3 bs3 X3 l2
    go_upto_region 4 with fail
    generalize (w3.alloc (.cells Tryd.zeroCells25 25)).setCells w3.heap.size 0 LN = V3 at Z3 X4 ⊢
    generalize w3.heap.size = gx at X4 HQ3 ⊢
    have l3 := HLP.out _ _ Z3.out.p
    clear hst3
    go_wp2_with fail
    refine (HEN.out _ Z3.out.cv).mono ?_
    rintro e w4 ⟨a1, n1, c1, rfl, ho1, LB⟩
    have O1 := hide ho1
    have Z4 := hide (Z3.out.below LB)
    have X5 := hide (X4.out.below LB)
    have l4 := HLP.out _ _ Z4.out.p
    clear LB ho1 l3
    go_wp2_with fail
    refine (HEN.out _ Z4.out.cv).mono ?_
    rintro e w5 ⟨a2, n2, c2, rfl, ho2, LB⟩
    have O2 := hide ho2
    have O1b := hide (O1.out.belowA LB)
    have HS45 := hide LB.size
    have Z5 := hide (Z4.out.below LB)
    have X6 := hide (X5.out.below LB)
    have l5 := HLQ.out _ _ Z5.out.q
    clear LB ho2 l4
    go_wp2_with fail
    refine (HRE.out _).mono ?_
    rintro e w6 ⟨a3, n3, c3, rfl, ho3, LB⟩
    have O3 := hide ho3
    have O1c := hide (O1b.out.belowA LB)
    have O2b := hide (O2.out.belowA LB)
    have Z6 := hide (Z5.out.below LB)
    have X7 := hide (X6.out.below LB)
    have l6 := HLP.out _ _ Z6.out.p
    clear LB ho3 l5
    go_wp2_with (go_at_call 14; refine (HCO.out _ Z6.out.cv).mono ?_; rintro e w7 ⟨rfl, LB⟩; have O1d := hide (O1c.out.belowA LB); have O2c := hide (O2b.out.belowA LB); have O3b := hide (O3.out.belowA LB); have Z7 := hide (Z6.out.below LB); have X8 := hide (X7.out.below LB); clear LB; have t1 := (HGE.out _ _ _ _ _ O1d.out).text; have t3 := (HGE.out _ _ _ _ _ O3b.out).text)
    clear l6 t1 t3
    have HL1 : Hid (B.length = n1) := (HGE.out _ _ _ _ _ O1d.out).hlen
    have hn1 : (n1 : Int) ≤ 65 := by have := HL1.out; have := HBL.out; omega
    go_loopw [13] (fun i wr => ∃ (t : Nat) (zs : List Int), t ≤ n1 ∧ i = .int .i64 t ∧ Hid (OwnB wr V3.heap.size (.slice a1 n1 c1) zs) ∧ Hid (zs.length = n1) ∧ Hid (w7.grownBy wr (Value.slice a1 n1 c1).ownBlock)) (fun i _ => n1 - (intOf i).toNat)
    case atStart => exact ⟨0, B, by omega, rfl, O1d, HL1, World.grownBy.refl _ _⟩
    case round =>
      obtain ⟨t, zs, ht, rfl, HOr, HLr, HGr⟩ := hrel
      by_cases hlt : t < n1
      · rcases HOr.out.split with ⟨he, hz⟩ | ⟨g, cap, he, _⟩
        · have := HLr.out; rw [hz] at this; simp at this; omega
        · simp at he
          obtain ⟨rfl, hmz, rfl⟩ := he
          have hcell := HOr.out.cell t (by rw [HLr.out]; exact hlt)
          have hfr := HOr.out.frozen t
          have hltI : (t : Int) < (n1 : Int) := by omega
          have HST := hide (fun u => HOr.out.stored t u)
          generalize zs.getD t 0 = z at hcell
          clear hmz
          go_wp2
          try go_region
          all_goals (
            try go_wp2
            go_roundw
            case rel => exact ⟨t + 1, _, by omega, by go_num, (HST.out _).1, by unfold Hid; rw [List.length_set]; exact HLr.out, (grown_trans HGr.out (HST.out _).2)⟩
            case measure => simp [intOf]; omega)
      · obtain rfl : t = n1 := by omega
        have hlt1 : ∀ k, (Value.slice a1 t c1).ownBlock = some k → V3.heap.size ≤ k ∧ k < w4.heap.size := fun k hk => O1.out.lt k hk
        have hne : ∀ k, k < V3.heap.size → some k ≠ (Value.slice a1 t c1).ownBlock := fun k hk he => by have := hlt1 k he.symm; omega
        have hx4 : gx < V3.heap.size := X4.out.lt
        have hq4 : gq < V3.heap.size := Z3.out.q.lt
        have hcn := Z3.out.cn.lt
        have E0 : Hid (Oe wr gx gq a2 n2 c2 a3 n3 c3 LN L B) := ⟨X8.out.kept HGr.out (hne _ hx4), Z7.out.q.kept HGr.out (hne _ hq4), HGE.out _ _ _ _ _ (O2c.out.kept HGr.out (ne_own (fun k hk => (O2.out.lt k hk).1) fun k hk => (hlt1 k hk).2)), HGE.out _ _ _ _ _ (O3b.out.kept HGr.out (ne_own (fun k hk => Nat.le_trans HS45.out (O3.out.lt k hk).1) fun k hk => (hlt1 k hk).2)), Z7.out.cn.grown HGr.out (fun k hk => by have := hlt1 k hk; omega)⟩
        have BR : Hid (Below w.heap.size w wr) := Z7.out.bl.grown HGr.out Z7.out.bl.size (fun k hk => by have := (hlt1 k hk).1; have := Z3.out.bl.size; omega)
        clear hlt1 hne hx4 hq4 hcn
        obtain ⟨S, hS⟩ : ∃ S, strOfNums B = S := ⟨_, rfl⟩
        have HES2 : Hid (∀ W, Oe W gx gq a2 n2 c2 a3 n3 c3 LN L B → (ldA 25 (.pointer (some ⟨gx, 0, none⟩))).run Tryd.prog W = .ok (.agg LN.toArray) W ∧ (ldA 27 (.pointer (some ⟨gq, 0, none⟩))).run Tryd.prog W = .ok (.agg L.toArray) W ∧ (convert 33 9 (.slice a2 n2 c2)).run Tryd.prog W = .ok (.string S) W ∧ (convert 33 9 (.slice a3 n3 c3)).run Tryd.prog W = .ok (.string S) W) := by rw [← hS]; exact fun W h => HES.out W gx gq a2 n2 c2 a3 n3 c3 B h
        clear hS
        go_upto_region 15 with fail
        go_region_held3 (fun W => (ldA 25 (.pointer (some ⟨gx, 0, none⟩))).run Tryd.prog W = .ok (.agg LN.toArray) W ∧ (ldA 27 (.pointer (some ⟨gq, 0, none⟩))).run Tryd.prog W = .ok (.agg L.toArray) W ∧ (convert 33 9 (.slice a2 n2 c2)).run Tryd.prog W = .ok (.string S) W ∧ (convert 33 9 (.slice a3 n3 c3)).run Tryd.prog W = .ok (.string S) W) (first | exact HES2.out _ E3.out | exact HES2.out _ E2.out | exact HES2.out _ E1.out | exact HES2.out _ E0.out.drew) (first | (go_at_call 17; refine (HRN.out _).mono ?_; rintro e v1 ⟨rfl, LB⟩; have E1 := hide (E0.out.drew.below LB); have BR1 := hide (below_drew BR.out (by exact ⟨rfl, rfl, rfl, rfl⟩) LB); clear LB) | (go_at_call 16; refine (HSM.out _).mono ?_; rintro e v2 ⟨rfl, LB⟩; have E2 := hide (E1.out.below LB); have BR2 := hide (below_then BR1.out LB); clear LB) | (go_at_call 15; refine (names_any _ E2.out.cn).mono ?_; rintro e v3 ⟨rfl, LB⟩; have E3 := hide (E2.out.below LB); have BR3 := hide (below_then BR2.out LB); clear LB))
        go_wp2
        go_ret
        exact ⟨rfl, BR3.out⟩

end Go.Proofs.YtejfbamijjddgaaDoor
