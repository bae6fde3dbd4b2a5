/-
  The document's Take.
-/
import Derived.Test.YtogemhoempkjoaaDoorSlEq
import Derived.Test.YtogemhoempkjoaaDoorSlRPut
import Derived.Deep.DeepCutAuto
namespace Go.Proofs.YtogemhoempkjoaaDoor
open Go.RowKit Go.IntWalk

theorem u8_inj {x y : Int} (hx : 0 ≤ x ∧ x < 256) (hy : 0 ≤ y ∧ y < 256) (h : UInt8.ofNat x.toNat = UInt8.ofNat y.toNat) : x = y := by
  have := congrArg UInt8.toNat h
  simp at this
  omega
theorem str_inj : ∀ (xs ys : List Int), (∀ x ∈ xs, 0 ≤ x ∧ x < 256) → (∀ x ∈ ys, 0 ≤ x ∧ x < 256) → strOfNums xs = strOfNums ys → xs = ys := by
  have key : ∀ (xs ys : List Int), (∀ x ∈ xs, 0 ≤ x ∧ x < 256) → (∀ x ∈ ys, 0 ≤ x ∧ x < 256) → (xs.map fun n => UInt8.ofNat n.toNat) = (ys.map fun n => UInt8.ofNat n.toNat) → xs = ys := by
    intro xs
    induction xs with
    | nil => intro ys _ _ h; cases ys with
      | nil => rfl
      | cons y ys => simp at h
    | cons x xs ih => intro ys hx hy h; cases ys with
      | nil => simp at h
      | cons y ys =>
        simp only [List.map_cons, List.cons.injEq] at h
        rw [u8_inj (hx x (by simp)) (hy y (by simp)) h.1, ih ys (fun a ha => hx a (by simp [ha])) (fun a ha => hy a (by simp [ha])) h.2]
  intro xs ys hx hy h
  refine key xs ys hx hy ?_
  rw [← strOfNums_data, ← strOfNums_data, h]

theorem OwnB.ne_typed {w : World} {base g n c m : Nat} {xs : List Int} {C : Array Value} {T : TypeId} (h : OwnB w base (.slice (some ⟨g, 0, none⟩) n c) xs) (hm : w.heap[m]? = some (Obj.cells C T (0, 0))) (hT : T ≠ 5) : g ≠ m := by
  intro e
  subst e
  obtain ⟨_, h | ⟨g', cap, cur, he, _, hh, _⟩⟩ := h
  · simp at h
  · simp at he
    obtain ⟨rfl, _, _⟩ := he
    rw [hm] at hh
    cases hh
    exact hT rfl
theorem grownBy_setCell0 (w : World) (g i : Nat) (v : Value) : w.grownBy (w.setCell ⟨g, i, none⟩ v) (some g) :=
  ⟨rfl, rfl, rfl, by simp, fun k _ hk => heap_setCell_other w ⟨g, i, none⟩ k v (fun e => hk (by simp [e]))⟩

set_option maxRecDepth 100000 in
set_option maxHeartbeats 4000000 in
theorem refTake_any (ao : Option Addr) (n cap : Nat) (xs : List Int) (w : World) (hs : Src w ao n cap xs) (hN : n ≤ 140737488355328) :
    Calls Tryd.prog 19 #[.slice ao n cap] w fun e w' => ∃ ao' m c', e = .returned (.tuple #[.agg #[.int .i64 (slipK xs), .slice ao' m c'], .int .i64 (findS xs).1, .int .i64 (findS xs).2]) ∧ OwnB w' w.heap.size (.slice ao' m c') (slipD xs) ∧ Below w.heap.size w w' := by
  have HS := hide hs
  have hlen : xs.length = n := hs.hlen
  have hd := dataN_bd hs.hbyt
  have hcap : (n : Int) ≤ 9223372036854775807 := by omega
  have hbad : ∀ err : Int, err ≠ 0 → findS xs = (0, err) → slipK xs = 0 ∧ slipD xs = [] := fun err h1 he => ⟨by unfold slipK; rw [he, if_neg h1], by unfold slipD; rw [he, if_neg h1]⟩
  by_cases h3 : n < 3
  · have hf : findS xs = (0, 90) := by unfold findS; rw [if_pos (by omega)]
    rw [(hbad 90 (by decide) hf).1, (hbad 90 (by decide) hf).2, hf]
    have h3I : (n : Int) < 3 := by omega
    clear hs hd hbad
    go_enter Tryd.func19, Tryd.ntmps19
    go_wp2
    refine bodyPost_ret (v := .tuple #[.agg #[.int .i64 0, .slice none 0 0], .int .i64 0, .int .i64 90]) (by simp [results, Tryd.results19, go_sem]) rfl ⟨none, 0, 0, rfl, OwnB.nil _ _, ?_⟩
    exact (Below.refl _ _).alloc (Nat.le_refl _) _
  · obtain ⟨b, off, rfl, h1⟩ := src_byte hs 1 (by omega)
    obtain ⟨_, _, he2, h2⟩ := src_byte hs 2 (by omega)
    cases he2
    obtain ⟨_, _, he0, h0⟩ := src_byte hs 0 (by omega)
    cases he0
    simp only [Nat.add_zero] at h0
    have b0 := byte_bd hs.hbyt 0
    have b1 := byte_bd hs.hbyt 1
    have b2 := byte_bd hs.hbyt 2
    have hbl : b < w.heap.size := lt_of_cell h0
    have hdn : xs.getD 1 0 + xs.getD 2 0 * 256 = dataN xs := rfl
    have h3I : ¬ (n : Int) < 3 := by omega
    have hz0 : (0 : Int) < (n : Int) := by omega
    have hz1 : (1 : Int) < (n : Int) := by omega
    have hz2 : (2 : Int) < (n : Int) := by omega
    obtain ⟨D, hD⟩ : ∃ D : Nat, dataN xs = (D : Int) := ⟨_, (Int.toNat_of_nonneg hd.1).symm⟩
    rw [hD] at hdn hd
    have m1 : IntKind.i64.wrap (256 * xs.getD 2 0) = 256 * xs.getD 2 0 := i64_in _ (by omega)
    have m2 : IntKind.i64.wrap (xs.getD 1 0 + 256 * xs.getD 2 0) = (D : Int) := by rw [i64_in _ (by omega)]; omega
    have m3 : IntKind.i64.wrap (7 + (D : Int)) = (D : Int) + 7 := by rw [i64_in _ (by omega)]; omega
    have m4 : IntKind.i64.wrap (3 + (D : Int)) = (D : Int) + 3 := by rw [i64_in _ (by omega)]; omega
    have m0 : IntKind.i64.wrap (xs.getD 0 0) = xs.getD 0 0 := i64_in _ (by omega)
    by_cases h4 : n < D + 7
    · have hf : findS xs = (0, 90) := by unfold findS; rw [if_neg (by omega), if_pos (by omega)]
      rw [(hbad 90 (by decide) hf).1, (hbad 90 (by decide) hf).2, hf]
      have h4I : (n : Int) < (D : Int) + 7 := by omega
      generalize xs.getD 1 0 = x1 at *
      generalize xs.getD 2 0 = x2 at *
      clear hs hdn hD hbad
      have k1 := (World.cell?_alloc_lt w (.cells #[.int .i64 0, .slice none 0 0] 32) ⟨b, off + 1, none⟩ hbl).trans h1
      have k2 := (World.cell?_alloc_lt w (.cells #[.int .i64 0, .slice none 0 0] 32) ⟨b, off + 2, none⟩ hbl).trans h2
      go_enter Tryd.func19, Tryd.ntmps19
      go_wp2
      go_quiet (fail)
      go_wp2
      refine bodyPost_ret (v := .tuple #[.agg #[.int .i64 0, .slice none 0 0], .int .i64 0, .int .i64 90]) (by simp [results, Tryd.results19, go_sem]) rfl ⟨none, 0, 0, rfl, OwnB.nil _ _, ?_⟩
      exact ((((Drawn.refl _).more _).below ((Below.refl _ _).alloc (Nat.le_refl _) _)).setCell (Nat.le_refl _) _).setCell (Nat.le_refl _) _
    · have h4I : ¬ (n : Int) < (D : Int) + 7 := by omega
      have k1 := (World.cell?_alloc_lt w (.cells #[.int .i64 0, .slice none 0 0] 32) ⟨b, off + 1, none⟩ hbl).trans h1
      have k2 := (World.cell?_alloc_lt w (.cells #[.int .i64 0, .slice none 0 0] 32) ⟨b, off + 2, none⟩ hbl).trans h2
      have k0 := (World.cell?_alloc_lt w (.cells #[.int .i64 0, .slice none 0 0] 32) ⟨b, off, none⟩ hbl).trans h0
      have hcp := hs.hcap
      have sl := fun W => slice_lh W (some ⟨b, off, none⟩) n cap 3 ((D : Int) + 3) 3 (D + 3) rfl (by omega) (by omega) (by omega)
      have sh7 : ∀ W : World, (Instr.slice 22 (.slice (some ⟨b, off, none⟩) n cap) none (some (.int .i64 ((D : Int) + 7))) none).run Tryd.prog W = .ok (.slice (some ⟨b, off, none⟩) (D + 7) cap) W := fun W => by rw [slice_hi W _ n cap _ (D + 7) (by omega) (by omega), cutA_zero]
      have hs1 := hs.cut 3 (D + 3) (by omega) (by omega)
      rw [show D + 3 - 3 = D by omega] at hs1 sl
      have hs7 := hs.head (D + 7) (by omega)
      have hiff := slip_iff xs hs.hbyt D hD (by omega)
      have hdt := dataOf_take xs D (by omega)
      have hf : findS xs = if sumS (xs.take (D + 3)) ≠ le4 (xs.drop (D + 3)) then (0, 91) else ((D : Int) + 7, 0) := by
        unfold findS; rw [if_neg (by omega), if_neg (by omega), hD]; simp
      have hgood : findS xs = ((D : Int) + 7, 0) → slipK xs = xs.getD 0 0 ∧ slipD xs = (xs.take (D + 3)).drop 3 := fun he => ⟨by unfold slipK; rw [he]; simp, by unfold slipD; rw [he, if_pos rfl, ← hdt]; congr 2⟩
      obtain ⟨ys, hys⟩ : ∃ ys, (xs.take (D + 3)).drop 3 = ys := ⟨_, rfl⟩
      rw [hys] at hs1 hiff hgood
      obtain ⟨x0, hx0⟩ : ∃ x0, xs.getD 0 0 = x0 := ⟨_, rfl⟩
      rw [hx0] at hiff hgood m0 b0 k0
      generalize cutA (some ⟨b, off, none⟩) cap 3 = A at hs1 sl
      generalize xs.getD 1 0 = x1 at *
      generalize xs.getD 2 0 = x2 at *
      have HBad := hide hbad
      have HGood := hide hgood
      have HIff := hide hiff
      have HF := hide hf
      have HS1w := hide hs1
      have HS7w := hide hs7
      have HL1 := hide hs1.hlen
      have HSB := hide (slipB_bd x0 ys (by omega) hs1.hbyt)
      have HTB := hide hs7.hbyt
      have HYB := hide hs1.hbyt
      clear hs hdn hD hbad hf hgood hiff hs1 hs7 h0 h1 h2 hdt hys hx0
      go_enter Tryd.func19, Tryd.ntmps19
      go_wp2
      go_quiet (fail)
      go_upto_region 6 with fail
      have HD2 : Hid (Below w.heap.size w ((w.alloc (.cells #[.int .i64 0, .slice none 0 0] 32)).drewN nq)) := ((Drawn.refl _).more _).below ((Below.refl _ _).alloc (Nat.le_refl _) _)
      have HX0 : Hid (Box ((w.alloc (.cells #[.int .i64 0, .slice none 0 0] 32)).drewN nq) w.heap.size 0 (.slice none 0 0)) := (Box.new w 0 (.slice none 0 0) 32).heap rfl
      have kc : ((w.alloc (.cells #[.int .i64 0, .slice none 0 0] 32)).drewN nq).cell? ⟨b, off, none⟩ = some (.int .u8 x0) := k0
      generalize (w.alloc (.cells #[.int .i64 0, .slice none 0 0] 32)).drewN nq = W2 at HD2 HX0 kc ⊢
      have HS1 := hide (HS1w.out.below HD2.out)
      have HS7 := hide (HS7w.out.below HD2.out)
      have hbW : b < W2.heap.size := lt_of_cell kc
      have zW := HX0.out.lt
      clear k0 k1 k2
      go_cut [6] (fun p wx => ∃ (bx : Nat) (ad : Option Addr) (cd : Nat), p = .pointer (some ⟨bx, 0, none⟩) ∧ Hid (Box wx bx x0 (.slice ad D cd)) ∧ Hid (OwnB wx W2.heap.size (.slice ad D cd) ys) ∧ Hid (Below W2.heap.size W2 wx) ∧ W2.heap.size ≤ bx)
      case first =>
        have hzN : 0 < n := by omega
        go_region_held3 (fun W => W.cell? ⟨b, off, none⟩ = some (.int .u8 x0)) (go_keep) (first | (refine step_appN _ rfl (.tmp 31) (.tmp 35) rfl W2.heap.size (.slice (some ⟨W2.heap.size, 0, none⟩) 0 0) [] ?_ ?_ A D (cap - 3) ys ?_ ?_ D ?_ ?_ ?_ ?_ ?_; exact rfl; exact (OwnB.litAt (w := W2) W2.heap.size _ [] _ 0 rfl rfl rfl (Nat.le_refl _) (by decide)).heap rfl; exact rfl; exact (HS1.out.alloc _).heap rfl; (simpa using HL1.out); (exact .inl (by simp)); omega; (focus (simp; try omega)); intro g1 c1 w1 ho1 hb1 hl1 hc1 hm1 hg1; have zz1 := hg1.size; have k1 : w1.cell? ⟨b, off, none⟩ = some (.int .u8 x0) := hg1.cell (by first | exact kc | exact (World.cell?_alloc_lt _ _ _ hbW).trans kc | exact (World.cell?_alloc_lt _ _ _ (by simp; omega)).trans ((World.cell?_alloc_lt _ _ _ hbW).trans kc)) (by simp [Value.ownBlock]; omega); have n1 : ¬ b = w1.heap.size := (by simp at zz1; omega); have n2 : ¬ w1.heap.size = b := (by simp at zz1; omega)) | (refine step_appN _ rfl (.tmp 31) (.tmp 35) rfl W2.heap.size (.slice (some ⟨W2.heap.size, 0, none⟩) 0 0) [] ?_ ?_ A D (cap - 3) ys ?_ ?_ D ?_ ?_ ?_ ?_ ?_; exact rfl; exact ((OwnB.litAt (w := W2) W2.heap.size _ [] _ 0 rfl rfl rfl (Nat.le_refl _) (by decide)).alloc _).heap rfl; exact rfl; exact ((HS1.out.alloc _).alloc _).heap rfl; (simpa using HL1.out); (exact .inl (by simp)); omega; (focus (simp; try omega)); intro g1 c1 w1 ho1 hb1 hl1 hc1 hm1 hg1; have zz1 := hg1.size; have k1 : w1.cell? ⟨b, off, none⟩ = some (.int .u8 x0) := hg1.cell (by first | exact kc | exact (World.cell?_alloc_lt _ _ _ hbW).trans kc | exact (World.cell?_alloc_lt _ _ _ (by simp; omega)).trans ((World.cell?_alloc_lt _ _ _ hbW).trans kc)) (by simp [Value.ownBlock]; omega); have e0 : w1.cell? ⟨W2.heap.size + 1, 0, none⟩ = some (.int .i64 0) := hg1.cell (by simp) (by simp [Value.ownBlock]); have e1 : w1.cell? ⟨W2.heap.size + 1, 1, none⟩ = some (.slice none 0 0) := hg1.cell (by simp) (by simp [Value.ownBlock]); have e2 : ∀ o, w1.frozen? ⟨W2.heap.size + 1, o, none⟩ = false := fun o => (World.frozen?_of_block (hg1.block _ (by first | (simp; done) | (simp; omega)) (by simp [Value.ownBlock]))).trans (by simp); have e3 : w1.heap[W2.heap.size + 1]? = some (Obj.cells #[.int .i64 0, .slice none 0 0] 32 (0, 0)) := (hg1.block _ (by first | (simp; done) | (simp; omega)) (by simp [Value.ownBlock])).trans (by have := (MapKept.heap_alloc (W2.alloc (.cells #[] 5)) (.cells #[.int .i64 0, .slice none 0 0] 32)).1; rw [World.size_alloc] at this; exact this); have n1 : ¬ b = W2.heap.size + 1 := (by omega); have n2 : ¬ W2.heap.size + 1 = b := (by omega)) | (refine step_appN _ rfl (.tmp 31) (.tmp 35) rfl W2.heap.size (.slice (some ⟨W2.heap.size + 1, 0, none⟩) 0 0) [] ?_ ?_ A D (cap - 3) ys ?_ ?_ D ?_ ?_ ?_ ?_ ?_; exact rfl; exact (OwnB.litAt (w := W2.alloc (.cells #[.int .i64 0, .slice none 0 0] 32)) W2.heap.size _ [] _ 0 rfl rfl (by simp) (by simp) (by decide)).heap rfl; exact rfl; exact ((HS1.out.alloc _).alloc _).heap rfl; (simpa using HL1.out); (exact .inl (by simp)); omega; (focus (simp; try omega)); intro g1 c1 w1 ho1 hb1 hl1 hc1 hm1 hg1; have zz1 := hg1.size; have k1 : w1.cell? ⟨b, off, none⟩ = some (.int .u8 x0) := hg1.cell (by first | exact kc | exact (World.cell?_alloc_lt _ _ _ hbW).trans kc | exact (World.cell?_alloc_lt _ _ _ (by simp; omega)).trans ((World.cell?_alloc_lt _ _ _ hbW).trans kc)) (by simp [Value.ownBlock]; omega); have e0 : w1.cell? ⟨W2.heap.size, 0, none⟩ = some (.int .i64 0) := hg1.cell (by simp) (by simp [Value.ownBlock]); have e1 : w1.cell? ⟨W2.heap.size, 1, none⟩ = some (.slice none 0 0) := hg1.cell (by simp) (by simp [Value.ownBlock]); have e2 : ∀ o, w1.frozen? ⟨W2.heap.size, o, none⟩ = false := fun o => (World.frozen?_of_block (hg1.block _ (by first | (simp; done) | (simp; omega)) (by simp [Value.ownBlock]))).trans (by simp); have e3 : w1.heap[W2.heap.size]? = some (Obj.cells #[.int .i64 0, .slice none 0 0] 32 (0, 0)) := (hg1.block _ (by first | (simp; done) | (simp; omega)) (by simp [Value.ownBlock])).trans ((Below.heap_alloc (W2.alloc (.cells #[.int .i64 0, .slice none 0 0] 32)) _ _ (by simp)).trans (MapKept.heap_alloc W2 (.cells #[.int .i64 0, .slice none 0 0] 32)).1); have n1 : ¬ b = W2.heap.size := (by omega); have n2 : ¬ W2.heap.size = b := (by omega)))
        · go_wp2_with fail
          go_meet
          case rel =>
            refine ⟨w1.heap.size, _, _, rfl, Box.new w1 x0 _ _, ho1.alloc _, ?_, by simp at zz1; omega⟩
            exact ((((Below.refl W2.heap.size W2).alloc (Nat.le_refl _) _).drew).grown hg1 (by simp) (own_ge (by omega))).alloc (by simp at zz1; omega) _
        · go_wp2_with fail
          go_meet
          case rel =>
            have hne := ho1.ne_typed e3 (by decide)
            have z3 := (Array.getElem?_eq_some_iff.1 e3).1
            refine ⟨W2.heap.size + 1, some ⟨g1, 0, none⟩, c1, rfl, ?_, ?_, ?_, by omega⟩
            · exact ⟨by simp [go_sem, e0], by simp [go_sem, e1], by simpa using z3, fun o => by simp [go_sem, e2]⟩
            · exact (ho1.kept (grownBy_setCell0 w1 _ _ _) (.inr (by simp [Value.ownBlock]; omega))).kept (grownBy_setCell0 _ _ _ _) (.inr (by simp [Value.ownBlock]; omega))
            · exact ((((((Below.refl W2.heap.size W2).alloc (Nat.le_refl _) _).alloc (by simp) _).drew).grown hg1 (by simp; omega) (own_ge (by omega))).setCell (by simp) _).setCell (by simp) _
        · go_wp2_with fail
          go_meet
          case rel =>
            have hne := ho1.ne_typed e3 (by decide)
            have z3 := (Array.getElem?_eq_some_iff.1 e3).1
            refine ⟨W2.heap.size, some ⟨g1, 0, none⟩, c1, rfl, ?_, ?_, ?_, Nat.le_refl _⟩
            · exact ⟨by simp [go_sem, e0], by simp [go_sem, e1], by simpa using z3, fun o => by simp [go_sem, e2]⟩
            · exact (ho1.kept (grownBy_setCell0 w1 _ _ _) (.inr (by simp [Value.ownBlock]; omega))).kept (grownBy_setCell0 _ _ _ _) (.inr (by simp [Value.ownBlock]; omega))
            · exact ((((((Below.refl W2.heap.size W2).alloc (Nat.le_refl _) _).alloc (by simp) _).drew).grown hg1 (by simp; omega) (own_ge (by omega))).setCell (by simp) _).setCell (by simp) _
      case rest =>
        obtain ⟨bx, ad, cd, rfl, HX2, HO2, HBc, hbx⟩ := hcut
        have HSD := hide (HO2.out.toSrc (by exact HYB.out))
        have HS7c := hide (HS7.out.below HBc.out)
        have HXr := hide (HX0.out.below HBc.out)
        have HBw : Hid (Below w.heap.size w wc) := HD2.out.trans (HBc.out.mono HD2.out.size)
        have p0 := HX2.out.c0
        have p1 := HX2.out.c1
        have t0 := HS7c.out.text
        have p0' : wc.drew.cell? ⟨bx, 0, none⟩ = some (.int .i64 x0) := p0
        have p1' : wc.drew.cell? ⟨bx, 1, none⟩ = some (.slice ad D cd) := p1
        have t0' : (convert 22 9 (.slice (some ⟨b, off, none⟩) (D + 7) cap)).run Tryd.prog wc.drew = .ok (.string (strOfNums (xs.take (D + 7)))) wc.drew := (HS7c.out.drewN 1).text
        have hne1 : ¬ bx = w.heap.size := by omega
        have hne2 : ¬ w.heap.size = bx := by omega
        clear kc HS1 HS7 HX0 HD2 HS1w HS7w HS HBc sl
        by_cases hq : sumS (xs.take (D + 3)) = le4 (xs.drop (D + 3))
        · have hF : findS xs = ((D : Int) + 7, 0) := by rw [HF.out, if_neg (by simpa using hq)]
          have HEQ := hide (HIff.out.2 hq)
          have HTX := HTB
          have HKK := hide (HGood.out hF)
          have HFF := hide hF
          clear hq hF HF HGood HBad HIff
          go_wp2
          go_region_with ((go_at_call 28; refine (refBytes_any x0 ad D cd ys _ (HSD.out.drewN 1) (by omega) (by omega)).mono ?_; rintro e w3 ⟨g3, c3, rfl, ho3, B3⟩; rw [HEQ.out] at ho3; have B3' : Below wc.heap.size wc w3 := ⟨B3.os, B3.tape, B3.output, B3.size, B3.block⟩; have q0 := (HX2.out.below B3').c0; have q1 := (HX2.out.below B3').c1; have t3 := (HS7c.out.below B3').text; have t4 := (ho3.toSrc HTX.out).text))
          all_goals (
            have r0 := (HXr.out.below B3').c0
            have r1 := (HXr.out.below B3').c1
            have rf := (HXr.out.below B3').fz
            have rl := (HXr.out.below B3').lt
            go_wp2
            refine bodyPost_ret (v := .tuple #[.agg #[.int .i64 x0, .slice ad D cd], .int .i64 ((D : Int) + 7), .int .i64 0]) (by simp [results, Tryd.results19, go_sem, r0, r1]) rfl ⟨ad, D, cd, by rw [HKK.out.1, HFF.out], ?_, ?_⟩
            · rw [HKK.out.2]
              exact (((HO2.out.belowA B3').setBelow (by simpa using zW) _).setBelow (by simpa using zW) _).rebase (by omega)
            · exact ((HBw.out.trans (B3'.mono HBw.out.size)).setCell (Nat.le_refl _) _).setCell (Nat.le_refl _) _)
        · have hF : findS xs = (0, 91) := by rw [HF.out, if_pos (by simpa using hq)]
          have HTX := HSB
          have hnq : ¬ strOfNums (slipB x0 ys) = strOfNums (xs.take (D + 7)) := fun h => hq (HIff.out.1 (str_inj _ _ HSB.out HTB.out h))
          have hnb : ((strOfNums (slipB x0 ys)).toList == (strOfNums (xs.take (D + 7))).toList) = false := by
            apply beq_eq_false_iff_ne.2
            intro he
            rw [ByteArray.toList_eq, ByteArray.toList_eq] at he
            exact hnq (WideShapes.bytes_inj he)
          have HKK := hide (HBad.out 91 (by decide) hF)
          have HFF := hide hF
          clear hq hF HF HGood HBad HIff
          go_wp2
          go_region_with ((go_at_call 28; refine (refBytes_any x0 ad D cd ys _ (HSD.out.drewN 1) (by omega) (by omega)).mono ?_; rintro e w3 ⟨g3, c3, rfl, ho3, B3⟩; have B3' : Below wc.heap.size wc w3 := ⟨B3.os, B3.tape, B3.output, B3.size, B3.block⟩; have q0 := (HX2.out.below B3').c0; have q1 := (HX2.out.below B3').c1; have t3 := (HS7c.out.below B3').text; have t4 := (ho3.toSrc HTX.out).text))
          all_goals (
            have r0 := (HXr.out.below B3').c0
            have r1 := (HXr.out.below B3').c1
            have rf := (HXr.out.below B3').fz
            have rl := (HXr.out.below B3').lt
            go_wp2
            refine bodyPost_ret (v := .tuple #[.agg #[.int .i64 0, .slice none 0 0], .int .i64 0, .int .i64 91]) (by simp [results, Tryd.results19, go_sem, r0, r1]) rfl ⟨none, 0, 0, by rw [HKK.out.1, HFF.out], by rw [HKK.out.2]; exact OwnB.nil _ _, ?_⟩
            exact ((HBw.out.trans (B3'.mono HBw.out.size)).setCell (Nat.le_refl _) _).setCell (Nat.le_refl _) _)

end Go.Proofs.YtogemhoempkjoaaDoor
