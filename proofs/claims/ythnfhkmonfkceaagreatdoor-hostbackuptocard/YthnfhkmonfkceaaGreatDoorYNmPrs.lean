/-
  name.Parse: memory while it ranges, and its walk.
-/
import Derived.Test.YthnfhkmonfkceaaGreatDoorYNmDcdToNmIt
import Derived.Test.YthnfhkmonfkceaaGreatDoorYNmRDcToNmDec
namespace Go.Proofs.YthnfhkmonfkceaaGreatDoor
open Go.RowKit Go.Shelf Go.IntWalk
attribute [local go_sem] Oper.semAt_some
attribute [local go_sem ↓] appOf_of

theorem partsN_enters : ∀ args w, (callFunc 119 args).run Tryz.prog w = .ok (.enter 119 args) w := enters_of Tryz.func119 (by kernel_rfl) rfl
/-- A range over name.Parts' function. -/
theorem partsN_enter {g : Operand} {ps : Array Tmp} {assign body : Code} {Q : Exit → Act → World → Prop} {a : Act} {w : World} {B : Nat} (hg : a.eval g = .func (.func 119) #[] #[.pointer (some ⟨B, 0, none⟩)])
    (h : ∀ fn, Fence.wide.fn fn → CallsIn Fence.wide 7 Tryz.prog 119 #[.func (.yield (w.heap.size + 1)) #[] #[], .pointer (some ⟨B, 0, none⟩)] ((w.alloc (.deferred (some []))).alloc (.loop (recOf fn a.tmps ps assign body w.heap.size .ready none)))
      (rangePost Fence.wide 8 Tryz.prog (w.heap.size + 1) Q { a with defers := { target := .collected w.heap.size, args := #[] } :: a.defers })) :
    (Code.rangeFunc g ps assign body).wp Tryz.prog Q a w :=
  wpIn_wide.1 (range_enter (n := 8) rfl (by decide) hg trivial partsN_enters h)

theorem bs_beq2 (a b : ByteArray) : (a.toList == b.toList) = decide (a = b) := by
  rw [ByteArray.toList_eq, ByteArray.toList_eq]
  by_cases h : a = b
  · subst h; simp
  · rw [decide_eq_false h]
    exact beq_eq_false_iff_ne.2 (fun e => h (bs_ext e))

theorem bs_empty (a : ByteArray) : a.toList.isEmpty = decide (a = ⟨#[]⟩) := by
  rw [ByteArray.toList_eq]
  by_cases h : a = ⟨#[]⟩
  · subst h; rfl
  · rw [decide_eq_false h]
    cases he : a.data.toList with
    | nil => exact absurd (bs_ext he) h
    | cons x r => rfl
def prsBx (Nb B : Nat) (n : Value) (s : ByteArray) : List (Nat × TypeId × Value) := [(Nb, 40, n), (B, 9, .string s)]
structure PrsJ (w : World) (Nb B D l : Nat) (s : ByteArray) (r : Loop) (ns : List (Int × ByteArray)) (W : World) (aN : Option Addr) (mN cN : Nat) : Prop where
  st : LSt w (prsBx Nb B (.slice aN mN cN) s) [D] l r W
  row : OwnA W w.heap.size (.slice aN mN cN) ns
theorem PrsJ.below {w : World} {Nb B D l : Nat} {s : ByteArray} {r : Loop} {ns : List (Int × ByteArray)} {W W' : World} {aN : Option Addr} {mN cN : Nat} (h : PrsJ w Nb B D l s r ns W aN mN cN) (hb : Below W.heap.size W W') : PrsJ w Nb B D l s r ns W' aN mN cN :=
  ⟨h.st.below hb, h.row.below hb⟩
theorem PrsJ.turn {w : World} {Nb B D l : Nat} {s : ByteArray} {r : Loop} {ns : List (Int × ByteArray)} {W : World} {aN : Option Addr} {mN cN : Nat} (h : PrsJ w Nb B D l s r ns W aN mN cN) (r' : Loop) : PrsJ w Nb B D l s r' ns (W.putObj l (.loop r')) aN mN cN :=
  ⟨h.st.put r', h.row.put h.st.loop rfl _⟩
theorem PrsJ.grow {w : World} {Nb B D l : Nat} {s : ByteArray} {r : Loop} {ns ns' : List (Int × ByteArray)} {A X : World} {aN : Option Addr} {mN cN : Nat} (h : PrsJ w Nb B D l s r ns A aN mN cN) {g k c : Nat} (hg : A.grownBy X (Value.slice aN mN cN).ownBlock) (ho : OwnA X w.heap.size (.slice (some ⟨g, 0, none⟩) k c) ns') :
    PrsJ w Nb B D l s r ns' (X.setCell ⟨Nb, 0, none⟩ (.slice (some ⟨g, 0, none⟩) k c)) (some ⟨g, 0, none⟩) k c ∧ X.cell? ⟨Nb, 0, none⟩ = some (.slice aN mN cN) ∧ X.frozen? ⟨Nb, 0, none⟩ = false := by
  have h1 := h.st.grownA h.row hg (by intro y hy; simp only [prsBx, List.mem_cons, List.not_mem_nil, or_false] at hy; rcases hy with rfl | rfl; exact (by decide : (40 : TypeId) ≠ 67); exact (by decide : (9 : TypeId) ≠ 67))
  have hb := h1.st.get 0 (b := Nb) (t := 40) rfl
  exact ⟨⟨h1.set 0 rfl _, ho.setBox hb (by decide) _⟩, hb.cell, hb.frozen⟩

/-- What the rounds have read so far, and what is left; and where one has left. -/
def PrsK (w : World) (Nb B D l : Nat) (s : ByteArray) (r : Loop) (ws : List (List UInt8)) (A : World) : Prop := ∃ (pre : List (List UInt8)) (aN : Option Addr) (mN cN : Nat), pre ++ ws = pcs [] s.data.toList ∧ pre.length ≤ 16 ∧ (∀ u ∈ pre, u.length ≤ s.size) ∧ PrsJ w Nb B D l s r (pre.map prsA) A aN mN cN
def PrsX (w : World) (Nb B D l : Nat) (s : ByteArray) (r : Loop) (A : World) : Prop := ∃ (pre ws : List (List UInt8)) (aN : Option Addr) (mN cN : Nat), pre ++ ws = pcs [] s.data.toList ∧ pre.length = 17 ∧ (∀ u ∈ pre, u.length ≤ s.size) ∧ PrsJ w Nb B D l s r (pre.map prsA) A aN mN cN

set_option maxRecDepth 100000 in
theorem prsN_leave (w W : World) (tmps : Array Value) (D : Nat) (bx : List (Nat × TypeId × Value)) (h : BSt w bx [D] W) (a : Option Addr) (m c : Nat) (er : Int) (ns : List (Int × ByteArray)) (ho : OwnA W w.heap.size (.slice a m c) ns) (h2 : tmps[2]? = some (.slice a m c)) (h3 : tmps[3]? = some (.int .i64 er)) :
    LeavesInM Fence.wide 8 Tryz.prog Tryz.f77 tmps (fun e w' => ∃ a m c, e = .returned (.tuple #[.slice a m c, .int .i64 er]) ∧ OwnA w' w.heap.size (.slice a m c) ns ∧ Below w.heap.size w w') [{ target := .collected D, args := #[] }] .returning W := by
  have h1 := (h.dfr D (by simp)).2
  have h5 := h.take (by simp)
  refine ⟨by simp, .inl ⟨_, _, rfl, run_takeDeferred h1, ?_⟩⟩
  exact ⟨.tuple #[.slice a m c, .int .i64 er], by simp [results, Tryz.results77, go_sem, h2, h3, Array.getD_eq_getD_getElem?], a, m, c, rfl, ho.put h1 rfl _, h5.bel⟩

/-- What stands behind the attribute that was laid for append. -/
structure MidP (w W11 : World) (Nb B D l : Nat) (s : ByteArray) (r : Loop) (ns : List (Int × ByteArray)) (aN : Option Addr) (mN cN : Nat) (t : Int) (v : ByteArray) (X : World) (N : Nat) : Prop where
  j : PrsJ w Nb B D l s r ns X aN mN cN
  src : Ats X (some ⟨N, 0, none⟩) 1 1 [(t, v)]
theorem mk_midP {w W11 : World} {Nb B D l : Nat} {s : ByteArray} {r : Loop} {ns : List (Int × ByteArray)} {aN : Option Addr} {mN cN : Nat} {t : Int} {v : ByteArray} {P : World → Nat → Prop} {G : Prop}
    (h : Hid (∀ X N, MidP w W11 Nb B D l s r ns aN mN cN t v X N → P X N) → G) (k : ∀ X N, MidP w W11 Nb B D l s r ns aN mN cN t v X N → P X N) : G := h k
theorem prsA_len (u : List UInt8) : (prsA u).2.size ≤ u.length := by
  unfold prsA
  have h1 := unm_len (cutE u).2
  have h2 := (cutE_len u).2
  show (unmU (cutE u).2).toArray.size ≤ _
  simp
  omega

set_option maxRecDepth 100000 in
set_option maxHeartbeats 4000000 in
theorem parseN_in (s : ByteArray) (hs : s.size ≤ 1048576) (m : Int) (w : World) (hT : TabN w) (hM : MLn w m) :
    CallsIn Fence.wide 8 Tryz.prog 77 #[.string s] w fun e w' => ∃ a m c, e = .returned (.tuple #[.slice a m c, .int .i64 (pansE s)]) ∧ OwnA w' w.heap.size (.slice a m c) (pansN s) ∧ Below w.heap.size w w' := by
  have hb0 := bs_empty s
  by_cases h0 : s = ⟨#[]⟩
  · have e1 : pansN s = [] := by unfold pansN; rw [if_pos h0]
    have e2 : pansE s = 0 := by unfold pansE; rw [if_pos h0]
    rw [e1, e2]
    rw [decide_eq_true h0] at hb0
    clear h0 e1 e2
    refine callsIn_of_wp_marks Tryz.func77 rfl trivial ?_ rfl
    simp only [Tryz.ntmps77, List.size_toArray, List.length_cons, List.length_nil, Nat.reduceAdd, Nat.reduceSub, Array.replicate_succ, Array.replicate_zero, List.push_toArray, List.append_toArray, List.nil_append, List.cons_append]
    refine wpIn_wide.2 ?_
    go_wp2
    show LeavesInM _ _ _ _ _ _ _ _ _
    exact ⟨.tuple #[.slice none 0 0, .int .i64 0], by simp [results, Tryz.results77, go_sem], none, 0, 0, rfl, OwnA.nil _ _, Below.refl _ _⟩
  · have HA2 : Hid (True → okT s (prsN s.data.toList) = true → pansN s = prsN s.data.toList ∧ pansE s = 0) := fun _ hk => ⟨by unfold pansN; rw [if_neg h0, if_pos hk], by unfold pansE; rw [if_neg h0, if_pos hk]⟩
    have HA3 : Hid (True → okT s (prsN s.data.toList) = false → pansN s = [] ∧ pansE s = 120) := fun _ hk => ⟨by unfold pansN; rw [if_neg h0, if_neg (by rw [hk]; decide)], by unfold pansE; rw [if_neg h0, if_neg (by rw [hk]; decide)]⟩
    rw [decide_eq_false h0] at hb0
    have HD1 : Hid (∀ pre : List (List UInt8), pre = pcs [] s.data.toList → pre.length ≤ 16 → pre.map prsA = prsN s.data.toList) := fun pre h hl => by
      subst h
      unfold prsN
      rw [List.take_of_length_le (by rw [List.length_map]; omega)]
    have HD2 : Hid (∀ pre ws : List (List UInt8), pre ++ ws = pcs [] s.data.toList → pre.length = 17 → pre.map prsA = prsN s.data.toList) := fun pre ws h hl => by
      unfold prsN
      rw [← h, List.map_append, List.take_left' (by rw [List.length_map]; exact hl)]
    have HZP : Hid (∀ (pre : List (List UInt8)), (∀ u ∈ pre, u.length ≤ s.size) → ∀ x ∈ pre.map prsA, x.2.size ≤ 1048576) := fun pre h x hx => by
      obtain ⟨u, hu, rfl⟩ := List.mem_map.1 hx
      have := prsA_len u
      have := h u hu
      omega
    have HT := hide hT
    have HM := hide hM
    clear h0 hT hM
    generalize pansN s = AN at *
    generalize pansE s = AE at *
    generalize prsN s.data.toList = PN at *
    refine callsIn_of_wp_marks Tryz.func77 rfl trivial ?_ rfl
    simp only [Tryz.ntmps77, List.size_toArray, List.length_cons, List.length_nil, Nat.reduceAdd, Nat.reduceSub, Array.replicate_succ, Array.replicate_zero, List.push_toArray, List.append_toArray, List.nil_append, List.cons_append]
    refine wpIn_wide.2 ?_
    have bN0 := (Boxed.new w 40 (.slice none 0 0)).alloc (.cells #[.string s] 9)
    have bB0 := Boxed.new (w.alloc (.cells #[.slice none 0 0] 40)) 9 (.string s)
    rw [World.size_alloc] at bB0
    have B3 : Below w.heap.size w ((w.alloc (.cells #[.slice none 0 0] 40)).alloc (.cells #[.string s] 9)) := ((Below.refl _ w).alloc (Nat.le_refl _) _).alloc (by simp) _
    go_wp2_with (go_at_call 97; refine (parts_any s _).mono ?_; rintro e w' ⟨rfl, rfl⟩)
    have bst : BSt w (prsBx w.heap.size (w.heap.size + 1) (.slice none 0 0) s) [] ((w.alloc (.cells #[.slice none 0 0] 40)).alloc (.cells #[.string s] 9)) := BSt.mk2 bN0 bB0 ⟨Nat.le_refl _, Nat.lt_succ_self _⟩ B3
    obtain ⟨Nb, hNb⟩ : ∃ Nb, w.heap.size = Nb := ⟨_, rfl⟩
    obtain ⟨B, hB⟩ : ∃ B, Nb + 1 = B := ⟨_, rfl⟩
    have hNw : w.heap.size ≤ Nb := by omega
    have z0 : ((w.alloc (.cells #[.slice none 0 0] 40)).alloc (.cells #[.string s] 9)).heap.size = B + 1 := by simp; omega
    have zB0 : B < B + 1 := Nat.lt_succ_self _
    rw [hNb, hB] at bst
    generalize hW7 : (w.alloc (.cells #[.slice none 0 0] 40)).alloc (.cells #[.string s] 9) = w7 at *
    clear hW7 bN0 bB0 B3
    rw [hNb, hB]
    refine partsN_enter rfl ?_
    intro fn hfn
    generalize hrec : recOf fn _ _ _ _ _ = r
    have i8 := LSt.enter bst (r .ready none)
    generalize (w7.alloc (.deferred (some []))).alloc (.loop (r .ready none)) = W8 at i8 ⊢
    obtain ⟨D, hD⟩ : ∃ D, w7.heap.size = D := ⟨_, rfl⟩
    rw [hD] at i8 hrec ⊢
    have j8 : PrsJ w Nb B D (D + 1) s (r .ready none) (([] : List (List UInt8)).map prsA) W8 none 0 0 := ⟨i8, OwnA.nil _ _⟩
    clear i8 bst hD z0
    refine (parts1_in 7 (by decide) (D + 1) B s hs (PrsK w Nb B D (D + 1) s (r .ready none)) (PrsX w Nb B D (D + 1) s (r .done (some (.exit 0)))) W8 ?_ ?_ ?_ ⟨[], _, _, _, rfl, by simp, by simp, j8⟩).mono ?_
    · rintro ws A ⟨pre, aN, mN, cN, _, _, _, h⟩
      exact (h.st.st.get 1 rfl).cell
    · rintro ws A A' ⟨pre, aN, mN, cN, h1, h2, h3, h⟩ hb
      exact ⟨pre, aN, mN, cN, h1, h2, h3, h.below hb⟩
    · rintro u ws U ⟨pre, aN, mN, cN, hpw, hpl, hpu, hJ⟩ hul
      have hl := hJ.st.loop
      rw [← hrec] at hl
      refine range_round (a₁ := ?B2) hfn hl rfl ?_ ?_
      rotate_left
      · intro KK hKK
        gi_wp2
        exact hKK
      · rw [hrec]
        have HI := hide (hJ.turn (r .busy none))
        have hsn : (pre ++ [u]).map prsA = pre.map prsA ++ [prsA u] := by rw [List.map_append]; rfl
        have hdl : (pre.map prsA).length = pre.length := List.length_map _
        have hpx : (pre ++ [u]).length = pre.length + 1 := by simp
        have hpw2 : (pre ++ [u]) ++ ws = pcs [] s.data.toList := by rw [← hpw]; simp
        have hpu2 : ∀ v ∈ pre ++ [u], v.length ≤ s.size := fun v hv => by
          rcases List.mem_append.1 hv with h | h
          · exact hpu v h
          · simp at h; subst h; exact hul
        obtain ⟨ty, hty⟩ : ∃ ty, (prsA u).1 = ty := ⟨_, rfl⟩
        obtain ⟨sv, hsv⟩ : ∃ sv, (prsA u).2 = sv := ⟨_, rfl⟩
        have hsvl : sv.size ≤ 1048576 := by rw [← hsv]; have := prsA_len u; omega
        have hpr : prsA u = (ty, sv) := by rw [← hty, ← hsv]
        rw [hpr] at hsn
        obtain ⟨us, hus⟩ : ∃ us : ByteArray, (⟨u.toArray⟩ : ByteArray) = us := ⟨_, rfl⟩
        have husl : us.data.toList = u := by rw [← hus]
        have husz : us.size ≤ 1048576 := by rw [← bs_len, husl]; omega
        rw [hus]
        clear hl hJ hrec
        generalize U.putObj (D + 1) (.loop (r .busy none)) = W11 at *
        have HC : Hid (Calls Tryz.prog 98 #[.string us] W11.drew fun e w' => e = .returned (.agg #[.int .i64 ty, .string sv]) ∧ Below W11.drew.heap.size W11.drew w') := by
          have h6 := parsed_any us husz m W11.drew ((HT.out.below HI.out.st.st.bel).below (Below.refl _ _).drew) ((HM.out.below HI.out.st.st.bel).below (Below.refl _ _).drew)
          rw [husl, hpr] at h6
          exact h6
        have hcN := (HI.out.st.st.get 0 rfl).cell
        have HMK : Hid (∀ w9 : World, Below W11.drew.heap.size W11.drew w9 → MidP w W11 Nb B D (D + 1) s (r .busy none) (pre.map prsA) aN mN cN ty sv (w9.alloc (.cells #[.int .i64 ty, .string sv] 67)) w9.heap.size) := fun w9 B9 => by
          have B9' : Below W11.heap.size W11 w9 := ⟨B9.os, B9.tape, B9.output, B9.size, B9.block⟩
          have b9 := nbelow w9 (.cells #[.int .i64 ty, .string sv] 67)
          exact ⟨(HI.out.below B9').below b9, one_src w9 ty sv hsvl⟩
        clear hty hsv hpr hus husl husz hul hpu hpw
        gi_wp2
        refine wpIn_region_any (by kernel_rfl) (wpAnyIn_inRound (F := Fence.wide) _ rfl (ndE_of _ (by kernel_rfl)) _ _ _ _ ?_)
        change wpAnyIn _ _ _ _ _ _ _ _ _ (World.drew _)
        refine wpAnyIn_take (i := 1) (v := ?_) rfl rfl (by kernel_rfl) (by kernel_rfl) (by kernel_rfl) (fun _ _ _ h => h) ⟨Or.inl ⟨by rfl, ?_⟩, fun _ => rfl⟩ ?_
        rotate_left
        · intro wq
          go_simp
          try with_reducible rfl
        simp only [List.getElem_toArray, List.getElem_cons_succ, List.getElem_cons_zero, Act.put, List.setIfInBounds_toArray, List.set_cons_zero, List.set_cons_succ]
        refine' mk_midP (w := w) (W11 := W11) (Nb := Nb) (B := B) (D := D) (l := D + 1) (s := s) (r := r .busy none) (ns := pre.map prsA) (aN := aN) (mN := mN) (cN := cN) (t := ty) (v := sv) (fun REST => ?_) ?_
        rotate_left
        · skip
          refine wpAnyIn_ready (rs := [0, 2]) (by kernel_rfl) (by simp) ?_
          refine AllReadyIn.cons rfl (fun K hK => ?_) (AllReadyIn.cons rfl (fun K hK => ?_) AllReadyIn.nil)
          · go_simp
            refine hK _ _ ?_
            clear hK K
            refine wpAnyIn_ready (rs := [2]) (by kernel_rfl) (by simp) ?_
            refine AllReadyIn.cons rfl (fun K hK => ?_) AllReadyIn.nil
            go_simp
            refine ⟨trivial, ?_⟩
            refine (callsIn_wide.2 HC.out).mono ?_
            rintro e w9 ⟨rfl, B9⟩
            have cN9 := (B9.cell (lt_of_cell hcN)).trans hcN
            have HM9 := hide (HMK.out w9 B9)
            refine hK _ _ ?_
            clear hK K B9
            refine wpAnyIn_ready (rs := [3]) (by kernel_rfl) (by simp) ?_
            refine AllReadyIn.cons rfl (fun K hK => ?_) AllReadyIn.nil
            go_simp
            refine hK _ _ ?_
            clear hK K
            have HMx := HM9.out
            clear HM9
            generalize w9.heap.size = N9 at HMx ⊢
            generalize w9.alloc (.cells #[.int .i64 ty, .string sv] 67) = X9 at HMx ⊢
            exact REST.out X9 N9 HMx
          · go_simp
            refine ⟨trivial, ?_⟩
            refine (callsIn_wide.2 HC.out).mono ?_
            rintro e w9 ⟨rfl, B9⟩
            have cN9 := (B9.cell (lt_of_cell hcN)).trans hcN
            have HM9 := hide (HMK.out w9 B9)
            refine hK _ _ ?_
            clear hK K B9
            refine wpAnyIn_ready (rs := [0, 3]) (by kernel_rfl) (by simp) ?_
            refine AllReadyIn.cons rfl (fun K hK => ?_) (AllReadyIn.cons rfl (fun K hK => ?_) AllReadyIn.nil)
            · go_simp
              refine hK _ _ ?_
              clear hK K
              refine wpAnyIn_ready (rs := [3]) (by kernel_rfl) (by simp) ?_
              refine AllReadyIn.cons rfl (fun K hK => ?_) AllReadyIn.nil
              go_simp
              refine hK _ _ ?_
              clear hK K
              have HMx := HM9.out
              clear HM9
              generalize w9.heap.size = N9 at HMx ⊢
              generalize w9.alloc (.cells #[.int .i64 ty, .string sv] 67) = X9 at HMx ⊢
              exact REST.out X9 N9 HMx
            · go_simp
              refine hK _ _ ?_
              clear hK K
              have cN10 := (HM9.out.j.st.st.get 0 rfl).cell
              refine wpAnyIn_ready (rs := [0]) (by kernel_rfl) (by simp) ?_
              refine AllReadyIn.cons rfl (fun K hK => ?_) AllReadyIn.nil
              go_simp
              refine hK _ _ ?_
              clear hK K
              clear cN10
              have HMx := HM9.out
              clear HM9
              generalize w9.heap.size = N9 at HMx ⊢
              generalize w9.alloc (.cells #[.int .i64 ty, .string sv] 67) = X9 at HMx ⊢
              exact REST.out X9 N9 HMx
        · rintro X N ⟨hj, hsrc⟩
          obtain ⟨k, hk⟩ : ∃ k, pre.length = k := ⟨_, rfl⟩
          rw [hk] at hdl hpx hpl
          obtain ⟨g, cg, X2, hrun, o3, hg, hcg, hkc, hgr, hgw⟩ := run_appA X 40 w.heap.size _ _ hj.row ⟨N, 0, none⟩ 1 ty sv hsrc (k + 1) (by rw [hdl]) (by omega) hj.st.st.bel.size
          obtain ⟨hJ2, cN2, fN⟩ := hj.grow hgr o3
          rw [← hsn] at hJ2
          rw [appOf_of] at hrun
          refine wpAnyIn_ready (rs := [4]) (by kernel_rfl) (by simp) ?_
          refine AllReadyIn.cons rfl (fun K hK => ?_) AllReadyIn.nil
          go_simp
          refine hK _ _ ?_
          clear hK K
          refine wpAnyIn_ready (rs := [5]) (by kernel_rfl) (by simp) ?_
          refine AllReadyIn.cons rfl (fun K hK => ?_) AllReadyIn.nil
          go_simp
          refine hK _ _ ?_
          clear hK K
          refine wpAnyIn_done (by kernel_rfl) ?_ _
          have HJ2 := hide hJ2
          clear hrun o3 hgr hgw hJ2 fN cN2 hj hsrc hcN HC HMK
          generalize X2.setCell ⟨Nb, 0, none⟩ (.slice (some ⟨g, 0, none⟩) (k + 1) cg) = X3 at *
          have cN3 := (HJ2.out.st.st.get 0 rfl).cell
          have HPX := hide hpx
          have HPL := hide hpl
          have HPK := hide hk
          have HPW := hide hpw2
          have HPU := hide hpu2
          clear hpx hdl hsn hk hpl hpw2 hpu2
          by_cases h16 : k = 16
          · have hgt : (16 : Int) < (k : Int) + 1 := by omega
            have HL7 : Hid ((pre ++ [u]).length = 17) := by unfold Hid; rw [HPX.out, h16]
            clear h16
            gi_wp2
            exact ⟨HJ2.out.st.loop, .inr ⟨rfl, ⟨pre ++ [u], ws, _, _, _, HPW.out, HL7.out, HPU.out, HJ2.out.turn (r .done (some (.exit 0)))⟩⟩⟩
          · have hgt : ¬ (16 : Int) < (k : Int) + 1 := by have := HPL.out; omega
            have HL7 : Hid ((pre ++ [u]).length ≤ 16) := by unfold Hid; rw [HPX.out]; have := HPL.out; omega
            clear h16
            gi_wp2
            exact ⟨HJ2.out.st.loop, .inl ⟨rfl, ⟨pre ++ [u], _, _, _, HPW.out, HL7.out, HPU.out, HJ2.out.turn (r .ready none)⟩⟩⟩
    · rintro e W' ⟨⟨v, rfl⟩, ⟨pre, aN, mN, cN, hys, hyl, hyu, hJ⟩ | ⟨pre, ws, aN, mN, cN, hpre, hpl, hyu, hJ⟩⟩
      · have hDN2 := HD1.out pre (by simpa using hys) hyl
        have HZ := hide (HZP.out pre hyu)
        rw [hDN2] at hJ HZ
        have hl := hJ.st.loop
        rw [← hrec] at hl
        refine range_done hl ?_
        rw [hrec]
        have h2 := hide (hJ.turn (r .exhausted none))
        clear hJ hl hrec hyu hys hyl hDN2 HD1 HD2
        generalize W'.putObj (D + 1) (.loop (r .exhausted none)) = V9 at h2 ⊢
        have hz : ∀ x ∈ PN, x.2.size ≤ 1048576 := HZ.out
        have A2 := h2.out.row.ats hz
        have h3 := hide (textN_any aN mN cN PN V9 (HT.out.below h2.out.st.st.bel) A2 hz)
        have cN9 := (h2.out.st.st.get 0 rfl).cell
        have hE := encNE_ok PN
        have hkk : okT s PN = (nameL PN && decide (txT PN = s)) := rfl
        have hbq := bs_beq2 (txT PN) s
        clear A2 hz j8 HZ
        generalize encNE PN = en at *
        generalize txT PN = TX at *
        go_wp2_with fail
        refine h3.out.mono ?_
        rintro e V10 ⟨rfl, B10⟩
        have H10 := hide (h2.out.below B10)
        have cN10 := (H10.out.st.st.get 0 rfl).cell
        clear h3 h2 B10 cN9
        cases hn : nameL PN with
        | true =>
          rw [hn] at hE hkk
          rw [if_pos rfl] at hE
          subst hE
          by_cases hc : TX = s
          · rw [decide_eq_true hc] at hbq hkk
            obtain ⟨rfl, rfl⟩ := HA2.out (by trivial) hkk
            clear hkk hn HA2 HA3
            go_wp2
            show LeavesInM _ _ _ _ _ _ _ _ _
            exact prsN_leave w _ _ D _ H10.out.st.st _ _ _ _ _ H10.out.row rfl rfl
          · rw [decide_eq_false hc] at hbq hkk
            obtain ⟨rfl, rfl⟩ := HA3.out (by trivial) hkk
            clear hkk hn HA2 HA3
            go_wp2
            show LeavesInM _ _ _ _ _ _ _ _ _
            exact prsN_leave w _ _ D _ H10.out.st.st none 0 0 _ _ (OwnA.nil _ _) rfl rfl
        | false =>
          rw [hn] at hE hkk
          rw [if_neg (by decide)] at hE
          subst hE
          obtain ⟨rfl, rfl⟩ := HA3.out (by trivial) (by rw [hkk]; rfl)
          clear hkk hn HA2 HA3 hbq
          go_wp2
          show LeavesInM _ _ _ _ _ _ _ _ _
          exact prsN_leave w _ _ D _ H10.out.st.st none 0 0 _ _ (OwnA.nil _ _) rfl rfl
      · have hDN2 := HD2.out pre ws hpre hpl
        have HZ := hide (HZP.out pre hyu)
        rw [hDN2] at hJ HZ
        have hl := hJ.st.loop
        rw [← hrec] at hl
        refine range_left hl ?_
        rw [hrec]
        have h2 := hide (hJ.turn (r .exhausted (some (.exit 0))))
        clear hJ hl hrec hyu hpre hpl hDN2 HD1 HD2
        generalize W'.putObj (D + 1) (.loop (r .exhausted (some (.exit 0)))) = V9 at h2 ⊢
        gi_wp2
        have hz : ∀ x ∈ PN, x.2.size ≤ 1048576 := HZ.out
        have A2 := h2.out.row.ats hz
        have h3 := hide (textN_any aN mN cN PN V9 (HT.out.below h2.out.st.st.bel) A2 hz)
        have cN9 := (h2.out.st.st.get 0 rfl).cell
        have hE := encNE_ok PN
        have hkk : okT s PN = (nameL PN && decide (txT PN = s)) := rfl
        have hbq := bs_beq2 (txT PN) s
        clear A2 hz j8 HZ
        generalize encNE PN = en at *
        generalize txT PN = TX at *
        go_wp2_with fail
        refine h3.out.mono ?_
        rintro e V10 ⟨rfl, B10⟩
        have H10 := hide (h2.out.below B10)
        have cN10 := (H10.out.st.st.get 0 rfl).cell
        clear h3 h2 B10 cN9
        cases hn : nameL PN with
        | true =>
          rw [hn] at hE hkk
          rw [if_pos rfl] at hE
          subst hE
          by_cases hc : TX = s
          · rw [decide_eq_true hc] at hbq hkk
            obtain ⟨rfl, rfl⟩ := HA2.out (by trivial) hkk
            clear hkk hn HA2 HA3
            go_wp2
            show LeavesInM _ _ _ _ _ _ _ _ _
            exact prsN_leave w _ _ D _ H10.out.st.st _ _ _ _ _ H10.out.row rfl rfl
          · rw [decide_eq_false hc] at hbq hkk
            obtain ⟨rfl, rfl⟩ := HA3.out (by trivial) hkk
            clear hkk hn HA2 HA3
            go_wp2
            show LeavesInM _ _ _ _ _ _ _ _ _
            exact prsN_leave w _ _ D _ H10.out.st.st none 0 0 _ _ (OwnA.nil _ _) rfl rfl
        | false =>
          rw [hn] at hE hkk
          rw [if_neg (by decide)] at hE
          subst hE
          obtain ⟨rfl, rfl⟩ := HA3.out (by trivial) (by rw [hkk]; rfl)
          clear hkk hn HA2 HA3 hbq
          go_wp2
          show LeavesInM _ _ _ _ _ _ _ _ _
          exact prsN_leave w _ _ D _ H10.out.st.st none 0 0 _ _ (OwnA.nil _ _) rfl rfl

end Go.Proofs.YthnfhkmonfkceaaGreatDoor
