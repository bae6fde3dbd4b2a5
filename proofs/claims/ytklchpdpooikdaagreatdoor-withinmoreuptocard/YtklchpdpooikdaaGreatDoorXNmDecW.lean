/-
  name.Decode: its walk.
-/
import Derived.Test.YtklchpdpooikdaaGreatDoorXNmRDcToNmDec
namespace Go.Proofs.YtklchpdpooikdaaGreatDoor
open Go.RowKit Go.Shelf Go.IntWalk
attribute [local go_sem] Oper.semAt_some
attribute [local go_sem ↓] appOf_of

/-- What stands behind the attribute that was laid for append. -/
structure MidD (w W11 : World) (Nb B D N0 E : Nat) (aK : Option Addr) (m cK : Nat) (C : List Int) (r : Loop) (l : Nat) (ns : List (Int × ByteArray)) (aN : Option Addr) (mN cN : Nat) (t : Int) (s : ByteArray) (X : World) (N : Nat) : Prop where
  j : DecJ w Nb B D N0 E aK m cK C r l ns X aN mN cN
  src : Ats X (some ⟨N, 0, none⟩) 1 1 [(t, s)]
  bel : Below W11.heap.size W11 X
theorem mk_midD {w W11 : World} {Nb B D N0 E : Nat} {aK : Option Addr} {m cK : Nat} {C : List Int} {r : Loop} {l : Nat} {ns : List (Int × ByteArray)} {aN : Option Addr} {mN cN : Nat} {t : Int} {s : ByteArray} {P : World → Nat → Prop} {G : Prop}
    (h : Hid (∀ X N, MidD w W11 Nb B D N0 E aK m cK C r l ns aN mN cN t s X N → P X N) → G) (k : ∀ X N, MidD w W11 Nb B D N0 E aK m cK C r l ns aN mN cN t s X N → P X N) : G := h k

set_option maxRecDepth 100000 in
set_option maxHeartbeats 4000000 in
theorem decodeN_in (ao : Option Addr) (n cap : Nat) (xs : List Int) (w : World) (hs : Src w ao n cap xs) (hN : n ≤ 1048576) :
    CallsIn Fence.wide 8 Tryz.prog 86 #[.slice ao n cap] w fun e w' => ∃ a m c, e = .returned (.tuple #[.slice a m c, .int .i64 (ansE xs)]) ∧ OwnA w' w.heap.size (.slice a m c) (ansN xs) ∧ Below w.heap.size w w' := by
  have h1 := hide (one_any ao n cap xs w hs (by omega))
  have HS := hide hs
  have HSW : Hid (∀ V, Below w.heap.size w V → Src V ao n cap xs) := fun V hb => hs.below hb
  have HA1 : Hid ((oneS xs).2.2 ≠ 0 → ansN xs = [] ∧ ansE xs = (oneS xs).2.2) := fun h => ⟨by unfold ansN; rw [if_pos h], by unfold ansE; rw [if_pos h]⟩
  have HA2 : Hid ((oneS xs).2.2 = 0 → okN xs (decN xs) = true → ansN xs = decN xs ∧ ansE xs = 0) := fun h hk => by
    have h' : ¬ ((oneS xs).2.2 ≠ 0) := by simpa using h
    exact ⟨by unfold ansN; rw [if_neg h', if_pos hk], by unfold ansE; rw [if_neg h', if_pos hk]⟩
  have HA3 : Hid ((oneS xs).2.2 = 0 → okN xs (decN xs) = false → ansN xs = [] ∧ ansE xs = 120) := fun h hk => by
    have h' : ¬ ((oneS xs).2.2 ≠ 0) := by simpa using h
    exact ⟨by unfold ansN; rw [if_neg h', if_neg (by rw [hk]; decide)], by unfold ansE; rw [if_neg h', if_neg (by rw [hk]; decide)]⟩
  have HD1 : Hid (∀ ys : List (Pl (oneS xs).2.1), ys.map (·.1) = placesS (oneS xs).2.1 0 → ys.length ≤ 16 → dlN (oneS xs).2.1 ys = decN xs) := fun ys h hl => dlN_all rfl h hl
  have HD2 : Hid (∀ ys : List (Pl (oneS xs).2.1), ys.map (·.1) <+: placesS (oneS xs).2.1 0 → ys.length = 17 → dlN (oneS xs).2.1 ys = decN xs) := fun ys h hl => dlN_pre rfl h hl
  have HCb := hide (oneS_byte xs hs.hbyt)
  have HCl : Hid ((oneS xs).2.1.length ≤ n) := by have := one_len xs; rw [hs.hlen] at this; exact this
  clear hs
  generalize ansN xs = AN at *
  generalize ansE xs = AE at *
  generalize hDN : decN xs = DN at *
  generalize (oneS xs).2.2 = er at *
  generalize (oneS xs).1 = tg at *
  generalize (oneS xs).2.1 = C at *
  refine callsIn_of_wp_marks Tryz.func86 rfl trivial ?_ rfl
  simp only [Tryz.ntmps86, List.size_toArray, List.length_cons, List.length_nil, Nat.reduceAdd, Nat.reduceSub, Array.replicate_succ, Array.replicate_zero, List.push_toArray, List.append_toArray, List.nil_append, List.cons_append]
  refine wpIn_wide.2 ?_
  go_wp2_with fail
  refine h1.out.mono ?_
  rintro e w1 ⟨a1, m1, c1, rfl, o1, B1⟩
  have s1 := o1.toSrc HCb.out
  have hm1 := s1.hlen
  have hm1b := HCl.out
  have HS1 := hide (HS.out.below B1)
  clear h1 HS o1
  by_cases h0 : er = 0
  · subst h0
    have e0 : ((0 : Int) != 0) = false := rfl
    have bW := nbelow w1 (.cells #[.int .i64 tg, .slice a1 m1 c1] 130)
    have cW : (w1.alloc (.cells #[.int .i64 tg, .slice a1 m1 c1] 130)).cell? ⟨w1.heap.size, 1, none⟩ = some (.slice a1 m1 c1) := by simp
    have s2 := s1.below bW
    have HS2 := HS1.out.below bW
    have B2 := B1.trans (bW.mono B1.size)
    have bN0 := Boxed.new (w1.alloc (.cells #[.int .i64 tg, .slice a1 m1 c1] 130)) 61 (.slice none 0 0)
    rw [World.size_alloc] at bN0
    have bX := nbelow (w1.alloc (.cells #[.int .i64 tg, .slice a1 m1 c1] 130)) (.cells #[.slice none 0 0] 61)
    have cW2 := (bX.cell (p := ⟨w1.heap.size, 1, none⟩) (lt_of_cell cW)).trans cW
    have s3 := s2.below bX
    have HS3 := hide (HS2.below bX)
    have B3 := B2.trans (bX.mono B2.size)
    clear bW cW s1 s2 bX B2 HS1 HS2
    go_wp2_with fail
    generalize hW3 : (w1.alloc (.cells #[.int .i64 tg, .slice a1 m1 c1] 130)).alloc (.cells #[.slice none 0 0] 61) = W3 at *
    have z3 : w1.heap.size + 1 < W3.heap.size := by rw [← hW3]; simp
    have zw : w.heap.size ≤ w1.heap.size := B1.size
    clear hW3
    refine (each_any a1 m1 c1 C W3 s3 (by omega)).mono ?_
    rintro e w7 ⟨aK, cK, B, rfl, HKp, hB, bB, B7⟩
    have bst : BSt w (decBx (w1.heap.size + 1) B (.slice none 0 0) (.slice aK m1 cK)) [] w7 := BSt.mk2 ((B7.block _ bN0.lt).trans bN0) bB ⟨by omega, by omega⟩ (B3.trans (B7.mono B3.size))
    have zB : B < w7.heap.size := bB.lt
    have z7 : W3.heap.size ≤ w7.heap.size := B7.size
    have HKP := hide HKp
    have HS7 := hide (HS3.out.below B7)
    obtain ⟨Nb, hNb⟩ : ∃ Nb, w1.heap.size + 1 = Nb := ⟨_, rfl⟩
    rw [hNb] at bst z3 ⊢
    have zN : w.heap.size ≤ Nb := by omega
    obtain ⟨E, hE⟩ : ∃ E, W3.heap.size = E := ⟨_, rfl⟩
    rw [hE] at HKP z7 z3 hB
    clear bN0 bB B3 B7 HKp HS3 s3 cW2 hE
    go_wp2_with fail
    refine eachN_enter rfl ?_
    intro fn hfn
    generalize hrec : recOf fn _ _ _ _ _ = r
    have i8 := LSt.enter bst (r .ready none)
    have oC8 := row_below HKP.out (((Below.refl _ w7).alloc (Nat.le_refl _) (.deferred (some []))).alloc (by simp) (.loop (r .ready none)))
    have z8 : ((w7.alloc (.deferred (some []))).alloc (.loop (r .ready none))).heap.size = w7.heap.size + 1 + 1 := by simp
    have HS8 := hide (HS7.out.below (((Below.refl _ w7).alloc (Nat.le_refl _) (.deferred (some []))).alloc (by simp) (.loop (r .ready none))))
    generalize (w7.alloc (.deferred (some []))).alloc (.loop (r .ready none)) = W8 at i8 oC8 z8 HS8 ⊢
    obtain ⟨D, hD⟩ : ∃ D, w7.heap.size = D := ⟨_, rfl⟩
    rw [hD] at i8 z8 zB z7 hrec ⊢
    have j8 : DecJ w Nb B D (D + 2) E aK m1 cK C (r .ready none) (D + 1) (dlN C []) W8 none 0 0 := ⟨i8, OwnA.nil _ _, by intro g h; simp [Value.ownBlock] at h, oC8⟩
    clear i8 oC8 bst HKP HS7 hD
    refine (eachE_J (D + 1) B aK m1 cK C (by omega) (fun pre A => pre.length ≤ 16 ∧ ∃ aN mN cN, DecJ w Nb B D (D + 2) E aK m1 cK C (r .ready none) (D + 1) (dlN C pre) A aN mN cN) (fun pre A => pre.length = 17 ∧ ∃ aN mN cN, DecJ w Nb B D (D + 2) E aK m1 cK C (r .done (some (.exit 0))) (D + 1) (dlN C pre) A aN mN cN) W8 ?_ ?_ ?_ ?_ ?_ ⟨by simp, _, _, _, j8⟩).mono ?_
    · rintro pre A ⟨_, aN, mN, cN, h⟩
      exact ⟨OwnB.toSrc h.src HCb.out, h.st.st.get 1 rfl⟩
    · rintro pre A A' ⟨hl, aN, mN, cN, h⟩ hb
      exact ⟨hl, aN, mN, cN, h.below hb⟩
    · rintro pre A k o x ⟨hl, aN, mN, cN, h⟩ hk hx hc
      rw [z8] at hk
      exact ⟨hl, aN, mN, cN, h.put hx hc o (by omega) (by omega) (by omega) (by omega) (by omega) (by omega)⟩
    · rintro pre A k o x ⟨hl, aN, mN, cN, h⟩ hk hx hc
      rw [z8] at hk
      exact ⟨hl, aN, mN, cN, h.put hx hc o (by omega) (by omega) (by omega) (by omega) (by omega) (by omega)⟩
    · rintro pre x U v ⟨hpl, aN, mN, cN, hJ⟩ hsz ho hlen hpfx
      rw [z8] at ho hsz ⊢
      have hl := hJ.st.loop
      obtain ⟨av, mv, cv, hv⟩ : ∃ av mv cv, v = .slice av mv cv := by
        rcases OwnB.split ho with ⟨h, _⟩ | ⟨gq, cq, h, _⟩
        · exact ⟨_, _, _, h⟩
        · exact ⟨_, _, _, h⟩
      subst hv
      obtain ⟨t, ht⟩ : ∃ t, (findS (C.drop x.1)).1 = t := ⟨_, rfl⟩
      rw [ht]
      have hU : D + 1 < U.heap.size := (Array.getElem?_eq_some_iff.1 hl).1
      have bU := nbelow U (.cells #[.int .i64 t, .slice av mv cv] 130)
      have hJ1 := hJ.below bU
      have oU := row_below ho bU
      have oX0 := hide (row_kept oU (grownBy_putObj' _ (D + 1) (.loop (r .busy none))) (fun q e c hc => by cases e; rw [hJ1.st.loop] at hc; cases hc))
      rw [← hrec] at hl
      have hl1 : (U.alloc (.cells #[.int .i64 t, .slice av mv cv] 130)).heap[D + 1]? = some (.loop (recOf fn _ _ _ _ _ .ready none)) := (Below.heap_alloc _ _ _ (by omega)).trans hl
      refine range_roundA (a₁ := ?B2) hfn hl rfl hl1 ?_ ?_
      rotate_left
      · intro KK hKK
        gi_wp2
        exact hKK
      · rw [hrec]
        have HI := hide (hJ1.turn (r .busy none))
        have GG := hide (((GB.refl (SdN Nb (D + 1) (.slice aN mN cN)) U).belowA bU).step (grownBy_putObj' _ (D + 1) (.loop (r .busy none))) (fun _ h => h) (fun q hq => by cases hq; exact .inr (.inl rfl)))
        have KJ := hide (fun Z (h : GB (SdN Nb (D + 1) (.slice aN mN cN)) U Z) => KJe.of hJ h hsz (by omega) (by omega))
        have xb : ((U.alloc (.cells #[.int .i64 t, .slice av mv cv] 130)).putObj (D + 1) (.loop (r .busy none))).heap[U.heap.size]? = some (.cells #[.int .i64 t, .slice av mv cv] 130) := (World.putObj_heap_other (by omega)).trans (World.alloc_heap_new _ _)
        have hzb : Byt (contS (C.drop x.1)) := contS_byte _ (fun y hy => HCb.out y (List.mem_of_mem_drop hy))
        have hzl : (contS (C.drop x.1)).length ≤ 1048576 := by
          have h5 := cont_len (C.drop x.1)
          rw [List.length_drop] at h5
          omega
        have hsn := dlN_snoc C pre x
        have hdl := dlN_len C pre
        have hpx : (pre ++ [x]).length = pre.length + 1 := by simp
        have hfar : D + 2 + 4 ≤ ((U.alloc (.cells #[.int .i64 t, .slice av mv cv] 130)).putObj (D + 1) (.loop (r .busy none))).heap.size := by have := GG.out.size; omega
        obtain ⟨zs, hzs⟩ : ∃ zs, contS (C.drop x.1) = zs := ⟨_, rfl⟩
        rw [hzs] at hzb hzl hsn oX0
        obtain ⟨ty, hty⟩ : ∃ ty, (dcA zs).1 = ty := ⟨_, rfl⟩
        obtain ⟨sv, hsv⟩ : ∃ sv, (dcA zs).2 = sv := ⟨_, rfl⟩
        have hsvl : sv.size ≤ 1048576 := by rw [← hsv]; have := dcA_len zs; omega
        have hpr : dcA zs = (ty, sv) := by rw [← hty, ← hsv]
        rw [hpr] at hsn
        clear bU hJ1 oU hl hl1 hJ hsz ho hlen hpfx ht hzs hU hrec
        generalize (U.alloc (.cells #[.int .i64 t, .slice av mv cv] 130)).putObj (D + 1) (.loop (r .busy none)) = W11 at *
        have sX := OwnB.toSrc oX0.out hzb
        have hmv := sX.hlen
        have HC : Hid (Calls Tryz.prog 120 #[.agg #[.int .i64 t, .slice av mv cv]] W11.drew fun e w' => e = .returned (.agg #[.int .i64 ty, .string sv]) ∧ Below W11.drew.heap.size W11.drew w') := by
          have h6 := decoded_any t av mv cv zs W11.drew (sX.drewN 1) (by omega)
          rw [hpr] at h6
          exact h6
        have hcN := (HI.out.st.st.get 0 rfl).cell
        obtain ⟨x0, x1⟩ : W11.cell? ⟨U.heap.size, 0, none⟩ = some (.int .i64 t) ∧ W11.cell? ⟨U.heap.size, 1, none⟩ = some (.slice av mv cv) := by simp [World.cell?, xb]
        have HMK : Hid (∀ w9 : World, Below W11.drew.heap.size W11.drew w9 → MidD w W11 Nb B D (D + 2) E aK m1 cK C (r .busy none) (D + 1) (dlN C pre) aN mN cN ty sv (w9.alloc (.cells #[.int .i64 ty, .string sv] 111)) w9.heap.size) := fun w9 B9 => by
          have B9' : Below W11.heap.size W11 w9 := ⟨B9.os, B9.tape, B9.output, B9.size, B9.block⟩
          have b9 := nbelow w9 (.cells #[.int .i64 ty, .string sv] 111)
          exact ⟨(HI.out.below B9').below b9, one_src w9 ty sv hsvl, B9'.trans (b9.mono B9'.size)⟩
        clear sX oX0 hzb hzl xb hty hsv hpr
        gi_wp2
        refine wpIn_region_any (by kernel_rfl) (wpAnyIn_inRound (F := Fence.wide) _ rfl (ndE_of _ (by kernel_rfl)) _ _ _ _ ?_)
        change wpAnyIn _ _ _ _ _ _ _ _ _ (World.drew _)
        refine' mk_midD (w := w) (W11 := W11) (Nb := Nb) (B := B) (D := D) (N0 := D + 2) (E := E) (aK := aK) (m := m1) (cK := cK) (C := C) (r := r .busy none) (l := D + 1) (ns := dlN C pre) (aN := aN) (mN := mN) (cN := cN) (t := ty) (s := sv) (fun REST => ?_) ?_
        rotate_left
        · skip
          refine wpAnyIn_ready (rs := [0, 1]) (by kernel_rfl) (by simp) ?_
          refine AllReadyIn.cons rfl (fun K hK => ?_) (AllReadyIn.cons rfl (fun K hK => ?_) AllReadyIn.nil)
          · go_simp
            refine hK _ _ ?_
            clear hK K
            refine wpAnyIn_ready (rs := [1]) (by kernel_rfl) (by simp) ?_
            refine AllReadyIn.cons rfl (fun K hK => ?_) AllReadyIn.nil
            go_simp
            refine hK _ _ ?_
            clear hK K
            refine wpAnyIn_ready (rs := [2]) (by kernel_rfl) (by simp) ?_
            refine AllReadyIn.cons rfl (fun K hK => ?_) AllReadyIn.nil
            go_simp
            refine ⟨trivial, ?_⟩
            refine (callsIn_wide.2 HC.out).mono ?_
            rintro e w9 ⟨rfl, B9⟩
            have cN9 := (B9.cell (lt_of_cell hcN)).trans hcN
            have HM9 := hide (HMK.out w9 B9)
            refine hK _ _ ?_
            clear hK K B9
            refine wpAnyIn_ready (rs := [3]) (by kernel_rfl) (by simp) ?_
            refine AllReadyIn.cons rfl (fun K hK => ?_) AllReadyIn.nil
            go_simp
            refine hK _ _ ?_
            clear hK K
            have HMx := HM9.out
            clear HM9
            generalize w9.heap.size = N9 at HMx ⊢
            generalize w9.alloc (.cells #[.int .i64 ty, .string sv] 111) = X9 at HMx ⊢
            exact REST.out X9 N9 HMx
          · go_simp
            refine hK _ _ ?_
            clear hK K
            refine wpAnyIn_ready (rs := [0, 2]) (by kernel_rfl) (by simp) ?_
            refine AllReadyIn.cons rfl (fun K hK => ?_) (AllReadyIn.cons rfl (fun K hK => ?_) AllReadyIn.nil)
            · go_simp
              refine hK _ _ ?_
              clear hK K
              refine wpAnyIn_ready (rs := [2]) (by kernel_rfl) (by simp) ?_
              refine AllReadyIn.cons rfl (fun K hK => ?_) AllReadyIn.nil
              go_simp
              refine ⟨trivial, ?_⟩
              refine (callsIn_wide.2 HC.out).mono ?_
              rintro e w9 ⟨rfl, B9⟩
              have cN9 := (B9.cell (lt_of_cell hcN)).trans hcN
              have HM9 := hide (HMK.out w9 B9)
              refine hK _ _ ?_
              clear hK K B9
              refine wpAnyIn_ready (rs := [3]) (by kernel_rfl) (by simp) ?_
              refine AllReadyIn.cons rfl (fun K hK => ?_) AllReadyIn.nil
              go_simp
              refine hK _ _ ?_
              clear hK K
              have HMx := HM9.out
              clear HM9
              generalize w9.heap.size = N9 at HMx ⊢
              generalize w9.alloc (.cells #[.int .i64 ty, .string sv] 111) = X9 at HMx ⊢
              exact REST.out X9 N9 HMx
            · go_simp
              refine ⟨trivial, ?_⟩
              refine (callsIn_wide.2 HC.out).mono ?_
              rintro e w9 ⟨rfl, B9⟩
              have cN9 := (B9.cell (lt_of_cell hcN)).trans hcN
              have HM9 := hide (HMK.out w9 B9)
              refine hK _ _ ?_
              clear hK K B9
              refine wpAnyIn_ready (rs := [0, 3]) (by kernel_rfl) (by simp) ?_
              refine AllReadyIn.cons rfl (fun K hK => ?_) (AllReadyIn.cons rfl (fun K hK => ?_) AllReadyIn.nil)
              · go_simp
                refine hK _ _ ?_
                clear hK K
                refine wpAnyIn_ready (rs := [3]) (by kernel_rfl) (by simp) ?_
                refine AllReadyIn.cons rfl (fun K hK => ?_) AllReadyIn.nil
                go_simp
                refine hK _ _ ?_
                clear hK K
                have HMx := HM9.out
                clear HM9
                generalize w9.heap.size = N9 at HMx ⊢
                generalize w9.alloc (.cells #[.int .i64 ty, .string sv] 111) = X9 at HMx ⊢
                exact REST.out X9 N9 HMx
              · go_simp
                refine hK _ _ ?_
                clear hK K
                have cN10 := (HM9.out.j.st.st.get 0 rfl).cell
                refine wpAnyIn_ready (rs := [0]) (by kernel_rfl) (by simp) ?_
                refine AllReadyIn.cons rfl (fun K hK => ?_) AllReadyIn.nil
                go_simp
                refine hK _ _ ?_
                clear hK K
                clear cN10
                have HMx := HM9.out
                clear HM9
                generalize w9.heap.size = N9 at HMx ⊢
                generalize w9.alloc (.cells #[.int .i64 ty, .string sv] 111) = X9 at HMx ⊢
                exact REST.out X9 N9 HMx
        · rintro X N ⟨hj, hsrc, hbel⟩
          obtain ⟨k, hk⟩ : ∃ k, pre.length = k := ⟨_, rfl⟩
          rw [hk] at hdl hpx hpl
          obtain ⟨g, cg, X2, hrun, o3, hg, hcg, hkc, hgr, hgw⟩ := run_appA X 61 w.heap.size _ _ hj.row ⟨N, 0, none⟩ 1 ty sv hsrc (k + 1) (by rw [hdl]) (by omega) hj.st.st.bel.size
          have hf : D + 2 + 4 ≤ g := by
            rcases hgw with h | h
            · exact hj.far g h
            · have := hbel.size; omega
          have hJ2 := hj.grow hgr o3 hf
          have fN := ((hj.st.grownA hj.row hgr (by intro y hy; simp only [decBx, List.mem_cons, List.not_mem_nil, or_false] at hy; rcases hy with rfl | rfl; exact (by decide : (61 : TypeId) ≠ 111); exact (by decide : (64 : TypeId) ≠ 111))).st.get 0 rfl).frozen
          have cN2 := ((hj.st.grownA hj.row hgr (by intro y hy; simp only [decBx, List.mem_cons, List.not_mem_nil, or_false] at hy; rcases hy with rfl | rfl; exact (by decide : (61 : TypeId) ≠ 111); exact (by decide : (64 : TypeId) ≠ 111))).st.get 0 rfl).cell
          rw [← hsn] at hJ2
          have g2 := ((GG.out.belowA hbel).step hgr (fun _ h => h) (fun q hq => .inr (.inr hq))).step (grownBy_setCell' X2 Nb (.slice (some ⟨g, 0, none⟩) (k + 1) cg)) (fun _ h => h) (fun q hq => by cases hq; exact .inl rfl)
          rw [appOf_of] at hrun
          refine wpAnyIn_ready (rs := [4]) (by kernel_rfl) (by simp) ?_
          refine AllReadyIn.cons rfl (fun K hK => ?_) AllReadyIn.nil
          go_simp
          refine hK _ _ ?_
          clear hK K
          refine wpAnyIn_ready (rs := [5]) (by kernel_rfl) (by simp) ?_
          refine AllReadyIn.cons rfl (fun K hK => ?_) AllReadyIn.nil
          go_simp
          refine hK _ _ ?_
          clear hK K
          refine wpAnyIn_done (by kernel_rfl) ?_ _
          have HJ2 := hide hJ2
          have G2 := hide g2
          clear hrun o3 hgr hgw hJ2 g2 fN cN2 hj hsrc hbel hcN HC HMK
          generalize X2.setCell ⟨Nb, 0, none⟩ (.slice (some ⟨g, 0, none⟩) (k + 1) cg) = X3 at *
          have cN3 := (HJ2.out.st.st.get 0 rfl).cell
          have HPX := hide hpx
          have HPL := hide hpl
          have HPK := hide hk
          clear hpx hdl hsn hk hpl
          by_cases h16 : k = 16
          · have hgt : (16 : Int) < (k : Int) + 1 := by omega
            have HL7 : Hid (pre.length = 16 ∧ (pre ++ [x]).length = 17) := ⟨by rw [HPK.out]; exact h16, by rw [HPX.out, h16]⟩
            clear h16
            gi_wp2
            exact ⟨HJ2.out.st.loop, .inr ⟨rfl, ⟨by first | exact HL7.out.2 | exact HL7.out.1, _, _, _, HJ2.out.turn (r .done (some (.exit 0)))⟩, KJ.out _ (G2.out.step (grownBy_putObj' _ (D + 1) (.loop (r .done (some (.exit 0))))) (fun _ h => h) (fun q hq => by cases hq; exact .inr (.inl rfl)))⟩⟩
          · have hgt : ¬ (16 : Int) < (k : Int) + 1 := by have := HPL.out; omega
            have HL7 : Hid (pre.length ≤ 15 ∧ (pre ++ [x]).length ≤ 16) := ⟨by rw [HPK.out]; have := HPL.out; omega, by rw [HPX.out]; have := HPL.out; omega⟩
            clear h16
            gi_wp2
            exact ⟨HJ2.out.st.loop, .inl ⟨rfl, ⟨by first | exact HL7.out.2 | exact HL7.out.1, _, _, _, HJ2.out.turn (r .ready none)⟩, KJ.out _ (G2.out.step (grownBy_putObj' _ (D + 1) (.loop (r .ready none))) (fun _ h => h) (fun q hq => by cases hq; exact .inr (.inl rfl)))⟩⟩
    · rintro e W' ⟨⟨v, rfl⟩, ⟨ys, hys, hyl, aN, mN, cN, hJ⟩ | ⟨pre, hpre, hpl, aN, mN, cN, hJ⟩⟩
      · have hDN2 := HD1.out ys hys hyl
        rw [hDN2] at hJ
        have hl := hJ.st.loop
        rw [← hrec] at hl
        refine range_done hl ?_
        rw [hrec]
        have h2 := hide (hJ.turn (r .exhausted none))
        clear hJ hl hrec
        generalize W'.putObj (D + 1) (.loop (r .exhausted none)) = V9 at h2 ⊢
        have hz : ∀ x ∈ DN, x.2.size ≤ 1048576 := by
          intro x hx
          rw [← hDN2] at hx
          have := dlN_size C _ x hx
          omega
        have A2 := h2.out.row.ats hz
        have h3 := hide (encodeN_any aN mN cN DN V9 A2 hz)
        have HS9 := HS8.out
        have cN9 := (h2.out.st.st.get 0 rfl).cell
        have hE := encNE_ok DN
        have hkk := okN_of (xs := xs) (n := DN)
        have HEB : Hid (∀ x ∈ encNC DN, 0 ≤ x ∧ x < 256) := encNC_byte DN
        have HSX := hide (HSW.out V9 h2.out.st.st.bel)
        clear A2 hz hDN2 j8 HS9 HS8 HD1 HD2
        generalize encNE DN = en at *
        generalize encNC DN = EC at *
        go_wp2_with fail
        refine h3.out.mono ?_
        rintro e V10 ⟨a3, m3, c3, rfl, o3, B10⟩
        have s3 := o3.toSrc HEB.out
        have H10 := hide (h2.out.below B10)
        have s0 := HSX.out.below B10
        have cN10 := (H10.out.st.st.get 0 rfl).cell
        have heq := hide (equalN_any a3 m3 c3 EC ao n cap xs V10 s3 s0)
        clear h3 o3 s3 s0 h2 B10 HEB HSX cN9
        cases hn : nameL DN with
        | true =>
          rw [hn] at hE hkk
          rw [if_pos rfl] at hE
          subst hE
          by_cases hc : EC = xs
          · rw [decide_eq_true hc] at heq hkk
            obtain ⟨rfl, rfl⟩ := HA2.out (by trivial) hkk
            clear hkk hn HA1 HA2 HA3
            go_wp2_with fail
            refine heq.out.mono ?_
            rintro e V11 ⟨rfl, rfl⟩
            go_wp2
            show LeavesInM _ _ _ _ _ _ _ _ _
            exact decN_leave w _ _ D _ H10.out.st.st _ _ _ _ _ H10.out.row rfl rfl
          · rw [decide_eq_false hc] at heq hkk
            obtain ⟨rfl, rfl⟩ := HA3.out (by trivial) hkk
            clear hkk hn HA1 HA2 HA3
            go_wp2_with fail
            refine heq.out.mono ?_
            rintro e V11 ⟨rfl, rfl⟩
            go_wp2
            show LeavesInM _ _ _ _ _ _ _ _ _
            exact decN_leave w _ _ D _ H10.out.st.st none 0 0 _ _ (OwnA.nil _ _) rfl rfl
        | false =>
          rw [hn] at hE hkk
          rw [if_neg (by decide)] at hE
          subst hE
          obtain ⟨rfl, rfl⟩ := HA3.out (by trivial) (by rw [hkk]; rfl)
          clear hkk hn HA1 HA2 HA3 heq
          go_wp2
          show LeavesInM _ _ _ _ _ _ _ _ _
          exact decN_leave w _ _ D _ H10.out.st.st none 0 0 _ _ (OwnA.nil _ _) rfl rfl
      · have hDN2 := HD2.out pre hpre hpl
        rw [hDN2] at hJ
        have hl := hJ.st.loop
        rw [← hrec] at hl
        refine range_left hl ?_
        rw [hrec]
        have h2 := hide (hJ.turn (r .exhausted (some (.exit 0))))
        clear hJ hl hrec
        generalize W'.putObj (D + 1) (.loop (r .exhausted (some (.exit 0)))) = V9 at h2 ⊢
        gi_wp2
        have hz : ∀ x ∈ DN, x.2.size ≤ 1048576 := by
          intro x hx
          rw [← hDN2] at hx
          have := dlN_size C _ x hx
          omega
        have A2 := h2.out.row.ats hz
        have h3 := hide (encodeN_any aN mN cN DN V9 A2 hz)
        have HS9 := HS8.out
        have cN9 := (h2.out.st.st.get 0 rfl).cell
        have hE := encNE_ok DN
        have hkk := okN_of (xs := xs) (n := DN)
        have HEB : Hid (∀ x ∈ encNC DN, 0 ≤ x ∧ x < 256) := encNC_byte DN
        have HSX := hide (HSW.out V9 h2.out.st.st.bel)
        clear A2 hz hDN2 j8 HS9 HS8 HD1 HD2
        generalize encNE DN = en at *
        generalize encNC DN = EC at *
        go_wp2_with fail
        refine h3.out.mono ?_
        rintro e V10 ⟨a3, m3, c3, rfl, o3, B10⟩
        have s3 := o3.toSrc HEB.out
        have H10 := hide (h2.out.below B10)
        have s0 := HSX.out.below B10
        have cN10 := (H10.out.st.st.get 0 rfl).cell
        have heq := hide (equalN_any a3 m3 c3 EC ao n cap xs V10 s3 s0)
        clear h3 o3 s3 s0 h2 B10 HEB HSX cN9
        cases hn : nameL DN with
        | true =>
          rw [hn] at hE hkk
          rw [if_pos rfl] at hE
          subst hE
          by_cases hc : EC = xs
          · rw [decide_eq_true hc] at heq hkk
            obtain ⟨rfl, rfl⟩ := HA2.out (by trivial) hkk
            clear hkk hn HA1 HA2 HA3
            go_wp2_with fail
            refine heq.out.mono ?_
            rintro e V11 ⟨rfl, rfl⟩
            go_wp2
            show LeavesInM _ _ _ _ _ _ _ _ _
            exact decN_leave w _ _ D _ H10.out.st.st _ _ _ _ _ H10.out.row rfl rfl
          · rw [decide_eq_false hc] at heq hkk
            obtain ⟨rfl, rfl⟩ := HA3.out (by trivial) hkk
            clear hkk hn HA1 HA2 HA3
            go_wp2_with fail
            refine heq.out.mono ?_
            rintro e V11 ⟨rfl, rfl⟩
            go_wp2
            show LeavesInM _ _ _ _ _ _ _ _ _
            exact decN_leave w _ _ D _ H10.out.st.st none 0 0 _ _ (OwnA.nil _ _) rfl rfl
        | false =>
          rw [hn] at hE hkk
          rw [if_neg (by decide)] at hE
          subst hE
          obtain ⟨rfl, rfl⟩ := HA3.out (by trivial) (by rw [hkk]; rfl)
          clear hkk hn HA1 HA2 HA3 heq
          go_wp2
          show LeavesInM _ _ _ _ _ _ _ _ _
          exact decN_leave w _ _ D _ H10.out.st.st none 0 0 _ _ (OwnA.nil _ _) rfl rfl
  · have e0 : (er != 0) = true := by simpa using h0
    obtain ⟨rfl, rfl⟩ := HA1.out h0
    clear HA1 HA2 HA3
    go_wp2
    show LeavesInM _ _ _ _ _ _ _ _ _
    exact ⟨.tuple #[.slice none 0 0, .int .i64 AE], by simp [results, Tryz.results86, go_sem], none, 0, 0, rfl, OwnA.nil _ _, B1.alloc B1.size _⟩

end Go.Proofs.YtklchpdpooikdaaGreatDoor
