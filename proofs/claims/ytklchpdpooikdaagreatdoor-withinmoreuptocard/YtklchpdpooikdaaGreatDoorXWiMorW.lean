/-
  The statement WithinMore: its walk.
-/
import Derived.Deep.RegionHeld3
import Derived.Test.YtklchpdpooikdaaGreatDoorXWiChkWToWiThere
import Derived.Test.YtklchpdpooikdaaGreatDoorXHoNmToWiChk
namespace Go.Proofs.YtklchpdpooikdaaGreatDoor
open Go.RowKit Go.IntWalk Go.Shelf
attribute [local go_sem ↓] appOfH_of

theorem mk_rest4 {K : World → Value → Value → Value → Value → Prop} {P : World → Value → Value → Value → Value → Prop} {G : Prop} (h : Hid (∀ W a b c d, K W a b c d → P W a b c d) → G) (k : ∀ W a b c d, K W a b c d → P W a b c d) : G := h k

/-- What stands behind append of one subtree to a copy of a row. -/
def AppK (U : World) (n : Nat) (xs : List (Int × ByteArray)) (W : World) (_ _ _ v : Value) : Prop := Below U.heap.size U W ∧ ∃ a c, v = .slice a (n + 1) c ∧ RowIn W a (n + 1) c xs

theorem OwnT.far {w : World} {base : Nat} {v : Value} {xs : List (Int × ByteArray)} (h : OwnT w base v xs) : ∀ j, v.ownBlock = some j → base ≤ j := fun j hj => (World.ownsRow.lt h j hj).1

set_option maxRecDepth 100000 in
set_option maxHeartbeats 8000000 in
theorem withinMore_walk (a1 : Option Addr) (n1 c1 : Nat) (ps : List (Int × ByteArray)) (a2 : Option Addr) (n2 c2 : Nat) (es : List (Int × ByteArray)) (k : Int) (b : List UInt8) (gk : Int) (g : List UInt8) (hgk : (Lit.int .i64 gk).wf = true) (hb : b.length ≤ 1048576) (hg : g.length ≤ 1048576) (l1 : n1 ≤ 1048576) (l2 : n2 ≤ 1048576) (m : Int) (w : World) (hm : ML w m) (hP : RowIn w a1 n1 c1 ps) (hE : RowIn w a2 n2 c2 es) :
    Calls Tryz.prog 4 #[.slice a1 n1 c1, .slice a2 n2 c2, .agg #[.int .i64 k, .string (tx b)], .agg #[.int .i64 gk, .string (tx g)]] w fun e w' => e = .returned (.bool true) ∧ Below w.heap.size w w' := by
  have hbs : (tx b).size ≤ 1048576 := by rw [tx_size]; exact hb
  have BX := (nbelowW w (boxS k b)).trans ((nbelowW (w.alloc (boxS k b)) (boxG gk g)).mono (by simp))
  have T0 := two_new w k gk b g
  have HP := hide (hP.below BX)
  have HE := hide (hE.below BX)
  have HM := hide (hm.below BX)
  have HB := hide BX
  unfold boxS boxG at T0 HP HE HM HB
  have d1 := hide (mayW_kp ((w.alloc (.cells #[.int .i64 k, .string (tx b)] 36)).alloc (.cells #[.int .i64 gk, .string (tx g)] 32)) k b hb m _ (Kp.refl HM.out))
  have CH := hide (fun (W : World) (ao : Option Addr) (n c : Nat) (xs : List (Int × ByteArray)) (ao' : Option Addr) (n' c' : Nat) (ys : List (Int × ByteArray)) (h : ML W m) (h1 : RowIn W ao n c xs) (h2 : RowIn W ao' n' c' ys) => check_any ao n c xs ao' n' c' ys gk hgk g hg m W h h1 h2)
  have TH := hide (fun W (h : ML W m) => there_kp W m W (Kp.refl h))
  obtain ⟨t0, t1, t2, t3⟩ := T0
  have HT0 := hide (Two.mk t0 t1 t2 t3)
  clear BX hP hE hm
  cases hM : mayW k b with
  | false =>
    have hF := hide (more_not (ps := ps) (es := es) (gk := gk) (g := g) (k := k) (s := tx b) hM)
    rw [hM] at d1
    clear hM
    go_enter Tryz.func4, Tryz.ntmps4
    go_wp2_with fail
    refine d1.out.mono ?_
    rintro e w1 ⟨rfl, B1, _⟩
    have B1d := B1.drew
    have HT := hide (HT0.out.below B1d)
    have HPU := hide (HP.out.below B1d)
    have HEU := hide (HE.out.below B1d)
    have HMU := hide (HM.out.below B1d)
    have HBU := hide (HB.out.trans (B1d.mono HB.out.size))
    clear d1 B1 B1d HT0 HP HE HM HB t0 t1 t2 t3
    go_wp2_with fail
    refine wp_region_held_drew (S := fun W => Below w1.drew.heap.size w1.drew W) (by kernel_rfl) (Below.refl _ _) (fun hS => ?_)
    clear hS
    generalize w1.drew = U at *
    have hS : Below U.heap.size U U := Below.refl _ _
    refine wpAnyH_take (i := 1) (v := ?_) rfl (by kernel_rfl) (by kernel_rfl) (by kernel_rfl) (fun _ _ _ h => h) (Or.inl ⟨by rfl, ?_⟩) (by assumption) ?_
    rotate_left
    · intro wq hSq
      obtain ⟨r0, r1, r2, r3⟩ := HT.out.below hSq
      go_simp
      try with_reducible rfl
    simp only [List.getElem_toArray, List.getElem_cons_succ, List.getElem_cons_zero, Act.put, List.setIfInBounds_toArray, List.set_cons_zero, List.set_cons_succ]
    refine wpAnyH_take (i := 3) (v := ?_) rfl (by kernel_rfl) (by kernel_rfl) (by kernel_rfl) (fun _ _ _ h => h) (Or.inl ⟨by rfl, ?_⟩) (by assumption) ?_
    rotate_left
    · intro wq hSq
      obtain ⟨r0, r1, r2, r3⟩ := HT.out.below hSq
      go_simp
      try with_reducible rfl
    simp only [List.getElem_toArray, List.getElem_cons_succ, List.getElem_cons_zero, Act.put, List.setIfInBounds_toArray, List.set_cons_zero, List.set_cons_succ]
    refine wpAnyH_take (i := 6) (v := ?_) rfl (by kernel_rfl) (by kernel_rfl) (by kernel_rfl) (fun _ _ _ h => h) (Or.inl ⟨by rfl, ?_⟩) (by assumption) ?_
    rotate_left
    · intro wq hSq
      obtain ⟨r0, r1, r2, r3⟩ := HT.out.below hSq
      go_simp
      try with_reducible rfl
    simp only [List.getElem_toArray, List.getElem_cons_succ, List.getElem_cons_zero, Act.put, List.setIfInBounds_toArray, List.set_cons_zero, List.set_cons_succ]
    refine wpAnyH_take (i := 7) (v := ?_) rfl (by kernel_rfl) (by kernel_rfl) (by kernel_rfl) (fun _ _ _ h => h) (Or.inl ⟨by rfl, ?_⟩) (by assumption) ?_
    rotate_left
    · intro wq hSq
      obtain ⟨r0, r1, r2, r3⟩ := HT.out.below hSq
      go_simp
      try with_reducible rfl
    simp only [List.getElem_toArray, List.getElem_cons_succ, List.getElem_cons_zero, Act.put, List.setIfInBounds_toArray, List.set_cons_zero, List.set_cons_succ]
    -- 0: the empty row; 2: the copy; 4: the one subtree; 5: append of it; HPU: the row's fact; ps: the row; n1: how long
    have hB0 := Below.refl U.heap.size U
    have hn := (HPU).out.hn
    have hz2 : ∀ x ∈ ps ++ [(k, tx b)], x.2.size ≤ 1048576 := fun x hx => by
      rcases List.mem_append.1 hx with h | h
      · exact (HPU).out.hz x h
      · simp at h; subst h; exact hbs
    refine' mk_rest4 (K := AppK U n1 (ps ++ [(k, tx b)])) (fun REST => ?_) ?_
    rotate_left
    · skip
      -- the two operations that are ready: 0, 4
      refine wpAnyH_ready (rs := [0, 4]) (by kernel_rfl) (by simp) ?_
      refine AllReadyH.cons rfl (fun Kq hKq => ?_) (AllReadyH.cons rfl (fun Kq hKq => ?_) AllReadyH.nil)
      · have bW1 := hB0.alloc hB0.size (.cells #[] 36)
        have o1 := OwnT.lit U U.heap.size (Nat.le_refl _)
        -- it makes memory; behind it bW1 stands
        go_simp
        refine hKq.out _ _ (bW1) (fun hHeld => ?_)
        clear hKq Kq hHeld
        generalize hW1 : (U.alloc (.cells #[] 36)) = W1 at *
        have hs1 : W1.heap.size = U.heap.size + 1 := by rw [← hW1]; simp
        clear hW1
        -- the two operations that are ready: 2, 4
        refine wpAnyH_ready (rs := [2, 4]) (by kernel_rfl) (by simp) ?_
        refine AllReadyH.cons rfl (fun Kq hKq => ?_) (AllReadyH.cons rfl (fun Kq hKq => ?_) AllReadyH.nil)
        · obtain ⟨a2, c2', W2, hrun, o2, hg⟩ := run_appT W1 22 U.heap.size _ [] o1 _ _ _ _ ((HPU).out.below bW1).ats (HPU).out.nil n1 (by simp) (by omega) bW1.size
          rw [appOfH_of] at hrun
          have bW2 := bW1.grown hg bW1.size o1.far
          rw [List.nil_append] at o2
          clear hg
          -- it makes memory; behind it bW2 stands
          go_simp
          refine hKq.out _ _ (bW2) (fun hHeld => ?_)
          clear hKq Kq hHeld
          clear hrun
          have bW3 := bW2.alloc bW2.size (.cells #[.int .i64 k, .string (tx b)] 36)
          have s3 := OwnT.one W2 k (tx b) hbs
          have o3 := o2.below (nbelow W2 (.cells #[.int .i64 k, .string (tx b)] 36))
          -- the one operation that is ready: 4
          refine wpAnyH_ready (rs := [4]) (by kernel_rfl) (by simp) ?_
          refine AllReadyH.cons rfl (fun Kq hKq => ?_) AllReadyH.nil
          -- it makes memory; behind it bW3 stands
          go_simp
          refine hKq.out _ _ (bW3) (fun hHeld => ?_)
          clear hKq Kq hHeld
          generalize W2.heap.size = g2 at *
          generalize (W2.alloc (.cells #[.int .i64 k, .string (tx b)] 36)) = W3 at *
          obtain ⟨a4, c4, W4, hrun, o4, hg⟩ := run_appT W3 22 U.heap.size _ _ o3 _ _ _ _ s3 (fun h => by cases h) (n1 + 1) (by rw [o3.len2]) (by omega) bW3.size
          rw [appOfH_of] at hrun
          have bW4 := bW3.grown hg bW3.size o3.far
          -- the one operation that is ready: 5
          refine wpAnyH_ready (rs := [5]) (by kernel_rfl) (by simp) ?_
          refine AllReadyH.cons rfl (fun Kq hKq => ?_) AllReadyH.nil
          -- it makes memory; behind it bW4 stands
          go_simp
          refine hKq.out _ _ (bW4) (fun hHeld => ?_)
          clear hKq Kq hHeld
          have hrow := o4.rowInM hz2 (by omega)
          clear hrun hg o1 o2 o3 o4 s3 bW1 bW2 bW3
          obtain ⟨x5, hx5⟩ : ∃ x5, Value.slice a4 (n1 + 1) c4 = x5 := ⟨_, rfl⟩
          rw [hx5]
          generalize (Value.slice (some ⟨U.heap.size, 0, none⟩) 0 0) = x0
          generalize (Value.slice a2 n1 c2') = x2
          generalize (Value.slice (some ⟨g2, 0, none⟩) 1 1) = x4
          exact REST.out W4 x0 x2 x4 x5 ⟨bW4, a4, c4, hx5.symm, hrow⟩
        · have bW2 := bW1.alloc bW1.size (.cells #[.int .i64 k, .string (tx b)] 36)
          have s2 := OwnT.one W1 k (tx b) hbs
          have o2 := o1.below (nbelow W1 (.cells #[.int .i64 k, .string (tx b)] 36))
          -- it makes memory; behind it bW2 stands
          go_simp
          refine hKq.out _ _ (bW2) (fun hHeld => ?_)
          clear hKq Kq hHeld
          rw [hs1] at s2
          have hne : (Value.slice (some ⟨U.heap.size, 0, none⟩) 0 0).ownBlock ≠ some (U.heap.size + 1) := by simp [Value.ownBlock]
          generalize (W1.alloc (.cells #[.int .i64 k, .string (tx b)] 36)) = W2 at *
          obtain ⟨a2, c2', W3, hrun, o3, hg⟩ := run_appT W2 22 U.heap.size _ [] o2 _ _ _ _ ((HPU).out.below bW2).ats (HPU).out.nil n1 (by simp) (by omega) bW2.size
          rw [appOfH_of] at hrun
          have bW3 := bW2.grown hg bW2.size o2.far
          rw [List.nil_append] at o3
          have s3 := s2.grownT hg hne
          clear hg
          -- the one operation that is ready: 2
          refine wpAnyH_ready (rs := [2]) (by kernel_rfl) (by simp) ?_
          refine AllReadyH.cons rfl (fun Kq hKq => ?_) AllReadyH.nil
          -- it makes memory; behind it bW3 stands
          go_simp
          refine hKq.out _ _ (bW3) (fun hHeld => ?_)
          clear hKq Kq hHeld
          clear hrun
          obtain ⟨a4, c4, W4, hrun, o4, hg⟩ := run_appT W3 22 U.heap.size _ _ o3 _ _ _ _ s3 (fun h => by cases h) (n1 + 1) (by rw [o3.len2]) (by omega) bW3.size
          rw [appOfH_of] at hrun
          have bW4 := bW3.grown hg bW3.size o3.far
          -- the one operation that is ready: 5
          refine wpAnyH_ready (rs := [5]) (by kernel_rfl) (by simp) ?_
          refine AllReadyH.cons rfl (fun Kq hKq => ?_) AllReadyH.nil
          -- it makes memory; behind it bW4 stands
          go_simp
          refine hKq.out _ _ (bW4) (fun hHeld => ?_)
          clear hKq Kq hHeld
          exact REST.out W4 _ _ _ _ ⟨bW4, a4, c4, rfl, o4.rowInM hz2 (by omega)⟩
      · have bW1 := hB0.alloc hB0.size (.cells #[.int .i64 k, .string (tx b)] 36)
        have s1 := OwnT.one U k (tx b) hbs
        -- it makes memory; behind it bW1 stands
        go_simp
        refine hKq.out _ _ (bW1) (fun hHeld => ?_)
        clear hKq Kq hHeld
        generalize hW1 : (U.alloc (.cells #[.int .i64 k, .string (tx b)] 36)) = W1 at *
        have hs1 : W1.heap.size = U.heap.size + 1 := by rw [← hW1]; simp
        clear hW1
        have bW2 := bW1.alloc bW1.size (.cells #[] 36)
        have s2 := s1.below (nbelow W1 (.cells #[] 36))
        have o2 := OwnT.lit W1 U.heap.size bW1.size
        -- the one operation that is ready: 0
        refine wpAnyH_ready (rs := [0]) (by kernel_rfl) (by simp) ?_
        refine AllReadyH.cons rfl (fun Kq hKq => ?_) AllReadyH.nil
        -- it makes memory; behind it bW2 stands
        go_simp
        refine hKq.out _ _ (bW2) (fun hHeld => ?_)
        clear hKq Kq hHeld
        rw [hs1] at o2
        have hne : (Value.slice (some ⟨U.heap.size + 1, 0, none⟩) 0 0).ownBlock ≠ some U.heap.size := by simp [Value.ownBlock]
        generalize (W1.alloc (.cells #[] 36)) = W2 at *
        obtain ⟨a2, c2', W3, hrun, o3, hg⟩ := run_appT W2 22 U.heap.size _ [] o2 _ _ _ _ ((HPU).out.below bW2).ats (HPU).out.nil n1 (by simp) (by omega) bW2.size
        rw [appOfH_of] at hrun
        have bW3 := bW2.grown hg bW2.size o2.far
        rw [List.nil_append] at o3
        have s3 := s2.grownT hg hne
        clear hg
        -- the one operation that is ready: 2
        refine wpAnyH_ready (rs := [2]) (by kernel_rfl) (by simp) ?_
        refine AllReadyH.cons rfl (fun Kq hKq => ?_) AllReadyH.nil
        -- it makes memory; behind it bW3 stands
        go_simp
        refine hKq.out _ _ (bW3) (fun hHeld => ?_)
        clear hKq Kq hHeld
        clear hrun
        obtain ⟨a4, c4, W4, hrun, o4, hg⟩ := run_appT W3 22 U.heap.size _ _ o3 _ _ _ _ s3 (fun h => by cases h) (n1 + 1) (by rw [o3.len2]) (by omega) bW3.size
        rw [appOfH_of] at hrun
        have bW4 := bW3.grown hg bW3.size o3.far
        -- the one operation that is ready: 5
        refine wpAnyH_ready (rs := [5]) (by kernel_rfl) (by simp) ?_
        refine AllReadyH.cons rfl (fun Kq hKq => ?_) AllReadyH.nil
        -- it makes memory; behind it bW4 stands
        go_simp
        refine hKq.out _ _ (bW4) (fun hHeld => ?_)
        clear hKq Kq hHeld
        exact REST.out W4 _ _ _ _ ⟨bW4, a4, c4, rfl, o4.rowInM hz2 (by omega)⟩
    intro W x0 x2 x4 x5 hK
    obtain ⟨bW, a5, c5, rfl, hrow⟩ := hK
    have d5 := hide (CH.out W a5 (n1 + 1) c5 _ a2 n2 c2 es (HMU.out.below bW) hrow (HEU.out.below bW))
    generalize (chkV (ps ++ [(k, tx b)]) es gk g) = C at *
    obtain ⟨C1, C2⟩ := C
    simp only [] at hF d5
    have qJ : (C2 != 0) = true := by have := hF.out; simpa using this
    have qI : (C2 == 0) = false := by have := hF.out; simpa using this
    -- the one operation that is ready: 8
    refine wpAnyH_ready (rs := [8]) (by kernel_rfl) (by simp) ?_
    refine AllReadyH.cons rfl (fun Kq hKq => ?_) AllReadyH.nil
    go_simp
    refine d5.out.mono ?_
    rintro e W5 ⟨rfl, B5⟩
    have bW5 := bW.trans (B5.mono bW.size)
    refine hKq.out _ _ bW5 (fun _ => ?_)
    clear hKq Kq d5 B5 bW
    refine wpAnyH_take (i := 9) (v := ?_) rfl (by kernel_rfl) (by kernel_rfl) (by kernel_rfl) (fun _ _ _ h => h) (Or.inl ⟨by rfl, ?_⟩) (by assumption) ?_
    rotate_left
    · intro wq hSq
      obtain ⟨r0, r1, r2, r3⟩ := HT.out.below hSq
      go_simp
      try with_reducible rfl
    simp only [List.getElem_toArray, List.getElem_cons_succ, List.getElem_cons_zero, Act.put, List.setIfInBounds_toArray, List.set_cons_zero, List.set_cons_succ]
    refine wpAnyH_take (i := 10) (v := ?_) rfl (by kernel_rfl) (by kernel_rfl) (by kernel_rfl) (fun _ _ _ h => h) (Or.inl ⟨by rfl, ?_⟩) (by assumption) ?_
    rotate_left
    · intro wq hSq
      obtain ⟨r0, r1, r2, r3⟩ := HT.out.below hSq
      go_simp
      try with_reducible rfl
    simp only [List.getElem_toArray, List.getElem_cons_succ, List.getElem_cons_zero, Act.put, List.setIfInBounds_toArray, List.set_cons_zero, List.set_cons_succ]
    refine wpAnyH_take (i := 11) (v := ?_) rfl (by kernel_rfl) (by kernel_rfl) (by kernel_rfl) (fun _ _ _ h => h) (Or.inl ⟨by rfl, ?_⟩) (by assumption) ?_
    rotate_left
    · intro wq hSq
      obtain ⟨r0, r1, r2, r3⟩ := HT.out.below hSq
      go_simp
      try with_reducible rfl
    simp only [List.getElem_toArray, List.getElem_cons_succ, List.getElem_cons_zero, Act.put, List.setIfInBounds_toArray, List.set_cons_zero, List.set_cons_succ]
    refine wpAnyH_take (i := 12) (v := ?_) rfl (by kernel_rfl) (by kernel_rfl) (by kernel_rfl) (fun _ _ _ h => h) (Or.inl ⟨by rfl, ?_⟩) (by assumption) ?_
    rotate_left
    · intro wq hSq
      obtain ⟨r0, r1, r2, r3⟩ := HT.out.below hSq
      go_simp
      try with_reducible rfl
    simp only [List.getElem_toArray, List.getElem_cons_succ, List.getElem_cons_zero, Act.put, List.setIfInBounds_toArray, List.set_cons_zero, List.set_cons_succ]
    refine wpAnyH_take (i := 13) (v := ?_) rfl (by kernel_rfl) (by kernel_rfl) (by kernel_rfl) (fun _ _ _ h => h) (Or.inl ⟨by rfl, ?_⟩) (by assumption) ?_
    rotate_left
    · intro wq hSq
      obtain ⟨r0, r1, r2, r3⟩ := HT.out.below hSq
      go_simp
      try with_reducible rfl
    simp only [List.getElem_toArray, List.getElem_cons_succ, List.getElem_cons_zero, Act.put, List.setIfInBounds_toArray, List.set_cons_zero, List.set_cons_succ]
    refine wpAnyH_done (by kernel_rfl) ?_ _
    have d6 := hide (TH.out W5 (HMU.out.below bW5))
    have HBV := hide (HBU.out.trans (bW5.mono HBU.out.size))
    clear bW5 CH HEU HPU HMU
    go_wp2_with fail
    refine d6.out.mono ?_
    rintro e W6 ⟨rfl, K6⟩
    go_wp2
    go_ret
    exact ⟨rfl, HBV.out.trans (K6.1.mono HBV.out.size)⟩
  | true =>
    have HO1 : Hid ((chkV ps (es ++ [(k, tx b)]) gk g).2 = 0 → (chkV ps es gk g).2 = 0 ∧ somW k b gk g = false) := more_out (s := tx b)
    have HI1 : Hid ((chkV ps es gk g).2 = 0 → (∃ x ∈ ps, x.1 = k) → (chkV (ps ++ [(k, tx b)]) es gk g).2 = 0) := fun h1 h2 => more_in (s := tx b) hM h1 h2
    have HZ1 : Hid ((chkV [(k, tx b)] [] gk g).2 = 0 ↔ (mayG gk g && (decide (k ≠ gk) || allW k b gk g)) = true) := more_one (s := tx b) hM
    have SO : Hid (∀ W, ML W m → Calls Tryz.prog 12 #[.agg #[.int .i64 k, .string (tx b)], .agg #[.int .i64 gk, .string (tx g)]] W fun e w' => e = .returned (.bool (somW k b gk g)) ∧ Below W.heap.size W w') := fun W h => (somW_kp W k b hb gk hgk g hg m W (Kp.refl h)).mono fun _ _ ⟨h1, h2, _⟩ => ⟨h1, h2⟩
    have AO : Hid (∀ W, ML W m → Calls Tryz.prog 14 #[.agg #[.int .i64 k, .string (tx b)], .agg #[.int .i64 gk, .string (tx g)]] W fun e w' => e = .returned (.bool (allW k b gk g)) ∧ Below W.heap.size W w') := fun W h => (allW_kp W k b hb gk hgk g hg m W (Kp.refl h)).mono fun _ _ ⟨h1, h2, _⟩ => ⟨h1, h2⟩
    have GO : Hid (∀ W, ML W m → Calls Tryz.prog 13 #[.agg #[.int .i64 gk, .string (tx g)]] W fun e w' => e = .returned (.bool (mayG gk g)) ∧ Below W.heap.size W w') := fun W h => (mayG_kp W gk hgk g hg m W (Kp.refl h)).mono fun _ _ ⟨h1, h2, _⟩ => ⟨h1, h2⟩
    generalize somW k b gk g = SM at *
    generalize allW k b gk g = AL at *
    generalize mayG gk g = GM at *
    rw [hM] at d1
    clear hM
    go_enter Tryz.func4, Tryz.ntmps4
    go_wp2_with fail
    refine d1.out.mono ?_
    rintro e w1 ⟨rfl, B1, _⟩
    have HT1 := hide (HT0.out.below B1)
    have HP1 := hide (HP.out.below B1)
    have HE1 := hide (HE.out.below B1)
    have HM1 := hide (HM.out.below B1)
    have HB1 := hide (HB.out.trans (B1.mono HB.out.size))
    clear d1 B1 HT0 HP HE HM HB t0 t1 t2 t3
    have d2 := hide (CH.out w1 a1 n1 c1 ps a2 n2 c2 es HM1.out HP1.out HE1.out)
    generalize chkV ps es gk g = C at *
    obtain ⟨E1, E2⟩ := C
    simp only [] at HO1 HI1 d2
    obtain ⟨t0, t1, t2, t3⟩ := HT1.out
    go_wp2_with fail
    refine d2.out.mono ?_
    rintro e w2 ⟨rfl, B2⟩
    have B2d := B2.drew
    have HT := hide (HT1.out.below B2d)
    have HPU := hide (HP1.out.below B2d)
    have HEU := hide (HE1.out.below B2d)
    have HMU := hide (HM1.out.below B2d)
    have HBU := hide (HB1.out.trans (B2d.mono HB1.out.size))
    clear d2 B2 B2d HT1 HP1 HE1 HM1 HB1 t0 t1 t2 t3
    go_wp2_with fail
    refine wp_region_held_drew (S := fun W => Below w2.drew.heap.size w2.drew W) (by kernel_rfl) (Below.refl _ _) (fun hS => ?_)
    clear hS
    generalize w2.drew = U at *
    have hS : Below U.heap.size U U := Below.refl _ _
    refine wpAnyH_take (i := 0) (v := ?_) rfl (by kernel_rfl) (by kernel_rfl) (by kernel_rfl) (fun _ _ _ h => h) (Or.inl ⟨by rfl, ?_⟩) (by assumption) ?_
    rotate_left
    · intro wq hSq
      obtain ⟨r0, r1, r2, r3⟩ := HT.out.below hSq
      go_simp
      try with_reducible rfl
    simp only [List.getElem_toArray, List.getElem_cons_zero, Act.put, List.setIfInBounds_toArray, List.set_cons_zero, List.set_cons_succ]
    refine wpAnyH_take (i := 2) (v := ?_) rfl (by kernel_rfl) (by kernel_rfl) (by kernel_rfl) (fun _ _ _ h => h) (Or.inl ⟨by rfl, ?_⟩) (by assumption) ?_
    rotate_left
    · intro wq hSq
      obtain ⟨r0, r1, r2, r3⟩ := HT.out.below hSq
      go_simp
      try with_reducible rfl
    simp only [List.getElem_toArray, List.getElem_cons_succ, List.getElem_cons_zero, Act.put, List.setIfInBounds_toArray, List.set_cons_zero, List.set_cons_succ]
    refine wpAnyH_take (i := 4) (v := ?_) rfl (by kernel_rfl) (by kernel_rfl) (by kernel_rfl) (fun _ _ _ h => h) (Or.inl ⟨by rfl, ?_⟩) (by assumption) ?_
    rotate_left
    · intro wq hSq
      obtain ⟨r0, r1, r2, r3⟩ := HT.out.below hSq
      go_simp
      try with_reducible rfl
    simp only [List.getElem_toArray, List.getElem_cons_succ, List.getElem_cons_zero, Act.put, List.setIfInBounds_toArray, List.set_cons_zero, List.set_cons_succ]
    refine wpAnyH_take (i := 7) (v := ?_) rfl (by kernel_rfl) (by kernel_rfl) (by kernel_rfl) (fun _ _ _ h => h) (Or.inl ⟨by rfl, ?_⟩) (by assumption) ?_
    rotate_left
    · intro wq hSq
      obtain ⟨r0, r1, r2, r3⟩ := HT.out.below hSq
      go_simp
      try with_reducible rfl
    simp only [List.getElem_toArray, List.getElem_cons_succ, List.getElem_cons_zero, Act.put, List.setIfInBounds_toArray, List.set_cons_zero, List.set_cons_succ]
    -- 1: the empty row; 3: the copy; 5: the one subtree; 6: append of it; HEU: the row's fact; es: the row; n2: how long
    have hB0 := Below.refl U.heap.size U
    have hn := (HEU).out.hn
    have hz2 : ∀ x ∈ es ++ [(k, tx b)], x.2.size ≤ 1048576 := fun x hx => by
      rcases List.mem_append.1 hx with h | h
      · exact (HEU).out.hz x h
      · simp at h; subst h; exact hbs
    refine' mk_rest4 (K := AppK U n2 (es ++ [(k, tx b)])) (fun REST => ?_) ?_
    rotate_left
    · skip
      -- the two operations that are ready: 1, 5
      refine wpAnyH_ready (rs := [1, 5]) (by kernel_rfl) (by simp) ?_
      refine AllReadyH.cons rfl (fun Kq hKq => ?_) (AllReadyH.cons rfl (fun Kq hKq => ?_) AllReadyH.nil)
      · have bW1 := hB0.alloc hB0.size (.cells #[] 36)
        have o1 := OwnT.lit U U.heap.size (Nat.le_refl _)
        -- it makes memory; behind it bW1 stands
        go_simp
        refine hKq.out _ _ (bW1) (fun hHeld => ?_)
        clear hKq Kq hHeld
        generalize hW1 : (U.alloc (.cells #[] 36)) = W1 at *
        have hs1 : W1.heap.size = U.heap.size + 1 := by rw [← hW1]; simp
        clear hW1
        -- the two operations that are ready: 3, 5
        refine wpAnyH_ready (rs := [3, 5]) (by kernel_rfl) (by simp) ?_
        refine AllReadyH.cons rfl (fun Kq hKq => ?_) (AllReadyH.cons rfl (fun Kq hKq => ?_) AllReadyH.nil)
        · obtain ⟨a2, c2', W2, hrun, o2, hg⟩ := run_appT W1 22 U.heap.size _ [] o1 _ _ _ _ ((HEU).out.below bW1).ats (HEU).out.nil n2 (by simp) (by omega) bW1.size
          rw [appOfH_of] at hrun
          have bW2 := bW1.grown hg bW1.size o1.far
          rw [List.nil_append] at o2
          clear hg
          -- it makes memory; behind it bW2 stands
          go_simp
          refine hKq.out _ _ (bW2) (fun hHeld => ?_)
          clear hKq Kq hHeld
          clear hrun
          have bW3 := bW2.alloc bW2.size (.cells #[.int .i64 k, .string (tx b)] 36)
          have s3 := OwnT.one W2 k (tx b) hbs
          have o3 := o2.below (nbelow W2 (.cells #[.int .i64 k, .string (tx b)] 36))
          -- the one operation that is ready: 5
          refine wpAnyH_ready (rs := [5]) (by kernel_rfl) (by simp) ?_
          refine AllReadyH.cons rfl (fun Kq hKq => ?_) AllReadyH.nil
          -- it makes memory; behind it bW3 stands
          go_simp
          refine hKq.out _ _ (bW3) (fun hHeld => ?_)
          clear hKq Kq hHeld
          generalize W2.heap.size = g2 at *
          generalize (W2.alloc (.cells #[.int .i64 k, .string (tx b)] 36)) = W3 at *
          obtain ⟨a4, c4, W4, hrun, o4, hg⟩ := run_appT W3 22 U.heap.size _ _ o3 _ _ _ _ s3 (fun h => by cases h) (n2 + 1) (by rw [o3.len2]) (by omega) bW3.size
          rw [appOfH_of] at hrun
          have bW4 := bW3.grown hg bW3.size o3.far
          -- the one operation that is ready: 6
          refine wpAnyH_ready (rs := [6]) (by kernel_rfl) (by simp) ?_
          refine AllReadyH.cons rfl (fun Kq hKq => ?_) AllReadyH.nil
          -- it makes memory; behind it bW4 stands
          go_simp
          refine hKq.out _ _ (bW4) (fun hHeld => ?_)
          clear hKq Kq hHeld
          have hrow := o4.rowInM hz2 (by omega)
          clear hrun hg o1 o2 o3 o4 s3 bW1 bW2 bW3
          obtain ⟨x5, hx5⟩ : ∃ x5, Value.slice a4 (n2 + 1) c4 = x5 := ⟨_, rfl⟩
          rw [hx5]
          generalize (Value.slice (some ⟨U.heap.size, 0, none⟩) 0 0) = x0
          generalize (Value.slice a2 n2 c2') = x2
          generalize (Value.slice (some ⟨g2, 0, none⟩) 1 1) = x4
          exact REST.out W4 x0 x2 x4 x5 ⟨bW4, a4, c4, hx5.symm, hrow⟩
        · have bW2 := bW1.alloc bW1.size (.cells #[.int .i64 k, .string (tx b)] 36)
          have s2 := OwnT.one W1 k (tx b) hbs
          have o2 := o1.below (nbelow W1 (.cells #[.int .i64 k, .string (tx b)] 36))
          -- it makes memory; behind it bW2 stands
          go_simp
          refine hKq.out _ _ (bW2) (fun hHeld => ?_)
          clear hKq Kq hHeld
          rw [hs1] at s2
          have hne : (Value.slice (some ⟨U.heap.size, 0, none⟩) 0 0).ownBlock ≠ some (U.heap.size + 1) := by simp [Value.ownBlock]
          generalize (W1.alloc (.cells #[.int .i64 k, .string (tx b)] 36)) = W2 at *
          obtain ⟨a2, c2', W3, hrun, o3, hg⟩ := run_appT W2 22 U.heap.size _ [] o2 _ _ _ _ ((HEU).out.below bW2).ats (HEU).out.nil n2 (by simp) (by omega) bW2.size
          rw [appOfH_of] at hrun
          have bW3 := bW2.grown hg bW2.size o2.far
          rw [List.nil_append] at o3
          have s3 := s2.grownT hg hne
          clear hg
          -- the one operation that is ready: 3
          refine wpAnyH_ready (rs := [3]) (by kernel_rfl) (by simp) ?_
          refine AllReadyH.cons rfl (fun Kq hKq => ?_) AllReadyH.nil
          -- it makes memory; behind it bW3 stands
          go_simp
          refine hKq.out _ _ (bW3) (fun hHeld => ?_)
          clear hKq Kq hHeld
          clear hrun
          obtain ⟨a4, c4, W4, hrun, o4, hg⟩ := run_appT W3 22 U.heap.size _ _ o3 _ _ _ _ s3 (fun h => by cases h) (n2 + 1) (by rw [o3.len2]) (by omega) bW3.size
          rw [appOfH_of] at hrun
          have bW4 := bW3.grown hg bW3.size o3.far
          -- the one operation that is ready: 6
          refine wpAnyH_ready (rs := [6]) (by kernel_rfl) (by simp) ?_
          refine AllReadyH.cons rfl (fun Kq hKq => ?_) AllReadyH.nil
          -- it makes memory; behind it bW4 stands
          go_simp
          refine hKq.out _ _ (bW4) (fun hHeld => ?_)
          clear hKq Kq hHeld
          exact REST.out W4 _ _ _ _ ⟨bW4, a4, c4, rfl, o4.rowInM hz2 (by omega)⟩
      · have bW1 := hB0.alloc hB0.size (.cells #[.int .i64 k, .string (tx b)] 36)
        have s1 := OwnT.one U k (tx b) hbs
        -- it makes memory; behind it bW1 stands
        go_simp
        refine hKq.out _ _ (bW1) (fun hHeld => ?_)
        clear hKq Kq hHeld
        generalize hW1 : (U.alloc (.cells #[.int .i64 k, .string (tx b)] 36)) = W1 at *
        have hs1 : W1.heap.size = U.heap.size + 1 := by rw [← hW1]; simp
        clear hW1
        have bW2 := bW1.alloc bW1.size (.cells #[] 36)
        have s2 := s1.below (nbelow W1 (.cells #[] 36))
        have o2 := OwnT.lit W1 U.heap.size bW1.size
        -- the one operation that is ready: 1
        refine wpAnyH_ready (rs := [1]) (by kernel_rfl) (by simp) ?_
        refine AllReadyH.cons rfl (fun Kq hKq => ?_) AllReadyH.nil
        -- it makes memory; behind it bW2 stands
        go_simp
        refine hKq.out _ _ (bW2) (fun hHeld => ?_)
        clear hKq Kq hHeld
        rw [hs1] at o2
        have hne : (Value.slice (some ⟨U.heap.size + 1, 0, none⟩) 0 0).ownBlock ≠ some U.heap.size := by simp [Value.ownBlock]
        generalize (W1.alloc (.cells #[] 36)) = W2 at *
        obtain ⟨a2, c2', W3, hrun, o3, hg⟩ := run_appT W2 22 U.heap.size _ [] o2 _ _ _ _ ((HEU).out.below bW2).ats (HEU).out.nil n2 (by simp) (by omega) bW2.size
        rw [appOfH_of] at hrun
        have bW3 := bW2.grown hg bW2.size o2.far
        rw [List.nil_append] at o3
        have s3 := s2.grownT hg hne
        clear hg
        -- the one operation that is ready: 3
        refine wpAnyH_ready (rs := [3]) (by kernel_rfl) (by simp) ?_
        refine AllReadyH.cons rfl (fun Kq hKq => ?_) AllReadyH.nil
        -- it makes memory; behind it bW3 stands
        go_simp
        refine hKq.out _ _ (bW3) (fun hHeld => ?_)
        clear hKq Kq hHeld
        clear hrun
        obtain ⟨a4, c4, W4, hrun, o4, hg⟩ := run_appT W3 22 U.heap.size _ _ o3 _ _ _ _ s3 (fun h => by cases h) (n2 + 1) (by rw [o3.len2]) (by omega) bW3.size
        rw [appOfH_of] at hrun
        have bW4 := bW3.grown hg bW3.size o3.far
        -- the one operation that is ready: 6
        refine wpAnyH_ready (rs := [6]) (by kernel_rfl) (by simp) ?_
        refine AllReadyH.cons rfl (fun Kq hKq => ?_) AllReadyH.nil
        -- it makes memory; behind it bW4 stands
        go_simp
        refine hKq.out _ _ (bW4) (fun hHeld => ?_)
        clear hKq Kq hHeld
        exact REST.out W4 _ _ _ _ ⟨bW4, a4, c4, rfl, o4.rowInM hz2 (by omega)⟩
    intro W x0 x2 x4 x5 hK
    obtain ⟨bW, a5, c5, rfl, hrow⟩ := hK
    have d5 := hide (CH.out W a1 n1 c1 ps a5 (n2 + 1) c5 _ (HMU.out.below bW) (HPU.out.below bW) hrow)
    generalize (chkV ps (es ++ [(k, tx b)]) gk g) = C at *
    obtain ⟨F1, F2⟩ := C
    simp only [] at HO1 d5
    -- the one operation that is ready: 8
    refine wpAnyH_ready (rs := [8]) (by kernel_rfl) (by simp) ?_
    refine AllReadyH.cons rfl (fun Kq hKq => ?_) AllReadyH.nil
    go_simp
    refine d5.out.mono ?_
    rintro e W5 ⟨rfl, B5⟩
    have bW5 := bW.trans (B5.mono bW.size)
    refine hKq.out _ _ bW5 (fun _ => ?_)
    clear hKq Kq d5 B5 bW hrow
    refine wpAnyH_take (i := 9) (v := ?_) rfl (by kernel_rfl) (by kernel_rfl) (by kernel_rfl) (fun _ _ _ h => h) (Or.inl ⟨by rfl, ?_⟩) (by assumption) ?_
    rotate_left
    · intro wq hSq
      obtain ⟨r0, r1, r2, r3⟩ := HT.out.below hSq
      go_simp
      try with_reducible rfl
    simp only [List.getElem_toArray, List.getElem_cons_succ, List.getElem_cons_zero, Act.put, List.setIfInBounds_toArray, List.set_cons_zero, List.set_cons_succ]
    refine wpAnyH_take (i := 10) (v := ?_) rfl (by kernel_rfl) (by kernel_rfl) (by kernel_rfl) (fun _ _ _ h => h) (Or.inl ⟨by rfl, ?_⟩) (by assumption) ?_
    rotate_left
    · intro wq hSq
      obtain ⟨r0, r1, r2, r3⟩ := HT.out.below hSq
      go_simp
      try with_reducible rfl
    simp only [List.getElem_toArray, List.getElem_cons_succ, List.getElem_cons_zero, Act.put, List.setIfInBounds_toArray, List.set_cons_zero, List.set_cons_succ]
    refine wpAnyH_take (i := 11) (v := ?_) rfl (by kernel_rfl) (by kernel_rfl) (by kernel_rfl) (fun _ _ _ h => h) (Or.inl ⟨by rfl, ?_⟩) (by assumption) ?_
    rotate_left
    · intro wq hSq
      obtain ⟨r0, r1, r2, r3⟩ := HT.out.below hSq
      go_simp
      try with_reducible rfl
    simp only [List.getElem_toArray, List.getElem_cons_succ, List.getElem_cons_zero, Act.put, List.setIfInBounds_toArray, List.set_cons_zero, List.set_cons_succ]
    refine wpAnyH_take (i := 12) (v := ?_) rfl (by kernel_rfl) (by kernel_rfl) (by kernel_rfl) (fun _ _ _ h => h) (Or.inl ⟨by rfl, ?_⟩) (by assumption) ?_
    rotate_left
    · intro wq hSq
      obtain ⟨r0, r1, r2, r3⟩ := HT.out.below hSq
      go_simp
      try with_reducible rfl
    simp only [List.getElem_toArray, List.getElem_cons_succ, List.getElem_cons_zero, Act.put, List.setIfInBounds_toArray, List.set_cons_zero, List.set_cons_succ]
    refine wpAnyH_take (i := 13) (v := ?_) rfl (by kernel_rfl) (by kernel_rfl) (by kernel_rfl) (fun _ _ _ h => h) (Or.inl ⟨by rfl, ?_⟩) (by assumption) ?_
    rotate_left
    · intro wq hSq
      obtain ⟨r0, r1, r2, r3⟩ := HT.out.below hSq
      go_simp
      try with_reducible rfl
    simp only [List.getElem_toArray, List.getElem_cons_succ, List.getElem_cons_zero, Act.put, List.setIfInBounds_toArray, List.set_cons_zero, List.set_cons_succ]
    refine wpAnyH_done (by kernel_rfl) ?_ _
    have HT2 := hide (HT.out.below bW5)
    have HP2 := hide (HPU.out.below bW5)
    have HE2 := hide (HEU.out.below bW5)
    have HM2 := hide (HMU.out.below bW5)
    have HB2 := hide (HBU.out.trans (bW5.mono HBU.out.size))
    clear bW5 HT HPU HEU HMU HBU hS hn hz2
    obtain ⟨t0, t1, t2, t3⟩ := HT2.out
    by_cases hF : F2 = 0
    · obtain ⟨h1, h2⟩ := HO1.out hF
      subst hF
      subst h2
      have qE : (E2 != 0) = false := by simpa using h1
      clear HO1 h1
      go_wp2_with fail
      refine (SO.out _ HM2.out).mono ?_
      rintro e w6 ⟨rfl, B6⟩
      have HT3 := hide (HT2.out.below B6)
      have HP3 := hide (HP2.out.below B6)
      have HE3 := hide (HE2.out.below B6)
      have HM3 := hide (HM2.out.below B6)
      have HB3 := hide (HB2.out.trans (B6.mono HB2.out.size))
      have hlP := HP3.out.ats.hl
      clear B6 HT2 HP2 HE2 HM2 HB2 t0 t1 t2 t3 SO
      go_wp2
      go_loopw [15, 16] (fun u i wr => ∃ q : Nat, u = .bool ((ps.take q).any (fun x => decide (x.1 = k))) ∧ i = .int .i64 q ∧ q ≤ n1 ∧ Below w6.heap.size w6 wr) (fun _ i _ => n1 - (intOf i).toNat)
      case atStart => exact ⟨0, by simp, rfl, Nat.zero_le _, Below.refl _ _⟩
      case round =>
        obtain ⟨q, rfl, rfl, hq, hB⟩ := hrel
        by_cases hlt : q < n1
        · have ltI : (q : Int) < (n1 : Int) := by omega
          have hBd := hide hB.drew
          obtain ⟨b', off, rfl, hcl⟩ := (HP3.out.below hBd.out).ats.hrd (by omega)
          obtain ⟨e0, _⟩ := hcl q hlt
          have hnx : Hid ((ps.take (q + 1)).any (fun x => decide (x.1 = k)) = ((ps.take q).any (fun x => decide (x.1 = k)) || decide ((ps.getD q (0, ByteArray.empty)).1 = k))) := by
            unfold Hid
            rw [List.take_succ_eq_append_getElem (by omega : q < ps.length), List.any_append]
            simp [List.getD, List.getElem?_eq_getElem (by omega : q < ps.length)]
          generalize (ps.getD q (0, ByteArray.empty)).1 = t at e0 hnx
          generalize (ps.take q).any (fun x => decide (x.1 = k)) = A0 at *
          have hS0 : wr.drew.cell? ⟨b', off + q * 2, none⟩ = some (.int .i64 t) ∧ wr.drew.cell? ⟨w.heap.size, 0, none⟩ = some (.int .i64 k) := ⟨e0, (HT3.out.below hBd.out).s0⟩
          have hqk : (t == k) = decide (t = k) := by by_cases h : t = k <;> simp [h]
          generalize decide (t = k) = D at *
          clear hcl e0
          cases A0 with
          | true =>
            go_wp2
            refine wp_region_held_drew (S := fun W => W.cell? ⟨b', off + q * 2, none⟩ = some (.int .i64 t) ∧ W.cell? ⟨w.heap.size, 0, none⟩ = some (.int .i64 k)) (by kernel_rfl) hS0 (fun hS => ?_)
            clear hS0
            generalize wr.drew = X0 at *
            refine wpAnyH_take (i := 0) (v := ?_) rfl (by kernel_rfl) (by kernel_rfl) (by kernel_rfl) (fun _ _ _ h => h) (Or.inl ⟨by rfl, ?_⟩) (by assumption) ?_
            rotate_left
            · intro wq hSq
              obtain ⟨r0, r1⟩ := hSq
              go_simp
              try with_reducible rfl
            simp only [List.getElem_toArray, List.getElem_cons_zero, Act.put, List.setIfInBounds_toArray, List.set_cons_zero, List.set_cons_succ]
            refine wpAnyH_take (i := 1) (v := ?_) rfl (by kernel_rfl) (by kernel_rfl) (by kernel_rfl) (fun _ _ _ h => h) (Or.inl ⟨by rfl, ?_⟩) (by assumption) ?_
            rotate_left
            · intro wq hSq
              obtain ⟨r0, r1⟩ := hSq
              go_simp
              try with_reducible rfl
            simp only [List.getElem_toArray, List.getElem_cons_succ, List.getElem_cons_zero, Act.put, List.setIfInBounds_toArray, List.set_cons_zero, List.set_cons_succ]
            refine wpAnyH_take (i := 2) (v := undef) rfl (by kernel_rfl) (by kernel_rfl) (by kernel_rfl) (fun _ _ _ h => h) (Or.inr ⟨by rfl, rfl⟩) (by assumption) ?_
            simp only [List.getElem_toArray, List.getElem_cons_succ, List.getElem_cons_zero, Act.put, List.setIfInBounds_toArray, List.set_cons_zero, List.set_cons_succ]
            refine wpAnyH_take (i := 3) (v := undef) rfl (by kernel_rfl) (by kernel_rfl) (by kernel_rfl) (fun _ _ _ h => h) (Or.inr ⟨by rfl, rfl⟩) (by assumption) ?_
            simp only [List.getElem_toArray, List.getElem_cons_succ, List.getElem_cons_zero, Act.put, List.setIfInBounds_toArray, List.set_cons_zero, List.set_cons_succ]
            refine wpAnyH_take (i := 4) (v := undef) rfl (by kernel_rfl) (by kernel_rfl) (by kernel_rfl) (fun _ _ _ h => h) (Or.inr ⟨by rfl, rfl⟩) (by assumption) ?_
            simp only [List.getElem_toArray, List.getElem_cons_succ, List.getElem_cons_zero, Act.put, List.setIfInBounds_toArray, List.set_cons_zero, List.set_cons_succ]
            refine wpAnyH_take (i := 5) (v := undef) rfl (by kernel_rfl) (by kernel_rfl) (by kernel_rfl) (fun _ _ _ h => h) (Or.inr ⟨by rfl, rfl⟩) (by assumption) ?_
            simp only [List.getElem_toArray, List.getElem_cons_succ, List.getElem_cons_zero, Act.put, List.setIfInBounds_toArray, List.set_cons_zero, List.set_cons_succ]
            refine wpAnyH_take (i := 6) (v := undef) rfl (by kernel_rfl) (by kernel_rfl) (by kernel_rfl) (fun _ _ _ h => h) (Or.inr ⟨by rfl, rfl⟩) (by assumption) ?_
            simp only [List.getElem_toArray, List.getElem_cons_succ, List.getElem_cons_zero, Act.put, List.setIfInBounds_toArray, List.set_cons_zero, List.set_cons_succ]
            refine wpAnyH_take (i := 7) (v := undef) rfl (by kernel_rfl) (by kernel_rfl) (by kernel_rfl) (fun _ _ _ h => h) (Or.inr ⟨by rfl, rfl⟩) (by assumption) ?_
            simp only [List.getElem_toArray, List.getElem_cons_succ, List.getElem_cons_zero, Act.put, List.setIfInBounds_toArray, List.set_cons_zero, List.set_cons_succ]
            refine wpAnyH_take (i := 8) (v := undef) rfl (by kernel_rfl) (by kernel_rfl) (by kernel_rfl) (fun _ _ _ h => h) (Or.inr ⟨by rfl, rfl⟩) (by assumption) ?_
            simp only [List.getElem_toArray, List.getElem_cons_succ, List.getElem_cons_zero, Act.put, List.setIfInBounds_toArray, List.set_cons_zero, List.set_cons_succ]
            refine wpAnyH_take (i := 9) (v := undef) rfl (by kernel_rfl) (by kernel_rfl) (by kernel_rfl) (fun _ _ _ h => h) (Or.inr ⟨by rfl, rfl⟩) (by assumption) ?_
            simp only [List.getElem_toArray, List.getElem_cons_succ, List.getElem_cons_zero, Act.put, List.setIfInBounds_toArray, List.set_cons_zero, List.set_cons_succ]
            refine wpAnyH_take (i := 10) (v := ?_) rfl (by kernel_rfl) (by kernel_rfl) (by kernel_rfl) (fun _ _ _ h => h) (Or.inl ⟨by rfl, ?_⟩) (by assumption) ?_
            rotate_left
            · intro wq hSq
              obtain ⟨r0, r1⟩ := hSq
              go_simp
              try with_reducible rfl
            simp only [List.getElem_toArray, List.getElem_cons_succ, List.getElem_cons_zero, Act.put, List.setIfInBounds_toArray, List.set_cons_zero, List.set_cons_succ]
            refine wpAnyH_take (i := 11) (v := ?_) rfl (by kernel_rfl) (by kernel_rfl) (by kernel_rfl) (fun _ _ _ h => h) (Or.inl ⟨by rfl, ?_⟩) (by assumption) ?_
            rotate_left
            · intro wq hSq
              obtain ⟨r0, r1⟩ := hSq
              go_simp
              try with_reducible rfl
            simp only [List.getElem_toArray, List.getElem_cons_succ, List.getElem_cons_zero, Act.put, List.setIfInBounds_toArray, List.set_cons_zero, List.set_cons_succ]
            refine wpAnyH_done (by kernel_rfl) ?_ _
            clear hS
            go_wp2
            go_roundw
            case rel => exact ⟨q + 1, by rw [hnx.out]; rfl, by go_num, by omega, hBd.out⟩
            case measure => simp [intOf]; omega
          | false =>
            go_wp2
            refine wp_region_held_drew (S := fun W => W.cell? ⟨b', off + q * 2, none⟩ = some (.int .i64 t) ∧ W.cell? ⟨w.heap.size, 0, none⟩ = some (.int .i64 k)) (by kernel_rfl) hS0 (fun hS => ?_)
            clear hS0
            generalize wr.drew = X0 at *
            refine wpAnyH_take (i := 0) (v := ?_) rfl (by kernel_rfl) (by kernel_rfl) (by kernel_rfl) (fun _ _ _ h => h) (Or.inl ⟨by rfl, ?_⟩) (by assumption) ?_
            rotate_left
            · intro wq hSq
              obtain ⟨r0, r1⟩ := hSq
              go_simp
              try with_reducible rfl
            simp only [List.getElem_toArray, List.getElem_cons_zero, Act.put, List.setIfInBounds_toArray, List.set_cons_zero, List.set_cons_succ]
            refine wpAnyH_take (i := 1) (v := ?_) rfl (by kernel_rfl) (by kernel_rfl) (by kernel_rfl) (fun _ _ _ h => h) (Or.inl ⟨by rfl, ?_⟩) (by assumption) ?_
            rotate_left
            · intro wq hSq
              obtain ⟨r0, r1⟩ := hSq
              go_simp
              try with_reducible rfl
            simp only [List.getElem_toArray, List.getElem_cons_succ, List.getElem_cons_zero, Act.put, List.setIfInBounds_toArray, List.set_cons_zero, List.set_cons_succ]
            refine wpAnyH_take (i := 2) (v := ?_) rfl (by kernel_rfl) (by kernel_rfl) (by kernel_rfl) (fun _ _ _ h => h) (Or.inl ⟨by rfl, ?_⟩) (by assumption) ?_
            rotate_left
            · intro wq hSq
              obtain ⟨r0, r1⟩ := hSq
              go_simp
              try with_reducible rfl
            simp only [List.getElem_toArray, List.getElem_cons_succ, List.getElem_cons_zero, Act.put, List.setIfInBounds_toArray, List.set_cons_zero, List.set_cons_succ]
            refine wpAnyH_take (i := 3) (v := ?_) rfl (by kernel_rfl) (by kernel_rfl) (by kernel_rfl) (fun _ _ _ h => h) (Or.inl ⟨by rfl, ?_⟩) (by assumption) ?_
            rotate_left
            · intro wq hSq
              obtain ⟨r0, r1⟩ := hSq
              go_simp
              try with_reducible rfl
            simp only [List.getElem_toArray, List.getElem_cons_succ, List.getElem_cons_zero, Act.put, List.setIfInBounds_toArray, List.set_cons_zero, List.set_cons_succ]
            refine wpAnyH_take (i := 4) (v := ?_) rfl (by kernel_rfl) (by kernel_rfl) (by kernel_rfl) (fun _ _ _ h => h) (Or.inl ⟨by rfl, ?_⟩) (by assumption) ?_
            rotate_left
            · intro wq hSq
              obtain ⟨r0, r1⟩ := hSq
              go_simp
              try with_reducible rfl
            simp only [List.getElem_toArray, List.getElem_cons_succ, List.getElem_cons_zero, Act.put, List.setIfInBounds_toArray, List.set_cons_zero, List.set_cons_succ]
            refine wpAnyH_take (i := 5) (v := ?_) rfl (by kernel_rfl) (by kernel_rfl) (by kernel_rfl) (fun _ _ _ h => h) (Or.inl ⟨by rfl, ?_⟩) (by assumption) ?_
            rotate_left
            · intro wq hSq
              obtain ⟨r0, r1⟩ := hSq
              go_simp
              try with_reducible rfl
            simp only [List.getElem_toArray, List.getElem_cons_succ, List.getElem_cons_zero, Act.put, List.setIfInBounds_toArray, List.set_cons_zero, List.set_cons_succ]
            refine wpAnyH_take (i := 6) (v := ?_) rfl (by kernel_rfl) (by kernel_rfl) (by kernel_rfl) (fun _ _ _ h => h) (Or.inl ⟨by rfl, ?_⟩) (by assumption) ?_
            rotate_left
            · intro wq hSq
              obtain ⟨r0, r1⟩ := hSq
              go_simp
              try with_reducible rfl
            simp only [List.getElem_toArray, List.getElem_cons_succ, List.getElem_cons_zero, Act.put, List.setIfInBounds_toArray, List.set_cons_zero, List.set_cons_succ]
            refine wpAnyH_take (i := 7) (v := ?_) rfl (by kernel_rfl) (by kernel_rfl) (by kernel_rfl) (fun _ _ _ h => h) (Or.inl ⟨by rfl, ?_⟩) (by assumption) ?_
            rotate_left
            · intro wq hSq
              obtain ⟨r0, r1⟩ := hSq
              go_simp
              try with_reducible rfl
            simp only [List.getElem_toArray, List.getElem_cons_succ, List.getElem_cons_zero, Act.put, List.setIfInBounds_toArray, List.set_cons_zero, List.set_cons_succ]
            refine wpAnyH_take (i := 8) (v := ?_) rfl (by kernel_rfl) (by kernel_rfl) (by kernel_rfl) (fun _ _ _ h => h) (Or.inl ⟨by rfl, ?_⟩) (by assumption) ?_
            rotate_left
            · intro wq hSq
              obtain ⟨r0, r1⟩ := hSq
              go_simp
              try with_reducible rfl
            simp only [List.getElem_toArray, List.getElem_cons_succ, List.getElem_cons_zero, Act.put, List.setIfInBounds_toArray, List.set_cons_zero, List.set_cons_succ]
            refine wpAnyH_take (i := 9) (v := ?_) rfl (by kernel_rfl) (by kernel_rfl) (by kernel_rfl) (fun _ _ _ h => h) (Or.inl ⟨by rfl, ?_⟩) (by assumption) ?_
            rotate_left
            · intro wq hSq
              obtain ⟨r0, r1⟩ := hSq
              go_simp
              try with_reducible rfl
            simp only [List.getElem_toArray, List.getElem_cons_succ, List.getElem_cons_zero, Act.put, List.setIfInBounds_toArray, List.set_cons_zero, List.set_cons_succ]
            refine wpAnyH_take (i := 10) (v := ?_) rfl (by kernel_rfl) (by kernel_rfl) (by kernel_rfl) (fun _ _ _ h => h) (Or.inl ⟨by rfl, ?_⟩) (by assumption) ?_
            rotate_left
            · intro wq hSq
              obtain ⟨r0, r1⟩ := hSq
              go_simp
              try with_reducible rfl
            simp only [List.getElem_toArray, List.getElem_cons_succ, List.getElem_cons_zero, Act.put, List.setIfInBounds_toArray, List.set_cons_zero, List.set_cons_succ]
            refine wpAnyH_take (i := 11) (v := ?_) rfl (by kernel_rfl) (by kernel_rfl) (by kernel_rfl) (fun _ _ _ h => h) (Or.inl ⟨by rfl, ?_⟩) (by assumption) ?_
            rotate_left
            · intro wq hSq
              obtain ⟨r0, r1⟩ := hSq
              go_simp
              try with_reducible rfl
            simp only [List.getElem_toArray, List.getElem_cons_succ, List.getElem_cons_zero, Act.put, List.setIfInBounds_toArray, List.set_cons_zero, List.set_cons_succ]
            refine wpAnyH_done (by kernel_rfl) ?_ _
            clear hS
            go_wp2
            go_roundw
            case rel => exact ⟨q + 1, by rw [hnx.out]; first | rfl | (rw [hqk]; rfl), by go_num, by omega, hBd.out⟩
            case measure => simp [intOf]; omega
        · obtain rfl : q = n1 := by omega
          have nI : ¬ ((q : Int) < (q : Int)) := by omega
          have HAS : Hid ((ps.take q).any (fun x => decide (x.1 = k)) = true → ∃ x ∈ ps, x.1 = k) := fun h => by
            rw [List.take_of_length_le (by omega)] at h
            obtain ⟨x, hx, he⟩ := List.any_eq_true.1 h
            exact ⟨x, hx, of_decide_eq_true he⟩
          generalize (ps.take q).any (fun x => decide (x.1 = k)) = AS at *
          obtain ⟨wz, rfl⟩ : ∃ wz : World, wz = wr := ⟨_, rfl⟩
          have Bz := hB.drew
          have HT := hide (HT3.out.below Bz)
          have HPU := hide (HP3.out.below Bz)
          have HEU := hide (HE3.out.below Bz)
          have HMU := hide (HM3.out.below Bz)
          have HBU := hide (HB3.out.trans (Bz.mono HB3.out.size))
          clear Bz hB HT3 HP3 HE3 HM3 HB3
          go_wp2_with fail
          refine wp_region_held_drew (S := fun W => Below wz.drew.heap.size wz.drew W) (by kernel_rfl) (Below.refl _ _) (fun hS => ?_)
          clear hS
          generalize wz.drew = U at *
          have hS : Below U.heap.size U U := Below.refl _ _
          refine wpAnyH_take (i := 1) (v := ?_) rfl (by kernel_rfl) (by kernel_rfl) (by kernel_rfl) (fun _ _ _ h => h) (Or.inl ⟨by rfl, ?_⟩) (by assumption) ?_
          rotate_left
          · intro wq hSq
            obtain ⟨r0, r1, r2, r3⟩ := HT.out.below hSq
            go_simp
            try with_reducible rfl
          simp only [List.getElem_toArray, List.getElem_cons_succ, List.getElem_cons_zero, Act.put, List.setIfInBounds_toArray, List.set_cons_zero, List.set_cons_succ]
          refine wpAnyH_take (i := 3) (v := ?_) rfl (by kernel_rfl) (by kernel_rfl) (by kernel_rfl) (fun _ _ _ h => h) (Or.inl ⟨by rfl, ?_⟩) (by assumption) ?_
          rotate_left
          · intro wq hSq
            obtain ⟨r0, r1, r2, r3⟩ := HT.out.below hSq
            go_simp
            try with_reducible rfl
          simp only [List.getElem_toArray, List.getElem_cons_succ, List.getElem_cons_zero, Act.put, List.setIfInBounds_toArray, List.set_cons_zero, List.set_cons_succ]
          refine wpAnyH_take (i := 6) (v := ?_) rfl (by kernel_rfl) (by kernel_rfl) (by kernel_rfl) (fun _ _ _ h => h) (Or.inl ⟨by rfl, ?_⟩) (by assumption) ?_
          rotate_left
          · intro wq hSq
            obtain ⟨r0, r1, r2, r3⟩ := HT.out.below hSq
            go_simp
            try with_reducible rfl
          simp only [List.getElem_toArray, List.getElem_cons_succ, List.getElem_cons_zero, Act.put, List.setIfInBounds_toArray, List.set_cons_zero, List.set_cons_succ]
          refine wpAnyH_take (i := 7) (v := ?_) rfl (by kernel_rfl) (by kernel_rfl) (by kernel_rfl) (fun _ _ _ h => h) (Or.inl ⟨by rfl, ?_⟩) (by assumption) ?_
          rotate_left
          · intro wq hSq
            obtain ⟨r0, r1, r2, r3⟩ := HT.out.below hSq
            go_simp
            try with_reducible rfl
          simp only [List.getElem_toArray, List.getElem_cons_succ, List.getElem_cons_zero, Act.put, List.setIfInBounds_toArray, List.set_cons_zero, List.set_cons_succ]
          -- 0: the empty row; 2: the copy; 4: the one subtree; 5: append of it; HPU: the row's fact; ps: the row; q: how long
          have hB0 := Below.refl U.heap.size U
          have hn := (HPU).out.hn
          have hz2 : ∀ x ∈ ps ++ [(k, tx b)], x.2.size ≤ 1048576 := fun x hx => by
            rcases List.mem_append.1 hx with h | h
            · exact (HPU).out.hz x h
            · simp at h; subst h; exact hbs
          refine' mk_rest4 (K := AppK U q (ps ++ [(k, tx b)])) (fun REST => ?_) ?_
          rotate_left
          · skip
            -- the two operations that are ready: 0, 4
            refine wpAnyH_ready (rs := [0, 4]) (by kernel_rfl) (by simp) ?_
            refine AllReadyH.cons rfl (fun Kq hKq => ?_) (AllReadyH.cons rfl (fun Kq hKq => ?_) AllReadyH.nil)
            · have bW1 := hB0.alloc hB0.size (.cells #[] 36)
              have o1 := OwnT.lit U U.heap.size (Nat.le_refl _)
              -- it makes memory; behind it bW1 stands
              go_simp
              refine hKq.out _ _ (bW1) (fun hHeld => ?_)
              clear hKq Kq hHeld
              generalize hW1 : (U.alloc (.cells #[] 36)) = W1 at *
              have hs1 : W1.heap.size = U.heap.size + 1 := by rw [← hW1]; simp
              clear hW1
              -- the two operations that are ready: 2, 4
              refine wpAnyH_ready (rs := [2, 4]) (by kernel_rfl) (by simp) ?_
              refine AllReadyH.cons rfl (fun Kq hKq => ?_) (AllReadyH.cons rfl (fun Kq hKq => ?_) AllReadyH.nil)
              · obtain ⟨a2, c2', W2, hrun, o2, hg⟩ := run_appT W1 22 U.heap.size _ [] o1 _ _ _ _ ((HPU).out.below bW1).ats (HPU).out.nil q (by simp) (by omega) bW1.size
                rw [appOfH_of] at hrun
                have bW2 := bW1.grown hg bW1.size o1.far
                rw [List.nil_append] at o2
                clear hg
                -- it makes memory; behind it bW2 stands
                go_simp
                refine hKq.out _ _ (bW2) (fun hHeld => ?_)
                clear hKq Kq hHeld
                clear hrun
                have bW3 := bW2.alloc bW2.size (.cells #[.int .i64 k, .string (tx b)] 36)
                have s3 := OwnT.one W2 k (tx b) hbs
                have o3 := o2.below (nbelow W2 (.cells #[.int .i64 k, .string (tx b)] 36))
                -- the one operation that is ready: 4
                refine wpAnyH_ready (rs := [4]) (by kernel_rfl) (by simp) ?_
                refine AllReadyH.cons rfl (fun Kq hKq => ?_) AllReadyH.nil
                -- it makes memory; behind it bW3 stands
                go_simp
                refine hKq.out _ _ (bW3) (fun hHeld => ?_)
                clear hKq Kq hHeld
                generalize W2.heap.size = g2 at *
                generalize (W2.alloc (.cells #[.int .i64 k, .string (tx b)] 36)) = W3 at *
                obtain ⟨a4, c4, W4, hrun, o4, hg⟩ := run_appT W3 22 U.heap.size _ _ o3 _ _ _ _ s3 (fun h => by cases h) (q + 1) (by rw [o3.len2]) (by omega) bW3.size
                rw [appOfH_of] at hrun
                have bW4 := bW3.grown hg bW3.size o3.far
                -- the one operation that is ready: 5
                refine wpAnyH_ready (rs := [5]) (by kernel_rfl) (by simp) ?_
                refine AllReadyH.cons rfl (fun Kq hKq => ?_) AllReadyH.nil
                -- it makes memory; behind it bW4 stands
                go_simp
                refine hKq.out _ _ (bW4) (fun hHeld => ?_)
                clear hKq Kq hHeld
                have hrow := o4.rowInM hz2 (by omega)
                clear hrun hg o1 o2 o3 o4 s3 bW1 bW2 bW3
                obtain ⟨x5, hx5⟩ : ∃ x5, Value.slice a4 (q + 1) c4 = x5 := ⟨_, rfl⟩
                rw [hx5]
                generalize (Value.slice (some ⟨U.heap.size, 0, none⟩) 0 0) = x0
                generalize (Value.slice a2 q c2') = x2
                generalize (Value.slice (some ⟨g2, 0, none⟩) 1 1) = x4
                exact REST.out W4 x0 x2 x4 x5 ⟨bW4, a4, c4, hx5.symm, hrow⟩
              · have bW2 := bW1.alloc bW1.size (.cells #[.int .i64 k, .string (tx b)] 36)
                have s2 := OwnT.one W1 k (tx b) hbs
                have o2 := o1.below (nbelow W1 (.cells #[.int .i64 k, .string (tx b)] 36))
                -- it makes memory; behind it bW2 stands
                go_simp
                refine hKq.out _ _ (bW2) (fun hHeld => ?_)
                clear hKq Kq hHeld
                rw [hs1] at s2
                have hne : (Value.slice (some ⟨U.heap.size, 0, none⟩) 0 0).ownBlock ≠ some (U.heap.size + 1) := by simp [Value.ownBlock]
                generalize (W1.alloc (.cells #[.int .i64 k, .string (tx b)] 36)) = W2 at *
                obtain ⟨a2, c2', W3, hrun, o3, hg⟩ := run_appT W2 22 U.heap.size _ [] o2 _ _ _ _ ((HPU).out.below bW2).ats (HPU).out.nil q (by simp) (by omega) bW2.size
                rw [appOfH_of] at hrun
                have bW3 := bW2.grown hg bW2.size o2.far
                rw [List.nil_append] at o3
                have s3 := s2.grownT hg hne
                clear hg
                -- the one operation that is ready: 2
                refine wpAnyH_ready (rs := [2]) (by kernel_rfl) (by simp) ?_
                refine AllReadyH.cons rfl (fun Kq hKq => ?_) AllReadyH.nil
                -- it makes memory; behind it bW3 stands
                go_simp
                refine hKq.out _ _ (bW3) (fun hHeld => ?_)
                clear hKq Kq hHeld
                clear hrun
                obtain ⟨a4, c4, W4, hrun, o4, hg⟩ := run_appT W3 22 U.heap.size _ _ o3 _ _ _ _ s3 (fun h => by cases h) (q + 1) (by rw [o3.len2]) (by omega) bW3.size
                rw [appOfH_of] at hrun
                have bW4 := bW3.grown hg bW3.size o3.far
                -- the one operation that is ready: 5
                refine wpAnyH_ready (rs := [5]) (by kernel_rfl) (by simp) ?_
                refine AllReadyH.cons rfl (fun Kq hKq => ?_) AllReadyH.nil
                -- it makes memory; behind it bW4 stands
                go_simp
                refine hKq.out _ _ (bW4) (fun hHeld => ?_)
                clear hKq Kq hHeld
                exact REST.out W4 _ _ _ _ ⟨bW4, a4, c4, rfl, o4.rowInM hz2 (by omega)⟩
            · have bW1 := hB0.alloc hB0.size (.cells #[.int .i64 k, .string (tx b)] 36)
              have s1 := OwnT.one U k (tx b) hbs
              -- it makes memory; behind it bW1 stands
              go_simp
              refine hKq.out _ _ (bW1) (fun hHeld => ?_)
              clear hKq Kq hHeld
              generalize hW1 : (U.alloc (.cells #[.int .i64 k, .string (tx b)] 36)) = W1 at *
              have hs1 : W1.heap.size = U.heap.size + 1 := by rw [← hW1]; simp
              clear hW1
              have bW2 := bW1.alloc bW1.size (.cells #[] 36)
              have s2 := s1.below (nbelow W1 (.cells #[] 36))
              have o2 := OwnT.lit W1 U.heap.size bW1.size
              -- the one operation that is ready: 0
              refine wpAnyH_ready (rs := [0]) (by kernel_rfl) (by simp) ?_
              refine AllReadyH.cons rfl (fun Kq hKq => ?_) AllReadyH.nil
              -- it makes memory; behind it bW2 stands
              go_simp
              refine hKq.out _ _ (bW2) (fun hHeld => ?_)
              clear hKq Kq hHeld
              rw [hs1] at o2
              have hne : (Value.slice (some ⟨U.heap.size + 1, 0, none⟩) 0 0).ownBlock ≠ some U.heap.size := by simp [Value.ownBlock]
              generalize (W1.alloc (.cells #[] 36)) = W2 at *
              obtain ⟨a2, c2', W3, hrun, o3, hg⟩ := run_appT W2 22 U.heap.size _ [] o2 _ _ _ _ ((HPU).out.below bW2).ats (HPU).out.nil q (by simp) (by omega) bW2.size
              rw [appOfH_of] at hrun
              have bW3 := bW2.grown hg bW2.size o2.far
              rw [List.nil_append] at o3
              have s3 := s2.grownT hg hne
              clear hg
              -- the one operation that is ready: 2
              refine wpAnyH_ready (rs := [2]) (by kernel_rfl) (by simp) ?_
              refine AllReadyH.cons rfl (fun Kq hKq => ?_) AllReadyH.nil
              -- it makes memory; behind it bW3 stands
              go_simp
              refine hKq.out _ _ (bW3) (fun hHeld => ?_)
              clear hKq Kq hHeld
              clear hrun
              obtain ⟨a4, c4, W4, hrun, o4, hg⟩ := run_appT W3 22 U.heap.size _ _ o3 _ _ _ _ s3 (fun h => by cases h) (q + 1) (by rw [o3.len2]) (by omega) bW3.size
              rw [appOfH_of] at hrun
              have bW4 := bW3.grown hg bW3.size o3.far
              -- the one operation that is ready: 5
              refine wpAnyH_ready (rs := [5]) (by kernel_rfl) (by simp) ?_
              refine AllReadyH.cons rfl (fun Kq hKq => ?_) AllReadyH.nil
              -- it makes memory; behind it bW4 stands
              go_simp
              refine hKq.out _ _ (bW4) (fun hHeld => ?_)
              clear hKq Kq hHeld
              exact REST.out W4 _ _ _ _ ⟨bW4, a4, c4, rfl, o4.rowInM hz2 (by omega)⟩
          intro W x0 x2 x4 x5 hK
          obtain ⟨bW, a5, c5, rfl, hrow⟩ := hK
          have d5 := hide (CH.out W a5 (q + 1) c5 _ a2 n2 c2 es (HMU.out.below bW) hrow (HEU.out.below bW))
          generalize (chkV (ps ++ [(k, tx b)]) es gk g) = C at *
          obtain ⟨H1, H2⟩ := C
          simp only [] at HI1 d5
          -- the one operation that is ready: 8
          refine wpAnyH_ready (rs := [8]) (by kernel_rfl) (by simp) ?_
          refine AllReadyH.cons rfl (fun Kq hKq => ?_) AllReadyH.nil
          go_simp
          refine d5.out.mono ?_
          rintro e W5 ⟨rfl, B5⟩
          have bW5 := bW.trans (B5.mono bW.size)
          refine hKq.out _ _ bW5 (fun _ => ?_)
          clear hKq Kq d5 B5 bW hrow
          refine wpAnyH_take (i := 9) (v := ?_) rfl (by kernel_rfl) (by kernel_rfl) (by kernel_rfl) (fun _ _ _ h => h) (Or.inl ⟨by rfl, ?_⟩) (by assumption) ?_
          rotate_left
          · intro wq hSq
            obtain ⟨r0, r1, r2, r3⟩ := HT.out.below hSq
            go_simp
            try with_reducible rfl
          simp only [List.getElem_toArray, List.getElem_cons_succ, List.getElem_cons_zero, Act.put, List.setIfInBounds_toArray, List.set_cons_zero, List.set_cons_succ]
          refine wpAnyH_take (i := 10) (v := ?_) rfl (by kernel_rfl) (by kernel_rfl) (by kernel_rfl) (fun _ _ _ h => h) (Or.inl ⟨by rfl, ?_⟩) (by assumption) ?_
          rotate_left
          · intro wq hSq
            obtain ⟨r0, r1, r2, r3⟩ := HT.out.below hSq
            go_simp
            try with_reducible rfl
          simp only [List.getElem_toArray, List.getElem_cons_succ, List.getElem_cons_zero, Act.put, List.setIfInBounds_toArray, List.set_cons_zero, List.set_cons_succ]
          refine wpAnyH_take (i := 11) (v := ?_) rfl (by kernel_rfl) (by kernel_rfl) (by kernel_rfl) (fun _ _ _ h => h) (Or.inl ⟨by rfl, ?_⟩) (by assumption) ?_
          rotate_left
          · intro wq hSq
            obtain ⟨r0, r1, r2, r3⟩ := HT.out.below hSq
            go_simp
            try with_reducible rfl
          simp only [List.getElem_toArray, List.getElem_cons_succ, List.getElem_cons_zero, Act.put, List.setIfInBounds_toArray, List.set_cons_zero, List.set_cons_succ]
          refine wpAnyH_take (i := 12) (v := ?_) rfl (by kernel_rfl) (by kernel_rfl) (by kernel_rfl) (fun _ _ _ h => h) (Or.inl ⟨by rfl, ?_⟩) (by assumption) ?_
          rotate_left
          · intro wq hSq
            obtain ⟨r0, r1, r2, r3⟩ := HT.out.below hSq
            go_simp
            try with_reducible rfl
          simp only [List.getElem_toArray, List.getElem_cons_succ, List.getElem_cons_zero, Act.put, List.setIfInBounds_toArray, List.set_cons_zero, List.set_cons_succ]
          refine wpAnyH_take (i := 13) (v := ?_) rfl (by kernel_rfl) (by kernel_rfl) (by kernel_rfl) (fun _ _ _ h => h) (Or.inl ⟨by rfl, ?_⟩) (by assumption) ?_
          rotate_left
          · intro wq hSq
            obtain ⟨r0, r1, r2, r3⟩ := HT.out.below hSq
            go_simp
            try with_reducible rfl
          simp only [List.getElem_toArray, List.getElem_cons_succ, List.getElem_cons_zero, Act.put, List.setIfInBounds_toArray, List.set_cons_zero, List.set_cons_succ]
          refine wpAnyH_done (by kernel_rfl) ?_ _
          -- what is asked last: $1: is the subtree alone enough?
          have HT6 := hide (HT.out.below bW5)
          have HM6 := hide (HMU.out.below bW5)
          have HB6 := hide (HBU.out.trans (bW5.mono HBU.out.size))
          clear bW5 HT HPU HEU HMU HBU hS hn hz2
          obtain ⟨t0, t1, t2, t3⟩ := HT6.out
          by_cases hE : E2 = 0
          · have qE : (E2 == 0) = true := by simpa using hE
            cases hAS : AS with
            | true =>
              have hH := HI1.out hE (HAS.out hAS)
              subst hH
              clear HI1 HAS hE hAS
              have BY := nbelow W5 (.cells #[.int .i64 k, .string (tx b)] 36)
              have r9 : RowIn (W5.alloc (.cells #[.int .i64 k, .string (tx b)] 36)) (some ⟨W5.heap.size, 0, none⟩) 1 1 [(k, tx b)] := ⟨OwnT.one W5 k (tx b) hbs, (fun h => by cases h), by omega, fun x hx => by simp at hx; subst hx; exact hbs⟩
              have n9 : RowIn (W5.alloc (.cells #[.int .i64 k, .string (tx b)] 36)) none 0 0 [] := ⟨⟨rfl, Nat.le_refl _, by decide, by simp, fun h => absurd h (by omega)⟩, fun _ => ⟨rfl, rfl⟩, by omega, by simp⟩
              have d9 := hide (CH.out _ _ _ _ _ none 0 0 [] (HM6.out.below BY) r9 n9)
              have HT7 := hide (HT6.out.below BY)
              have HM7 := hide (HM6.out.below BY)
              have HB7 := hide (HB6.out.trans (BY.mono HB6.out.size))
              obtain ⟨u0, u1, u2, u3⟩ := HT7.out
              clear BY r9 n9 HT6 HM6 HB6 CH
              go_wp2_with fail
              clear t0 t1 t2 t3 u0 u1 u2 u3
              refine d9.out.mono ?_
              rintro e w9 ⟨rfl, B9⟩
              have HT8 := hide (HT7.out.below B9)
              have HM8 := hide (HM7.out.below B9)
              have HB8 := hide (HB7.out.trans (B9.mono HB7.out.size))
              clear d9 B9 HT7 HM7 HB7
              generalize chkV [(k, tx b)] [] gk g = CZ at *
              obtain ⟨Z1, Z2⟩ := CZ
              simp only [] at HZ1
              obtain ⟨t0, t1, t2, t3⟩ := HT8.out
              go_wp2_with fail
              refine (GO.out _ HM8.out).mono ?_
              rintro e w10 ⟨rfl, B10⟩
              have HT9 := hide (HT8.out.below B10)
              have HM9 := hide (HM8.out.below B10)
              have HB9 := hide (HB8.out.trans (B10.mono HB8.out.size))
              clear B10 HT8 HM8 HB8 t0 t1 t2 t3 GO
              obtain ⟨t0, t1, t2, t3⟩ := HT9.out
              cases GM with
              | false =>
                have qz : (Z2 == 0) = false := by
                  have h := HZ1.out
                  simp at h
                  simpa using h
                clear HZ1 AO
                have d12 := hide (TH.out w10 HM9.out)
                go_wp2_with fail
                refine d12.out.mono ?_
                rintro e w12 ⟨rfl, K12⟩
                go_wp2
                go_ret
                exact ⟨rfl, HB9.out.trans (K12.1.mono HB9.out.size)⟩
              | true =>
                by_cases hkg : k = gk
                · have qk : (k != gk) = false := by simpa using hkg
                  have HZ2 : Hid (Z2 = 0 ↔ AL = true) := by
                    have h := HZ1.out
                    unfold Hid
                    rw [h]
                    simp [hkg]
                  clear HZ1 hkg
                  go_wp2_with fail
                  refine (AO.out _ HM9.out).mono ?_
                  rintro e w11 ⟨rfl, B11⟩
                  have HMa := hide (HM9.out.below B11)
                  have HBa := hide (HB9.out.trans (B11.mono HB9.out.size))
                  clear B11 HM9 HB9 HT9 t0 t1 t2 t3
                  have qz : (Z2 == 0) = AL := by
                    rw [Bool.eq_iff_iff, beq_iff_eq]
                    exact HZ2.out
                  have qq : (AL == AL) = true := by simp
                  clear HZ2
                  have d12 := hide (TH.out w11 HMa.out)
                  go_wp2_with fail
                  refine d12.out.mono ?_
                  rintro e w12 ⟨rfl, K12⟩
                  go_wp2
                  go_ret
                  exact ⟨rfl, HBa.out.trans (K12.1.mono HBa.out.size)⟩
                · have qk : (k != gk) = true := by simpa using hkg
                  have qz : (Z2 == 0) = true := by
                    have h := HZ1.out
                    simp [hkg] at h
                    simpa using h
                  clear HZ1 hkg AO
                  have d12 := hide (TH.out w10 HM9.out)
                  go_wp2_with fail
                  refine d12.out.mono ?_
                  rintro e w12 ⟨rfl, K12⟩
                  go_wp2
                  go_ret
                  exact ⟨rfl, HB9.out.trans (K12.1.mono HB9.out.size)⟩
            | false =>
              clear HI1 HAS hE hAS
              have BY := nbelow W5 (.cells #[.int .i64 k, .string (tx b)] 36)
              have r9 : RowIn (W5.alloc (.cells #[.int .i64 k, .string (tx b)] 36)) (some ⟨W5.heap.size, 0, none⟩) 1 1 [(k, tx b)] := ⟨OwnT.one W5 k (tx b) hbs, (fun h => by cases h), by omega, fun x hx => by simp at hx; subst hx; exact hbs⟩
              have n9 : RowIn (W5.alloc (.cells #[.int .i64 k, .string (tx b)] 36)) none 0 0 [] := ⟨⟨rfl, Nat.le_refl _, by decide, by simp, fun h => absurd h (by omega)⟩, fun _ => ⟨rfl, rfl⟩, by omega, by simp⟩
              have d9 := hide (CH.out _ _ _ _ _ none 0 0 [] (HM6.out.below BY) r9 n9)
              have HT7 := hide (HT6.out.below BY)
              have HM7 := hide (HM6.out.below BY)
              have HB7 := hide (HB6.out.trans (BY.mono HB6.out.size))
              obtain ⟨u0, u1, u2, u3⟩ := HT7.out
              clear BY r9 n9 HT6 HM6 HB6 CH
              go_wp2_with fail
              clear t0 t1 t2 t3 u0 u1 u2 u3
              refine d9.out.mono ?_
              rintro e w9 ⟨rfl, B9⟩
              have HT8 := hide (HT7.out.below B9)
              have HM8 := hide (HM7.out.below B9)
              have HB8 := hide (HB7.out.trans (B9.mono HB7.out.size))
              clear d9 B9 HT7 HM7 HB7
              generalize chkV [(k, tx b)] [] gk g = CZ at *
              obtain ⟨Z1, Z2⟩ := CZ
              simp only [] at HZ1
              obtain ⟨t0, t1, t2, t3⟩ := HT8.out
              go_wp2_with fail
              refine (GO.out _ HM8.out).mono ?_
              rintro e w10 ⟨rfl, B10⟩
              have HT9 := hide (HT8.out.below B10)
              have HM9 := hide (HM8.out.below B10)
              have HB9 := hide (HB8.out.trans (B10.mono HB8.out.size))
              clear B10 HT8 HM8 HB8 t0 t1 t2 t3 GO
              obtain ⟨t0, t1, t2, t3⟩ := HT9.out
              cases GM with
              | false =>
                have qz : (Z2 == 0) = false := by
                  have h := HZ1.out
                  simp at h
                  simpa using h
                clear HZ1 AO
                have d12 := hide (TH.out w10 HM9.out)
                go_wp2_with fail
                refine d12.out.mono ?_
                rintro e w12 ⟨rfl, K12⟩
                go_wp2
                go_ret
                exact ⟨rfl, HB9.out.trans (K12.1.mono HB9.out.size)⟩
              | true =>
                by_cases hkg : k = gk
                · have qk : (k != gk) = false := by simpa using hkg
                  have HZ2 : Hid (Z2 = 0 ↔ AL = true) := by
                    have h := HZ1.out
                    unfold Hid
                    rw [h]
                    simp [hkg]
                  clear HZ1 hkg
                  go_wp2_with fail
                  refine (AO.out _ HM9.out).mono ?_
                  rintro e w11 ⟨rfl, B11⟩
                  have HMa := hide (HM9.out.below B11)
                  have HBa := hide (HB9.out.trans (B11.mono HB9.out.size))
                  clear B11 HM9 HB9 HT9 t0 t1 t2 t3
                  have qz : (Z2 == 0) = AL := by
                    rw [Bool.eq_iff_iff, beq_iff_eq]
                    exact HZ2.out
                  have qq : (AL == AL) = true := by simp
                  clear HZ2
                  have d12 := hide (TH.out w11 HMa.out)
                  go_wp2_with fail
                  refine d12.out.mono ?_
                  rintro e w12 ⟨rfl, K12⟩
                  go_wp2
                  go_ret
                  exact ⟨rfl, HBa.out.trans (K12.1.mono HBa.out.size)⟩
                · have qk : (k != gk) = true := by simpa using hkg
                  have qz : (Z2 == 0) = true := by
                    have h := HZ1.out
                    simp [hkg] at h
                    simpa using h
                  clear HZ1 hkg AO
                  have d12 := hide (TH.out w10 HM9.out)
                  go_wp2_with fail
                  refine d12.out.mono ?_
                  rintro e w12 ⟨rfl, K12⟩
                  go_wp2
                  go_ret
                  exact ⟨rfl, HB9.out.trans (K12.1.mono HB9.out.size)⟩
          · have qE : (E2 == 0) = false := by simpa using hE
            clear HI1 HAS hE
            have BY := nbelow W5 (.cells #[.int .i64 k, .string (tx b)] 36)
            have r9 : RowIn (W5.alloc (.cells #[.int .i64 k, .string (tx b)] 36)) (some ⟨W5.heap.size, 0, none⟩) 1 1 [(k, tx b)] := ⟨OwnT.one W5 k (tx b) hbs, (fun h => by cases h), by omega, fun x hx => by simp at hx; subst hx; exact hbs⟩
            have n9 : RowIn (W5.alloc (.cells #[.int .i64 k, .string (tx b)] 36)) none 0 0 [] := ⟨⟨rfl, Nat.le_refl _, by decide, by simp, fun h => absurd h (by omega)⟩, fun _ => ⟨rfl, rfl⟩, by omega, by simp⟩
            have d9 := hide (CH.out _ _ _ _ _ none 0 0 [] (HM6.out.below BY) r9 n9)
            have HT7 := hide (HT6.out.below BY)
            have HM7 := hide (HM6.out.below BY)
            have HB7 := hide (HB6.out.trans (BY.mono HB6.out.size))
            obtain ⟨u0, u1, u2, u3⟩ := HT7.out
            clear BY r9 n9 HT6 HM6 HB6 CH
            go_wp2_with fail
            clear t0 t1 t2 t3 u0 u1 u2 u3
            refine d9.out.mono ?_
            rintro e w9 ⟨rfl, B9⟩
            have HT8 := hide (HT7.out.below B9)
            have HM8 := hide (HM7.out.below B9)
            have HB8 := hide (HB7.out.trans (B9.mono HB7.out.size))
            clear d9 B9 HT7 HM7 HB7
            generalize chkV [(k, tx b)] [] gk g = CZ at *
            obtain ⟨Z1, Z2⟩ := CZ
            simp only [] at HZ1
            obtain ⟨t0, t1, t2, t3⟩ := HT8.out
            go_wp2_with fail
            refine (GO.out _ HM8.out).mono ?_
            rintro e w10 ⟨rfl, B10⟩
            have HT9 := hide (HT8.out.below B10)
            have HM9 := hide (HM8.out.below B10)
            have HB9 := hide (HB8.out.trans (B10.mono HB8.out.size))
            clear B10 HT8 HM8 HB8 t0 t1 t2 t3 GO
            obtain ⟨t0, t1, t2, t3⟩ := HT9.out
            cases GM with
            | false =>
              have qz : (Z2 == 0) = false := by
                have h := HZ1.out
                simp at h
                simpa using h
              clear HZ1 AO
              have d12 := hide (TH.out w10 HM9.out)
              go_wp2_with fail
              refine d12.out.mono ?_
              rintro e w12 ⟨rfl, K12⟩
              go_wp2
              go_ret
              exact ⟨rfl, HB9.out.trans (K12.1.mono HB9.out.size)⟩
            | true =>
              by_cases hkg : k = gk
              · have qk : (k != gk) = false := by simpa using hkg
                have HZ2 : Hid (Z2 = 0 ↔ AL = true) := by
                  have h := HZ1.out
                  unfold Hid
                  rw [h]
                  simp [hkg]
                clear HZ1 hkg
                go_wp2_with fail
                refine (AO.out _ HM9.out).mono ?_
                rintro e w11 ⟨rfl, B11⟩
                have HMa := hide (HM9.out.below B11)
                have HBa := hide (HB9.out.trans (B11.mono HB9.out.size))
                clear B11 HM9 HB9 HT9 t0 t1 t2 t3
                have qz : (Z2 == 0) = AL := by
                  rw [Bool.eq_iff_iff, beq_iff_eq]
                  exact HZ2.out
                have qq : (AL == AL) = true := by simp
                clear HZ2
                have d12 := hide (TH.out w11 HMa.out)
                go_wp2_with fail
                refine d12.out.mono ?_
                rintro e w12 ⟨rfl, K12⟩
                go_wp2
                go_ret
                exact ⟨rfl, HBa.out.trans (K12.1.mono HBa.out.size)⟩
              · have qk : (k != gk) = true := by simpa using hkg
                have qz : (Z2 == 0) = true := by
                  have h := HZ1.out
                  simp [hkg] at h
                  simpa using h
                clear HZ1 hkg AO
                have d12 := hide (TH.out w10 HM9.out)
                go_wp2_with fail
                refine d12.out.mono ?_
                rintro e w12 ⟨rfl, K12⟩
                go_wp2
                go_ret
                exact ⟨rfl, HB9.out.trans (K12.1.mono HB9.out.size)⟩
    · have qF : (F2 == 0) = false := by simpa using hF
      clear HO1 hF
      obtain ⟨w6, hw6⟩ : ∃ w6, w6 = W5 := ⟨_, rfl⟩
      have B6 : Below W5.heap.size W5 w6 := by rw [hw6]; exact Below.refl _ _
      rw [← hw6]
      clear hw6
      have HT3 := hide (HT2.out.below B6)
      have HP3 := hide (HP2.out.below B6)
      have HE3 := hide (HE2.out.below B6)
      have HM3 := hide (HM2.out.below B6)
      have HB3 := hide (HB2.out.trans (B6.mono HB2.out.size))
      have hlP := HP3.out.ats.hl
      clear B6 HT2 HP2 HE2 HM2 HB2 t0 t1 t2 t3 SO
      go_wp2
      go_loopw [15, 16] (fun u i wr => ∃ q : Nat, u = .bool ((ps.take q).any (fun x => decide (x.1 = k))) ∧ i = .int .i64 q ∧ q ≤ n1 ∧ Below w6.heap.size w6 wr) (fun _ i _ => n1 - (intOf i).toNat)
      case atStart => exact ⟨0, by simp, rfl, Nat.zero_le _, Below.refl _ _⟩
      case round =>
        obtain ⟨q, rfl, rfl, hq, hB⟩ := hrel
        by_cases hlt : q < n1
        · have ltI : (q : Int) < (n1 : Int) := by omega
          have hBd := hide hB.drew
          obtain ⟨b', off, rfl, hcl⟩ := (HP3.out.below hBd.out).ats.hrd (by omega)
          obtain ⟨e0, _⟩ := hcl q hlt
          have hnx : Hid ((ps.take (q + 1)).any (fun x => decide (x.1 = k)) = ((ps.take q).any (fun x => decide (x.1 = k)) || decide ((ps.getD q (0, ByteArray.empty)).1 = k))) := by
            unfold Hid
            rw [List.take_succ_eq_append_getElem (by omega : q < ps.length), List.any_append]
            simp [List.getD, List.getElem?_eq_getElem (by omega : q < ps.length)]
          generalize (ps.getD q (0, ByteArray.empty)).1 = t at e0 hnx
          generalize (ps.take q).any (fun x => decide (x.1 = k)) = A0 at *
          have hS0 : wr.drew.cell? ⟨b', off + q * 2, none⟩ = some (.int .i64 t) ∧ wr.drew.cell? ⟨w.heap.size, 0, none⟩ = some (.int .i64 k) := ⟨e0, (HT3.out.below hBd.out).s0⟩
          have hqk : (t == k) = decide (t = k) := by by_cases h : t = k <;> simp [h]
          generalize decide (t = k) = D at *
          clear hcl e0
          cases A0 with
          | true =>
            go_wp2
            refine wp_region_held_drew (S := fun W => W.cell? ⟨b', off + q * 2, none⟩ = some (.int .i64 t) ∧ W.cell? ⟨w.heap.size, 0, none⟩ = some (.int .i64 k)) (by kernel_rfl) hS0 (fun hS => ?_)
            clear hS0
            generalize wr.drew = X0 at *
            refine wpAnyH_take (i := 0) (v := ?_) rfl (by kernel_rfl) (by kernel_rfl) (by kernel_rfl) (fun _ _ _ h => h) (Or.inl ⟨by rfl, ?_⟩) (by assumption) ?_
            rotate_left
            · intro wq hSq
              obtain ⟨r0, r1⟩ := hSq
              go_simp
              try with_reducible rfl
            simp only [List.getElem_toArray, List.getElem_cons_zero, Act.put, List.setIfInBounds_toArray, List.set_cons_zero, List.set_cons_succ]
            refine wpAnyH_take (i := 1) (v := ?_) rfl (by kernel_rfl) (by kernel_rfl) (by kernel_rfl) (fun _ _ _ h => h) (Or.inl ⟨by rfl, ?_⟩) (by assumption) ?_
            rotate_left
            · intro wq hSq
              obtain ⟨r0, r1⟩ := hSq
              go_simp
              try with_reducible rfl
            simp only [List.getElem_toArray, List.getElem_cons_succ, List.getElem_cons_zero, Act.put, List.setIfInBounds_toArray, List.set_cons_zero, List.set_cons_succ]
            refine wpAnyH_take (i := 2) (v := undef) rfl (by kernel_rfl) (by kernel_rfl) (by kernel_rfl) (fun _ _ _ h => h) (Or.inr ⟨by rfl, rfl⟩) (by assumption) ?_
            simp only [List.getElem_toArray, List.getElem_cons_succ, List.getElem_cons_zero, Act.put, List.setIfInBounds_toArray, List.set_cons_zero, List.set_cons_succ]
            refine wpAnyH_take (i := 3) (v := undef) rfl (by kernel_rfl) (by kernel_rfl) (by kernel_rfl) (fun _ _ _ h => h) (Or.inr ⟨by rfl, rfl⟩) (by assumption) ?_
            simp only [List.getElem_toArray, List.getElem_cons_succ, List.getElem_cons_zero, Act.put, List.setIfInBounds_toArray, List.set_cons_zero, List.set_cons_succ]
            refine wpAnyH_take (i := 4) (v := undef) rfl (by kernel_rfl) (by kernel_rfl) (by kernel_rfl) (fun _ _ _ h => h) (Or.inr ⟨by rfl, rfl⟩) (by assumption) ?_
            simp only [List.getElem_toArray, List.getElem_cons_succ, List.getElem_cons_zero, Act.put, List.setIfInBounds_toArray, List.set_cons_zero, List.set_cons_succ]
            refine wpAnyH_take (i := 5) (v := undef) rfl (by kernel_rfl) (by kernel_rfl) (by kernel_rfl) (fun _ _ _ h => h) (Or.inr ⟨by rfl, rfl⟩) (by assumption) ?_
            simp only [List.getElem_toArray, List.getElem_cons_succ, List.getElem_cons_zero, Act.put, List.setIfInBounds_toArray, List.set_cons_zero, List.set_cons_succ]
            refine wpAnyH_take (i := 6) (v := undef) rfl (by kernel_rfl) (by kernel_rfl) (by kernel_rfl) (fun _ _ _ h => h) (Or.inr ⟨by rfl, rfl⟩) (by assumption) ?_
            simp only [List.getElem_toArray, List.getElem_cons_succ, List.getElem_cons_zero, Act.put, List.setIfInBounds_toArray, List.set_cons_zero, List.set_cons_succ]
            refine wpAnyH_take (i := 7) (v := undef) rfl (by kernel_rfl) (by kernel_rfl) (by kernel_rfl) (fun _ _ _ h => h) (Or.inr ⟨by rfl, rfl⟩) (by assumption) ?_
            simp only [List.getElem_toArray, List.getElem_cons_succ, List.getElem_cons_zero, Act.put, List.setIfInBounds_toArray, List.set_cons_zero, List.set_cons_succ]
            refine wpAnyH_take (i := 8) (v := undef) rfl (by kernel_rfl) (by kernel_rfl) (by kernel_rfl) (fun _ _ _ h => h) (Or.inr ⟨by rfl, rfl⟩) (by assumption) ?_
            simp only [List.getElem_toArray, List.getElem_cons_succ, List.getElem_cons_zero, Act.put, List.setIfInBounds_toArray, List.set_cons_zero, List.set_cons_succ]
            refine wpAnyH_take (i := 9) (v := undef) rfl (by kernel_rfl) (by kernel_rfl) (by kernel_rfl) (fun _ _ _ h => h) (Or.inr ⟨by rfl, rfl⟩) (by assumption) ?_
            simp only [List.getElem_toArray, List.getElem_cons_succ, List.getElem_cons_zero, Act.put, List.setIfInBounds_toArray, List.set_cons_zero, List.set_cons_succ]
            refine wpAnyH_take (i := 10) (v := ?_) rfl (by kernel_rfl) (by kernel_rfl) (by kernel_rfl) (fun _ _ _ h => h) (Or.inl ⟨by rfl, ?_⟩) (by assumption) ?_
            rotate_left
            · intro wq hSq
              obtain ⟨r0, r1⟩ := hSq
              go_simp
              try with_reducible rfl
            simp only [List.getElem_toArray, List.getElem_cons_succ, List.getElem_cons_zero, Act.put, List.setIfInBounds_toArray, List.set_cons_zero, List.set_cons_succ]
            refine wpAnyH_take (i := 11) (v := ?_) rfl (by kernel_rfl) (by kernel_rfl) (by kernel_rfl) (fun _ _ _ h => h) (Or.inl ⟨by rfl, ?_⟩) (by assumption) ?_
            rotate_left
            · intro wq hSq
              obtain ⟨r0, r1⟩ := hSq
              go_simp
              try with_reducible rfl
            simp only [List.getElem_toArray, List.getElem_cons_succ, List.getElem_cons_zero, Act.put, List.setIfInBounds_toArray, List.set_cons_zero, List.set_cons_succ]
            refine wpAnyH_done (by kernel_rfl) ?_ _
            clear hS
            go_wp2
            go_roundw
            case rel => exact ⟨q + 1, by rw [hnx.out]; rfl, by go_num, by omega, hBd.out⟩
            case measure => simp [intOf]; omega
          | false =>
            go_wp2
            refine wp_region_held_drew (S := fun W => W.cell? ⟨b', off + q * 2, none⟩ = some (.int .i64 t) ∧ W.cell? ⟨w.heap.size, 0, none⟩ = some (.int .i64 k)) (by kernel_rfl) hS0 (fun hS => ?_)
            clear hS0
            generalize wr.drew = X0 at *
            refine wpAnyH_take (i := 0) (v := ?_) rfl (by kernel_rfl) (by kernel_rfl) (by kernel_rfl) (fun _ _ _ h => h) (Or.inl ⟨by rfl, ?_⟩) (by assumption) ?_
            rotate_left
            · intro wq hSq
              obtain ⟨r0, r1⟩ := hSq
              go_simp
              try with_reducible rfl
            simp only [List.getElem_toArray, List.getElem_cons_zero, Act.put, List.setIfInBounds_toArray, List.set_cons_zero, List.set_cons_succ]
            refine wpAnyH_take (i := 1) (v := ?_) rfl (by kernel_rfl) (by kernel_rfl) (by kernel_rfl) (fun _ _ _ h => h) (Or.inl ⟨by rfl, ?_⟩) (by assumption) ?_
            rotate_left
            · intro wq hSq
              obtain ⟨r0, r1⟩ := hSq
              go_simp
              try with_reducible rfl
            simp only [List.getElem_toArray, List.getElem_cons_succ, List.getElem_cons_zero, Act.put, List.setIfInBounds_toArray, List.set_cons_zero, List.set_cons_succ]
            refine wpAnyH_take (i := 2) (v := ?_) rfl (by kernel_rfl) (by kernel_rfl) (by kernel_rfl) (fun _ _ _ h => h) (Or.inl ⟨by rfl, ?_⟩) (by assumption) ?_
            rotate_left
            · intro wq hSq
              obtain ⟨r0, r1⟩ := hSq
              go_simp
              try with_reducible rfl
            simp only [List.getElem_toArray, List.getElem_cons_succ, List.getElem_cons_zero, Act.put, List.setIfInBounds_toArray, List.set_cons_zero, List.set_cons_succ]
            refine wpAnyH_take (i := 3) (v := ?_) rfl (by kernel_rfl) (by kernel_rfl) (by kernel_rfl) (fun _ _ _ h => h) (Or.inl ⟨by rfl, ?_⟩) (by assumption) ?_
            rotate_left
            · intro wq hSq
              obtain ⟨r0, r1⟩ := hSq
              go_simp
              try with_reducible rfl
            simp only [List.getElem_toArray, List.getElem_cons_succ, List.getElem_cons_zero, Act.put, List.setIfInBounds_toArray, List.set_cons_zero, List.set_cons_succ]
            refine wpAnyH_take (i := 4) (v := ?_) rfl (by kernel_rfl) (by kernel_rfl) (by kernel_rfl) (fun _ _ _ h => h) (Or.inl ⟨by rfl, ?_⟩) (by assumption) ?_
            rotate_left
            · intro wq hSq
              obtain ⟨r0, r1⟩ := hSq
              go_simp
              try with_reducible rfl
            simp only [List.getElem_toArray, List.getElem_cons_succ, List.getElem_cons_zero, Act.put, List.setIfInBounds_toArray, List.set_cons_zero, List.set_cons_succ]
            refine wpAnyH_take (i := 5) (v := ?_) rfl (by kernel_rfl) (by kernel_rfl) (by kernel_rfl) (fun _ _ _ h => h) (Or.inl ⟨by rfl, ?_⟩) (by assumption) ?_
            rotate_left
            · intro wq hSq
              obtain ⟨r0, r1⟩ := hSq
              go_simp
              try with_reducible rfl
            simp only [List.getElem_toArray, List.getElem_cons_succ, List.getElem_cons_zero, Act.put, List.setIfInBounds_toArray, List.set_cons_zero, List.set_cons_succ]
            refine wpAnyH_take (i := 6) (v := ?_) rfl (by kernel_rfl) (by kernel_rfl) (by kernel_rfl) (fun _ _ _ h => h) (Or.inl ⟨by rfl, ?_⟩) (by assumption) ?_
            rotate_left
            · intro wq hSq
              obtain ⟨r0, r1⟩ := hSq
              go_simp
              try with_reducible rfl
            simp only [List.getElem_toArray, List.getElem_cons_succ, List.getElem_cons_zero, Act.put, List.setIfInBounds_toArray, List.set_cons_zero, List.set_cons_succ]
            refine wpAnyH_take (i := 7) (v := ?_) rfl (by kernel_rfl) (by kernel_rfl) (by kernel_rfl) (fun _ _ _ h => h) (Or.inl ⟨by rfl, ?_⟩) (by assumption) ?_
            rotate_left
            · intro wq hSq
              obtain ⟨r0, r1⟩ := hSq
              go_simp
              try with_reducible rfl
            simp only [List.getElem_toArray, List.getElem_cons_succ, List.getElem_cons_zero, Act.put, List.setIfInBounds_toArray, List.set_cons_zero, List.set_cons_succ]
            refine wpAnyH_take (i := 8) (v := ?_) rfl (by kernel_rfl) (by kernel_rfl) (by kernel_rfl) (fun _ _ _ h => h) (Or.inl ⟨by rfl, ?_⟩) (by assumption) ?_
            rotate_left
            · intro wq hSq
              obtain ⟨r0, r1⟩ := hSq
              go_simp
              try with_reducible rfl
            simp only [List.getElem_toArray, List.getElem_cons_succ, List.getElem_cons_zero, Act.put, List.setIfInBounds_toArray, List.set_cons_zero, List.set_cons_succ]
            refine wpAnyH_take (i := 9) (v := ?_) rfl (by kernel_rfl) (by kernel_rfl) (by kernel_rfl) (fun _ _ _ h => h) (Or.inl ⟨by rfl, ?_⟩) (by assumption) ?_
            rotate_left
            · intro wq hSq
              obtain ⟨r0, r1⟩ := hSq
              go_simp
              try with_reducible rfl
            simp only [List.getElem_toArray, List.getElem_cons_succ, List.getElem_cons_zero, Act.put, List.setIfInBounds_toArray, List.set_cons_zero, List.set_cons_succ]
            refine wpAnyH_take (i := 10) (v := ?_) rfl (by kernel_rfl) (by kernel_rfl) (by kernel_rfl) (fun _ _ _ h => h) (Or.inl ⟨by rfl, ?_⟩) (by assumption) ?_
            rotate_left
            · intro wq hSq
              obtain ⟨r0, r1⟩ := hSq
              go_simp
              try with_reducible rfl
            simp only [List.getElem_toArray, List.getElem_cons_succ, List.getElem_cons_zero, Act.put, List.setIfInBounds_toArray, List.set_cons_zero, List.set_cons_succ]
            refine wpAnyH_take (i := 11) (v := ?_) rfl (by kernel_rfl) (by kernel_rfl) (by kernel_rfl) (fun _ _ _ h => h) (Or.inl ⟨by rfl, ?_⟩) (by assumption) ?_
            rotate_left
            · intro wq hSq
              obtain ⟨r0, r1⟩ := hSq
              go_simp
              try with_reducible rfl
            simp only [List.getElem_toArray, List.getElem_cons_succ, List.getElem_cons_zero, Act.put, List.setIfInBounds_toArray, List.set_cons_zero, List.set_cons_succ]
            refine wpAnyH_done (by kernel_rfl) ?_ _
            clear hS
            go_wp2
            go_roundw
            case rel => exact ⟨q + 1, by rw [hnx.out]; first | rfl | (rw [hqk]; rfl), by go_num, by omega, hBd.out⟩
            case measure => simp [intOf]; omega
        · obtain rfl : q = n1 := by omega
          have nI : ¬ ((q : Int) < (q : Int)) := by omega
          have HAS : Hid ((ps.take q).any (fun x => decide (x.1 = k)) = true → ∃ x ∈ ps, x.1 = k) := fun h => by
            rw [List.take_of_length_le (by omega)] at h
            obtain ⟨x, hx, he⟩ := List.any_eq_true.1 h
            exact ⟨x, hx, of_decide_eq_true he⟩
          generalize (ps.take q).any (fun x => decide (x.1 = k)) = AS at *
          obtain ⟨wz, rfl⟩ : ∃ wz : World, wz = wr := ⟨_, rfl⟩
          have Bz := hB.drew
          have HT := hide (HT3.out.below Bz)
          have HPU := hide (HP3.out.below Bz)
          have HEU := hide (HE3.out.below Bz)
          have HMU := hide (HM3.out.below Bz)
          have HBU := hide (HB3.out.trans (Bz.mono HB3.out.size))
          clear Bz hB HT3 HP3 HE3 HM3 HB3
          go_wp2_with fail
          refine wp_region_held_drew (S := fun W => Below wz.drew.heap.size wz.drew W) (by kernel_rfl) (Below.refl _ _) (fun hS => ?_)
          clear hS
          generalize wz.drew = U at *
          have hS : Below U.heap.size U U := Below.refl _ _
          refine wpAnyH_take (i := 1) (v := ?_) rfl (by kernel_rfl) (by kernel_rfl) (by kernel_rfl) (fun _ _ _ h => h) (Or.inl ⟨by rfl, ?_⟩) (by assumption) ?_
          rotate_left
          · intro wq hSq
            obtain ⟨r0, r1, r2, r3⟩ := HT.out.below hSq
            go_simp
            try with_reducible rfl
          simp only [List.getElem_toArray, List.getElem_cons_succ, List.getElem_cons_zero, Act.put, List.setIfInBounds_toArray, List.set_cons_zero, List.set_cons_succ]
          refine wpAnyH_take (i := 3) (v := ?_) rfl (by kernel_rfl) (by kernel_rfl) (by kernel_rfl) (fun _ _ _ h => h) (Or.inl ⟨by rfl, ?_⟩) (by assumption) ?_
          rotate_left
          · intro wq hSq
            obtain ⟨r0, r1, r2, r3⟩ := HT.out.below hSq
            go_simp
            try with_reducible rfl
          simp only [List.getElem_toArray, List.getElem_cons_succ, List.getElem_cons_zero, Act.put, List.setIfInBounds_toArray, List.set_cons_zero, List.set_cons_succ]
          refine wpAnyH_take (i := 6) (v := ?_) rfl (by kernel_rfl) (by kernel_rfl) (by kernel_rfl) (fun _ _ _ h => h) (Or.inl ⟨by rfl, ?_⟩) (by assumption) ?_
          rotate_left
          · intro wq hSq
            obtain ⟨r0, r1, r2, r3⟩ := HT.out.below hSq
            go_simp
            try with_reducible rfl
          simp only [List.getElem_toArray, List.getElem_cons_succ, List.getElem_cons_zero, Act.put, List.setIfInBounds_toArray, List.set_cons_zero, List.set_cons_succ]
          refine wpAnyH_take (i := 7) (v := ?_) rfl (by kernel_rfl) (by kernel_rfl) (by kernel_rfl) (fun _ _ _ h => h) (Or.inl ⟨by rfl, ?_⟩) (by assumption) ?_
          rotate_left
          · intro wq hSq
            obtain ⟨r0, r1, r2, r3⟩ := HT.out.below hSq
            go_simp
            try with_reducible rfl
          simp only [List.getElem_toArray, List.getElem_cons_succ, List.getElem_cons_zero, Act.put, List.setIfInBounds_toArray, List.set_cons_zero, List.set_cons_succ]
          -- 0: the empty row; 2: the copy; 4: the one subtree; 5: append of it; HPU: the row's fact; ps: the row; q: how long
          have hB0 := Below.refl U.heap.size U
          have hn := (HPU).out.hn
          have hz2 : ∀ x ∈ ps ++ [(k, tx b)], x.2.size ≤ 1048576 := fun x hx => by
            rcases List.mem_append.1 hx with h | h
            · exact (HPU).out.hz x h
            · simp at h; subst h; exact hbs
          refine' mk_rest4 (K := AppK U q (ps ++ [(k, tx b)])) (fun REST => ?_) ?_
          rotate_left
          · skip
            -- the two operations that are ready: 0, 4
            refine wpAnyH_ready (rs := [0, 4]) (by kernel_rfl) (by simp) ?_
            refine AllReadyH.cons rfl (fun Kq hKq => ?_) (AllReadyH.cons rfl (fun Kq hKq => ?_) AllReadyH.nil)
            · have bW1 := hB0.alloc hB0.size (.cells #[] 36)
              have o1 := OwnT.lit U U.heap.size (Nat.le_refl _)
              -- it makes memory; behind it bW1 stands
              go_simp
              refine hKq.out _ _ (bW1) (fun hHeld => ?_)
              clear hKq Kq hHeld
              generalize hW1 : (U.alloc (.cells #[] 36)) = W1 at *
              have hs1 : W1.heap.size = U.heap.size + 1 := by rw [← hW1]; simp
              clear hW1
              -- the two operations that are ready: 2, 4
              refine wpAnyH_ready (rs := [2, 4]) (by kernel_rfl) (by simp) ?_
              refine AllReadyH.cons rfl (fun Kq hKq => ?_) (AllReadyH.cons rfl (fun Kq hKq => ?_) AllReadyH.nil)
              · obtain ⟨a2, c2', W2, hrun, o2, hg⟩ := run_appT W1 22 U.heap.size _ [] o1 _ _ _ _ ((HPU).out.below bW1).ats (HPU).out.nil q (by simp) (by omega) bW1.size
                rw [appOfH_of] at hrun
                have bW2 := bW1.grown hg bW1.size o1.far
                rw [List.nil_append] at o2
                clear hg
                -- it makes memory; behind it bW2 stands
                go_simp
                refine hKq.out _ _ (bW2) (fun hHeld => ?_)
                clear hKq Kq hHeld
                clear hrun
                have bW3 := bW2.alloc bW2.size (.cells #[.int .i64 k, .string (tx b)] 36)
                have s3 := OwnT.one W2 k (tx b) hbs
                have o3 := o2.below (nbelow W2 (.cells #[.int .i64 k, .string (tx b)] 36))
                -- the one operation that is ready: 4
                refine wpAnyH_ready (rs := [4]) (by kernel_rfl) (by simp) ?_
                refine AllReadyH.cons rfl (fun Kq hKq => ?_) AllReadyH.nil
                -- it makes memory; behind it bW3 stands
                go_simp
                refine hKq.out _ _ (bW3) (fun hHeld => ?_)
                clear hKq Kq hHeld
                generalize W2.heap.size = g2 at *
                generalize (W2.alloc (.cells #[.int .i64 k, .string (tx b)] 36)) = W3 at *
                obtain ⟨a4, c4, W4, hrun, o4, hg⟩ := run_appT W3 22 U.heap.size _ _ o3 _ _ _ _ s3 (fun h => by cases h) (q + 1) (by rw [o3.len2]) (by omega) bW3.size
                rw [appOfH_of] at hrun
                have bW4 := bW3.grown hg bW3.size o3.far
                -- the one operation that is ready: 5
                refine wpAnyH_ready (rs := [5]) (by kernel_rfl) (by simp) ?_
                refine AllReadyH.cons rfl (fun Kq hKq => ?_) AllReadyH.nil
                -- it makes memory; behind it bW4 stands
                go_simp
                refine hKq.out _ _ (bW4) (fun hHeld => ?_)
                clear hKq Kq hHeld
                have hrow := o4.rowInM hz2 (by omega)
                clear hrun hg o1 o2 o3 o4 s3 bW1 bW2 bW3
                obtain ⟨x5, hx5⟩ : ∃ x5, Value.slice a4 (q + 1) c4 = x5 := ⟨_, rfl⟩
                rw [hx5]
                generalize (Value.slice (some ⟨U.heap.size, 0, none⟩) 0 0) = x0
                generalize (Value.slice a2 q c2') = x2
                generalize (Value.slice (some ⟨g2, 0, none⟩) 1 1) = x4
                exact REST.out W4 x0 x2 x4 x5 ⟨bW4, a4, c4, hx5.symm, hrow⟩
              · have bW2 := bW1.alloc bW1.size (.cells #[.int .i64 k, .string (tx b)] 36)
                have s2 := OwnT.one W1 k (tx b) hbs
                have o2 := o1.below (nbelow W1 (.cells #[.int .i64 k, .string (tx b)] 36))
                -- it makes memory; behind it bW2 stands
                go_simp
                refine hKq.out _ _ (bW2) (fun hHeld => ?_)
                clear hKq Kq hHeld
                rw [hs1] at s2
                have hne : (Value.slice (some ⟨U.heap.size, 0, none⟩) 0 0).ownBlock ≠ some (U.heap.size + 1) := by simp [Value.ownBlock]
                generalize (W1.alloc (.cells #[.int .i64 k, .string (tx b)] 36)) = W2 at *
                obtain ⟨a2, c2', W3, hrun, o3, hg⟩ := run_appT W2 22 U.heap.size _ [] o2 _ _ _ _ ((HPU).out.below bW2).ats (HPU).out.nil q (by simp) (by omega) bW2.size
                rw [appOfH_of] at hrun
                have bW3 := bW2.grown hg bW2.size o2.far
                rw [List.nil_append] at o3
                have s3 := s2.grownT hg hne
                clear hg
                -- the one operation that is ready: 2
                refine wpAnyH_ready (rs := [2]) (by kernel_rfl) (by simp) ?_
                refine AllReadyH.cons rfl (fun Kq hKq => ?_) AllReadyH.nil
                -- it makes memory; behind it bW3 stands
                go_simp
                refine hKq.out _ _ (bW3) (fun hHeld => ?_)
                clear hKq Kq hHeld
                clear hrun
                obtain ⟨a4, c4, W4, hrun, o4, hg⟩ := run_appT W3 22 U.heap.size _ _ o3 _ _ _ _ s3 (fun h => by cases h) (q + 1) (by rw [o3.len2]) (by omega) bW3.size
                rw [appOfH_of] at hrun
                have bW4 := bW3.grown hg bW3.size o3.far
                -- the one operation that is ready: 5
                refine wpAnyH_ready (rs := [5]) (by kernel_rfl) (by simp) ?_
                refine AllReadyH.cons rfl (fun Kq hKq => ?_) AllReadyH.nil
                -- it makes memory; behind it bW4 stands
                go_simp
                refine hKq.out _ _ (bW4) (fun hHeld => ?_)
                clear hKq Kq hHeld
                exact REST.out W4 _ _ _ _ ⟨bW4, a4, c4, rfl, o4.rowInM hz2 (by omega)⟩
            · have bW1 := hB0.alloc hB0.size (.cells #[.int .i64 k, .string (tx b)] 36)
              have s1 := OwnT.one U k (tx b) hbs
              -- it makes memory; behind it bW1 stands
              go_simp
              refine hKq.out _ _ (bW1) (fun hHeld => ?_)
              clear hKq Kq hHeld
              generalize hW1 : (U.alloc (.cells #[.int .i64 k, .string (tx b)] 36)) = W1 at *
              have hs1 : W1.heap.size = U.heap.size + 1 := by rw [← hW1]; simp
              clear hW1
              have bW2 := bW1.alloc bW1.size (.cells #[] 36)
              have s2 := s1.below (nbelow W1 (.cells #[] 36))
              have o2 := OwnT.lit W1 U.heap.size bW1.size
              -- the one operation that is ready: 0
              refine wpAnyH_ready (rs := [0]) (by kernel_rfl) (by simp) ?_
              refine AllReadyH.cons rfl (fun Kq hKq => ?_) AllReadyH.nil
              -- it makes memory; behind it bW2 stands
              go_simp
              refine hKq.out _ _ (bW2) (fun hHeld => ?_)
              clear hKq Kq hHeld
              rw [hs1] at o2
              have hne : (Value.slice (some ⟨U.heap.size + 1, 0, none⟩) 0 0).ownBlock ≠ some U.heap.size := by simp [Value.ownBlock]
              generalize (W1.alloc (.cells #[] 36)) = W2 at *
              obtain ⟨a2, c2', W3, hrun, o3, hg⟩ := run_appT W2 22 U.heap.size _ [] o2 _ _ _ _ ((HPU).out.below bW2).ats (HPU).out.nil q (by simp) (by omega) bW2.size
              rw [appOfH_of] at hrun
              have bW3 := bW2.grown hg bW2.size o2.far
              rw [List.nil_append] at o3
              have s3 := s2.grownT hg hne
              clear hg
              -- the one operation that is ready: 2
              refine wpAnyH_ready (rs := [2]) (by kernel_rfl) (by simp) ?_
              refine AllReadyH.cons rfl (fun Kq hKq => ?_) AllReadyH.nil
              -- it makes memory; behind it bW3 stands
              go_simp
              refine hKq.out _ _ (bW3) (fun hHeld => ?_)
              clear hKq Kq hHeld
              clear hrun
              obtain ⟨a4, c4, W4, hrun, o4, hg⟩ := run_appT W3 22 U.heap.size _ _ o3 _ _ _ _ s3 (fun h => by cases h) (q + 1) (by rw [o3.len2]) (by omega) bW3.size
              rw [appOfH_of] at hrun
              have bW4 := bW3.grown hg bW3.size o3.far
              -- the one operation that is ready: 5
              refine wpAnyH_ready (rs := [5]) (by kernel_rfl) (by simp) ?_
              refine AllReadyH.cons rfl (fun Kq hKq => ?_) AllReadyH.nil
              -- it makes memory; behind it bW4 stands
              go_simp
              refine hKq.out _ _ (bW4) (fun hHeld => ?_)
              clear hKq Kq hHeld
              exact REST.out W4 _ _ _ _ ⟨bW4, a4, c4, rfl, o4.rowInM hz2 (by omega)⟩
          intro W x0 x2 x4 x5 hK
          obtain ⟨bW, a5, c5, rfl, hrow⟩ := hK
          have d5 := hide (CH.out W a5 (q + 1) c5 _ a2 n2 c2 es (HMU.out.below bW) hrow (HEU.out.below bW))
          generalize (chkV (ps ++ [(k, tx b)]) es gk g) = C at *
          obtain ⟨H1, H2⟩ := C
          simp only [] at HI1 d5
          -- the one operation that is ready: 8
          refine wpAnyH_ready (rs := [8]) (by kernel_rfl) (by simp) ?_
          refine AllReadyH.cons rfl (fun Kq hKq => ?_) AllReadyH.nil
          go_simp
          refine d5.out.mono ?_
          rintro e W5 ⟨rfl, B5⟩
          have bW5 := bW.trans (B5.mono bW.size)
          refine hKq.out _ _ bW5 (fun _ => ?_)
          clear hKq Kq d5 B5 bW hrow
          refine wpAnyH_take (i := 9) (v := ?_) rfl (by kernel_rfl) (by kernel_rfl) (by kernel_rfl) (fun _ _ _ h => h) (Or.inl ⟨by rfl, ?_⟩) (by assumption) ?_
          rotate_left
          · intro wq hSq
            obtain ⟨r0, r1, r2, r3⟩ := HT.out.below hSq
            go_simp
            try with_reducible rfl
          simp only [List.getElem_toArray, List.getElem_cons_succ, List.getElem_cons_zero, Act.put, List.setIfInBounds_toArray, List.set_cons_zero, List.set_cons_succ]
          refine wpAnyH_take (i := 10) (v := ?_) rfl (by kernel_rfl) (by kernel_rfl) (by kernel_rfl) (fun _ _ _ h => h) (Or.inl ⟨by rfl, ?_⟩) (by assumption) ?_
          rotate_left
          · intro wq hSq
            obtain ⟨r0, r1, r2, r3⟩ := HT.out.below hSq
            go_simp
            try with_reducible rfl
          simp only [List.getElem_toArray, List.getElem_cons_succ, List.getElem_cons_zero, Act.put, List.setIfInBounds_toArray, List.set_cons_zero, List.set_cons_succ]
          refine wpAnyH_take (i := 11) (v := ?_) rfl (by kernel_rfl) (by kernel_rfl) (by kernel_rfl) (fun _ _ _ h => h) (Or.inl ⟨by rfl, ?_⟩) (by assumption) ?_
          rotate_left
          · intro wq hSq
            obtain ⟨r0, r1, r2, r3⟩ := HT.out.below hSq
            go_simp
            try with_reducible rfl
          simp only [List.getElem_toArray, List.getElem_cons_succ, List.getElem_cons_zero, Act.put, List.setIfInBounds_toArray, List.set_cons_zero, List.set_cons_succ]
          refine wpAnyH_take (i := 12) (v := ?_) rfl (by kernel_rfl) (by kernel_rfl) (by kernel_rfl) (fun _ _ _ h => h) (Or.inl ⟨by rfl, ?_⟩) (by assumption) ?_
          rotate_left
          · intro wq hSq
            obtain ⟨r0, r1, r2, r3⟩ := HT.out.below hSq
            go_simp
            try with_reducible rfl
          simp only [List.getElem_toArray, List.getElem_cons_succ, List.getElem_cons_zero, Act.put, List.setIfInBounds_toArray, List.set_cons_zero, List.set_cons_succ]
          refine wpAnyH_take (i := 13) (v := ?_) rfl (by kernel_rfl) (by kernel_rfl) (by kernel_rfl) (fun _ _ _ h => h) (Or.inl ⟨by rfl, ?_⟩) (by assumption) ?_
          rotate_left
          · intro wq hSq
            obtain ⟨r0, r1, r2, r3⟩ := HT.out.below hSq
            go_simp
            try with_reducible rfl
          simp only [List.getElem_toArray, List.getElem_cons_succ, List.getElem_cons_zero, Act.put, List.setIfInBounds_toArray, List.set_cons_zero, List.set_cons_succ]
          refine wpAnyH_done (by kernel_rfl) ?_ _
          -- what is asked last: $1: is the subtree alone enough?
          have HT6 := hide (HT.out.below bW5)
          have HM6 := hide (HMU.out.below bW5)
          have HB6 := hide (HBU.out.trans (bW5.mono HBU.out.size))
          clear bW5 HT HPU HEU HMU HBU hS hn hz2
          obtain ⟨t0, t1, t2, t3⟩ := HT6.out
          by_cases hE : E2 = 0
          · have qE : (E2 == 0) = true := by simpa using hE
            cases hAS : AS with
            | true =>
              have hH := HI1.out hE (HAS.out hAS)
              subst hH
              clear HI1 HAS hE hAS
              have BY := nbelow W5 (.cells #[.int .i64 k, .string (tx b)] 36)
              have r9 : RowIn (W5.alloc (.cells #[.int .i64 k, .string (tx b)] 36)) (some ⟨W5.heap.size, 0, none⟩) 1 1 [(k, tx b)] := ⟨OwnT.one W5 k (tx b) hbs, (fun h => by cases h), by omega, fun x hx => by simp at hx; subst hx; exact hbs⟩
              have n9 : RowIn (W5.alloc (.cells #[.int .i64 k, .string (tx b)] 36)) none 0 0 [] := ⟨⟨rfl, Nat.le_refl _, by decide, by simp, fun h => absurd h (by omega)⟩, fun _ => ⟨rfl, rfl⟩, by omega, by simp⟩
              have d9 := hide (CH.out _ _ _ _ _ none 0 0 [] (HM6.out.below BY) r9 n9)
              have HT7 := hide (HT6.out.below BY)
              have HM7 := hide (HM6.out.below BY)
              have HB7 := hide (HB6.out.trans (BY.mono HB6.out.size))
              obtain ⟨u0, u1, u2, u3⟩ := HT7.out
              clear BY r9 n9 HT6 HM6 HB6 CH
              go_wp2_with fail
              clear t0 t1 t2 t3 u0 u1 u2 u3
              refine d9.out.mono ?_
              rintro e w9 ⟨rfl, B9⟩
              have HT8 := hide (HT7.out.below B9)
              have HM8 := hide (HM7.out.below B9)
              have HB8 := hide (HB7.out.trans (B9.mono HB7.out.size))
              clear d9 B9 HT7 HM7 HB7
              generalize chkV [(k, tx b)] [] gk g = CZ at *
              obtain ⟨Z1, Z2⟩ := CZ
              simp only [] at HZ1
              obtain ⟨t0, t1, t2, t3⟩ := HT8.out
              go_wp2_with fail
              refine (GO.out _ HM8.out).mono ?_
              rintro e w10 ⟨rfl, B10⟩
              have HT9 := hide (HT8.out.below B10)
              have HM9 := hide (HM8.out.below B10)
              have HB9 := hide (HB8.out.trans (B10.mono HB8.out.size))
              clear B10 HT8 HM8 HB8 t0 t1 t2 t3 GO
              obtain ⟨t0, t1, t2, t3⟩ := HT9.out
              cases GM with
              | false =>
                have qz : (Z2 == 0) = false := by
                  have h := HZ1.out
                  simp at h
                  simpa using h
                clear HZ1 AO
                have d12 := hide (TH.out w10 HM9.out)
                go_wp2_with fail
                refine d12.out.mono ?_
                rintro e w12 ⟨rfl, K12⟩
                go_wp2
                go_ret
                exact ⟨rfl, HB9.out.trans (K12.1.mono HB9.out.size)⟩
              | true =>
                by_cases hkg : k = gk
                · have qk : (k != gk) = false := by simpa using hkg
                  have HZ2 : Hid (Z2 = 0 ↔ AL = true) := by
                    have h := HZ1.out
                    unfold Hid
                    rw [h]
                    simp [hkg]
                  clear HZ1 hkg
                  go_wp2_with fail
                  refine (AO.out _ HM9.out).mono ?_
                  rintro e w11 ⟨rfl, B11⟩
                  have HMa := hide (HM9.out.below B11)
                  have HBa := hide (HB9.out.trans (B11.mono HB9.out.size))
                  clear B11 HM9 HB9 HT9 t0 t1 t2 t3
                  have qz : (Z2 == 0) = AL := by
                    rw [Bool.eq_iff_iff, beq_iff_eq]
                    exact HZ2.out
                  have qq : (AL == AL) = true := by simp
                  clear HZ2
                  have d12 := hide (TH.out w11 HMa.out)
                  go_wp2_with fail
                  refine d12.out.mono ?_
                  rintro e w12 ⟨rfl, K12⟩
                  go_wp2
                  go_ret
                  exact ⟨rfl, HBa.out.trans (K12.1.mono HBa.out.size)⟩
                · have qk : (k != gk) = true := by simpa using hkg
                  have qz : (Z2 == 0) = true := by
                    have h := HZ1.out
                    simp [hkg] at h
                    simpa using h
                  clear HZ1 hkg AO
                  have d12 := hide (TH.out w10 HM9.out)
                  go_wp2_with fail
                  refine d12.out.mono ?_
                  rintro e w12 ⟨rfl, K12⟩
                  go_wp2
                  go_ret
                  exact ⟨rfl, HB9.out.trans (K12.1.mono HB9.out.size)⟩
            | false =>
              clear HI1 HAS hE hAS
              have BY := nbelow W5 (.cells #[.int .i64 k, .string (tx b)] 36)
              have r9 : RowIn (W5.alloc (.cells #[.int .i64 k, .string (tx b)] 36)) (some ⟨W5.heap.size, 0, none⟩) 1 1 [(k, tx b)] := ⟨OwnT.one W5 k (tx b) hbs, (fun h => by cases h), by omega, fun x hx => by simp at hx; subst hx; exact hbs⟩
              have n9 : RowIn (W5.alloc (.cells #[.int .i64 k, .string (tx b)] 36)) none 0 0 [] := ⟨⟨rfl, Nat.le_refl _, by decide, by simp, fun h => absurd h (by omega)⟩, fun _ => ⟨rfl, rfl⟩, by omega, by simp⟩
              have d9 := hide (CH.out _ _ _ _ _ none 0 0 [] (HM6.out.below BY) r9 n9)
              have HT7 := hide (HT6.out.below BY)
              have HM7 := hide (HM6.out.below BY)
              have HB7 := hide (HB6.out.trans (BY.mono HB6.out.size))
              obtain ⟨u0, u1, u2, u3⟩ := HT7.out
              clear BY r9 n9 HT6 HM6 HB6 CH
              go_wp2_with fail
              clear t0 t1 t2 t3 u0 u1 u2 u3
              refine d9.out.mono ?_
              rintro e w9 ⟨rfl, B9⟩
              have HT8 := hide (HT7.out.below B9)
              have HM8 := hide (HM7.out.below B9)
              have HB8 := hide (HB7.out.trans (B9.mono HB7.out.size))
              clear d9 B9 HT7 HM7 HB7
              generalize chkV [(k, tx b)] [] gk g = CZ at *
              obtain ⟨Z1, Z2⟩ := CZ
              simp only [] at HZ1
              obtain ⟨t0, t1, t2, t3⟩ := HT8.out
              go_wp2_with fail
              refine (GO.out _ HM8.out).mono ?_
              rintro e w10 ⟨rfl, B10⟩
              have HT9 := hide (HT8.out.below B10)
              have HM9 := hide (HM8.out.below B10)
              have HB9 := hide (HB8.out.trans (B10.mono HB8.out.size))
              clear B10 HT8 HM8 HB8 t0 t1 t2 t3 GO
              obtain ⟨t0, t1, t2, t3⟩ := HT9.out
              cases GM with
              | false =>
                have qz : (Z2 == 0) = false := by
                  have h := HZ1.out
                  simp at h
                  simpa using h
                clear HZ1 AO
                have d12 := hide (TH.out w10 HM9.out)
                go_wp2_with fail
                refine d12.out.mono ?_
                rintro e w12 ⟨rfl, K12⟩
                go_wp2
                go_ret
                exact ⟨rfl, HB9.out.trans (K12.1.mono HB9.out.size)⟩
              | true =>
                by_cases hkg : k = gk
                · have qk : (k != gk) = false := by simpa using hkg
                  have HZ2 : Hid (Z2 = 0 ↔ AL = true) := by
                    have h := HZ1.out
                    unfold Hid
                    rw [h]
                    simp [hkg]
                  clear HZ1 hkg
                  go_wp2_with fail
                  refine (AO.out _ HM9.out).mono ?_
                  rintro e w11 ⟨rfl, B11⟩
                  have HMa := hide (HM9.out.below B11)
                  have HBa := hide (HB9.out.trans (B11.mono HB9.out.size))
                  clear B11 HM9 HB9 HT9 t0 t1 t2 t3
                  have qz : (Z2 == 0) = AL := by
                    rw [Bool.eq_iff_iff, beq_iff_eq]
                    exact HZ2.out
                  have qq : (AL == AL) = true := by simp
                  clear HZ2
                  have d12 := hide (TH.out w11 HMa.out)
                  go_wp2_with fail
                  refine d12.out.mono ?_
                  rintro e w12 ⟨rfl, K12⟩
                  go_wp2
                  go_ret
                  exact ⟨rfl, HBa.out.trans (K12.1.mono HBa.out.size)⟩
                · have qk : (k != gk) = true := by simpa using hkg
                  have qz : (Z2 == 0) = true := by
                    have h := HZ1.out
                    simp [hkg] at h
                    simpa using h
                  clear HZ1 hkg AO
                  have d12 := hide (TH.out w10 HM9.out)
                  go_wp2_with fail
                  refine d12.out.mono ?_
                  rintro e w12 ⟨rfl, K12⟩
                  go_wp2
                  go_ret
                  exact ⟨rfl, HB9.out.trans (K12.1.mono HB9.out.size)⟩
          · have qE : (E2 == 0) = false := by simpa using hE
            clear HI1 HAS hE
            have BY := nbelow W5 (.cells #[.int .i64 k, .string (tx b)] 36)
            have r9 : RowIn (W5.alloc (.cells #[.int .i64 k, .string (tx b)] 36)) (some ⟨W5.heap.size, 0, none⟩) 1 1 [(k, tx b)] := ⟨OwnT.one W5 k (tx b) hbs, (fun h => by cases h), by omega, fun x hx => by simp at hx; subst hx; exact hbs⟩
            have n9 : RowIn (W5.alloc (.cells #[.int .i64 k, .string (tx b)] 36)) none 0 0 [] := ⟨⟨rfl, Nat.le_refl _, by decide, by simp, fun h => absurd h (by omega)⟩, fun _ => ⟨rfl, rfl⟩, by omega, by simp⟩
            have d9 := hide (CH.out _ _ _ _ _ none 0 0 [] (HM6.out.below BY) r9 n9)
            have HT7 := hide (HT6.out.below BY)
            have HM7 := hide (HM6.out.below BY)
            have HB7 := hide (HB6.out.trans (BY.mono HB6.out.size))
            obtain ⟨u0, u1, u2, u3⟩ := HT7.out
            clear BY r9 n9 HT6 HM6 HB6 CH
            go_wp2_with fail
            clear t0 t1 t2 t3 u0 u1 u2 u3
            refine d9.out.mono ?_
            rintro e w9 ⟨rfl, B9⟩
            have HT8 := hide (HT7.out.below B9)
            have HM8 := hide (HM7.out.below B9)
            have HB8 := hide (HB7.out.trans (B9.mono HB7.out.size))
            clear d9 B9 HT7 HM7 HB7
            generalize chkV [(k, tx b)] [] gk g = CZ at *
            obtain ⟨Z1, Z2⟩ := CZ
            simp only [] at HZ1
            obtain ⟨t0, t1, t2, t3⟩ := HT8.out
            go_wp2_with fail
            refine (GO.out _ HM8.out).mono ?_
            rintro e w10 ⟨rfl, B10⟩
            have HT9 := hide (HT8.out.below B10)
            have HM9 := hide (HM8.out.below B10)
            have HB9 := hide (HB8.out.trans (B10.mono HB8.out.size))
            clear B10 HT8 HM8 HB8 t0 t1 t2 t3 GO
            obtain ⟨t0, t1, t2, t3⟩ := HT9.out
            cases GM with
            | false =>
              have qz : (Z2 == 0) = false := by
                have h := HZ1.out
                simp at h
                simpa using h
              clear HZ1 AO
              have d12 := hide (TH.out w10 HM9.out)
              go_wp2_with fail
              refine d12.out.mono ?_
              rintro e w12 ⟨rfl, K12⟩
              go_wp2
              go_ret
              exact ⟨rfl, HB9.out.trans (K12.1.mono HB9.out.size)⟩
            | true =>
              by_cases hkg : k = gk
              · have qk : (k != gk) = false := by simpa using hkg
                have HZ2 : Hid (Z2 = 0 ↔ AL = true) := by
                  have h := HZ1.out
                  unfold Hid
                  rw [h]
                  simp [hkg]
                clear HZ1 hkg
                go_wp2_with fail
                refine (AO.out _ HM9.out).mono ?_
                rintro e w11 ⟨rfl, B11⟩
                have HMa := hide (HM9.out.below B11)
                have HBa := hide (HB9.out.trans (B11.mono HB9.out.size))
                clear B11 HM9 HB9 HT9 t0 t1 t2 t3
                have qz : (Z2 == 0) = AL := by
                  rw [Bool.eq_iff_iff, beq_iff_eq]
                  exact HZ2.out
                have qq : (AL == AL) = true := by simp
                clear HZ2
                have d12 := hide (TH.out w11 HMa.out)
                go_wp2_with fail
                refine d12.out.mono ?_
                rintro e w12 ⟨rfl, K12⟩
                go_wp2
                go_ret
                exact ⟨rfl, HBa.out.trans (K12.1.mono HBa.out.size)⟩
              · have qk : (k != gk) = true := by simpa using hkg
                have qz : (Z2 == 0) = true := by
                  have h := HZ1.out
                  simp [hkg] at h
                  simpa using h
                clear HZ1 hkg AO
                have d12 := hide (TH.out w10 HM9.out)
                go_wp2_with fail
                refine d12.out.mono ?_
                rintro e w12 ⟨rfl, K12⟩
                go_wp2
                go_ret
                exact ⟨rfl, HB9.out.trans (K12.1.mono HB9.out.size)⟩

end Go.Proofs.YtklchpdpooikdaaGreatDoor
