/-
  The statement SlipRows: its walk.
-/
import Derived.Test.YtogemhoempkjoaaDoorSlRowB
import Derived.Test.YtogemhoempkjoaaDoorSlTakes
namespace Go.Proofs.YtogemhoempkjoaaDoor
open Go.RowKit Go.Shelf Go.IntWalk
attribute [local go_sem] Oper.semAt_some

theorem placesF_len (xs : List Int) : ∀ f p, (placesF xs f p).length ≤ f
  | 0, _ => Nat.le_refl _
  | f + 1, p => by
    unfold placesF
    split
    · have := placesF_len xs f (p + (findS (xs.drop p)).1.toNat)
      simp only [List.length_cons]
      omega
    · simp

theorem seq2_none (w : World) (f : Nat) (c : Array Value) : (binOp .eql 52 (.func (.func f) #[] c) .nilFunc).run Tryd.prog w = .ok (.bool false) w := by
  have h : ∀ d : Nat, (Op.equalIn (d + 1) 52 (.func (.func f) #[] c) .nilFunc).run Tryd.prog w = .ok false w := fun d => by
    simp [Op.equalIn, run_underlying Tryd.underlying52]
  simp only [binOp]
  simp [Op.equal, Op.maxDepth, h 9999]

theorem each_none (X : World) (B : Nat) : (binOp .eql 52 (.func (.func 33) #[] #[.pointer (some ⟨B, 0, none⟩)]) .nilFunc).run Tryd.prog X = .ok (.bool false) X := seq2_none X _ _

set_option maxRecDepth 100000 in
set_option maxHeartbeats 8000000 in
theorem rows_in (ao : Option Addr) (n cap : Nat) (xs : List Int) (lv : Int) (w : World) (hT : Tab w) (hs : Src w ao n cap xs) (hn : n ≤ 1048576) :
    CallsIn Fence.wide 8 Tryd.prog 6 #[.slice ao n cap, .int .i64 lv] w fun e w' => e = .returned (.bool true) ∧ Below w.heap.size w w' := by
  refine callsIn_of_wp_marks Tryd.func6 rfl trivial ?_ rfl
  simp only [Tryd.ntmps6, List.size_toArray, List.length_cons, List.length_nil, Nat.reduceAdd, Nat.reduceSub, Array.replicate_succ, Array.replicate_zero, List.push_toArray, List.append_toArray, List.nil_append, List.cons_append]
  refine wpIn_wide.2 ?_
  have h70 : sizeI 0 = 7 := by decide
  have HTw := hide hT
  have HT0 := hide hT.lt
  have bLv : Boxed ((w.alloc (.cells #[.int .i64 lv] 3)).alloc (.cells #[.bool false] 4)) w.heap.size 3 (.int .i64 lv) := (Boxed.new w 3 (.int .i64 lv)).alloc _
  have bRs : Boxed ((w.alloc (.cells #[.int .i64 lv] 3)).alloc (.cells #[.bool false] 4)) (w.heap.size + 1) 4 (.bool false) := by
    have h := Boxed.new (w.alloc (.cells #[.int .i64 lv] 3)) 4 (.bool false)
    rwa [World.size_alloc] at h
  have B0 : Below w.heap.size w ((w.alloc (.cells #[.int .i64 lv] 3)).alloc (.cells #[.bool false] 4)) := ((Below.refl _ w).alloc (Nat.le_refl _) _).alloc (by simp) _
  have z0 : ((w.alloc (.cells #[.int .i64 lv] 3)).alloc (.cells #[.bool false] 4)).heap.size = w.heap.size + 2 := by simp
  go_wp2_with fail
  generalize (w.alloc (.cells #[.int .i64 lv] 3)).alloc (.cells #[.bool false] 4) = W0 at bLv bRs B0 z0 ⊢
  have LN := hide hs.hlen
  have BY := hide hs.hbyt
  refine (lent_any ao n cap xs W0 (hs.below B0) (by omega)).mono ?_
  rintro e w1 ⟨g, c, rfl, hc1, hm1, hg1, hl1, HI, B1⟩
  have L1 := B0.trans (B1.mono B0.size)
  go_wp2_with fail
  refine (refRow_any ao n cap xs w1 (hs.below L1) (by omega)).mono ?_
  rintro e w3 ⟨a1, a2, c1, c2, K, cs, bad, rfl, hK, RS, hbad, hne, B3⟩
  have L3 := L1.trans (B3.mono L1.size)
  have HK := hide hK
  have hbad2 : bad = endE xs := by
    rw [hbad]; unfold rowErr endE
    have hle := end_le xs hs.hbyt
    by_cases he : endS xs (placesS xs 0) = xs.length
    · rw [if_neg (by omega), if_pos he]
    · rw [if_pos (by omega), if_neg he]
  subst hbad2
  have hKn : K ≤ n := by rw [HK.out, ← LN.out]; unfold placesS; have := placesF_len xs (xs.length - 0) 0; omega
  clear hne hbad hK
  have kI : (K : Int) ≤ 1048576 := by omega
  go_wp2_with fail
  have B35 : Below w3.heap.size w3 ((w3.alloc (.cells #[.slice a1 K c1] 45)).alloc (.cells #[.slice a2 K c2] 46)) := ((Below.refl _ _).alloc (Nat.le_refl _) _).alloc (by simp) _
  have bW : Boxed ((w3.alloc (.cells #[.slice a1 K c1] 45)).alloc (.cells #[.slice a2 K c2] 46)) w3.heap.size 45 (.slice a1 K c1) := (Boxed.new w3 _ _).alloc _
  have bP : Boxed ((w3.alloc (.cells #[.slice a1 K c1] 45)).alloc (.cells #[.slice a2 K c2] 46)) (w3.heap.size + 1) 46 (.slice a2 K c2) := by
    have h := Boxed.new (w3.alloc (.cells #[.slice a1 K c1] 45)) 46 (.slice a2 K c2)
    rwa [World.size_alloc] at h
  have z5 : ((w3.alloc (.cells #[.slice a1 K c1] 45)).alloc (.cells #[.slice a2 K c2] 46)).heap.size = w3.heap.size + 2 := by simp
  generalize (w3.alloc (.cells #[.slice a1 K c1] 45)).alloc (.cells #[.slice a2 K c2] 46) = W5 at B35 bW bP z5 ⊢
  have B15 : Below w1.heap.size w1 W5 := B3.trans (B35.mono B3.size)
  have HI5 := row_below HI B15
  have sI5 := lent_src HI5 BY.out LN.out
  have L5 : Below w.heap.size w W5 := L1.trans (B15.mono L1.size)
  refine (callsIn_wide.1 (end_in _ n c xs W5 (HTw.out.below L5 HT0.out) sI5 (by omega))).mono ?_
  rintro e W6 ⟨rfl, B6⟩
  have z6' := B6.size
  have L6 : Below w.heap.size w W6 := L5.trans (B6.mono L5.size)
  have B16 : Below w1.heap.size w1 W6 := B15.trans (B6.mono B15.size)
  have B06 : Below W0.heap.size W0 W6 := B1.trans (B16.mono B1.size)
  have bL6 : Boxed W6 w.heap.size 3 (.int .i64 lv) := (B06.block _ bLv.lt).trans bLv
  have bR6 : Boxed W6 (w.heap.size + 1) 4 (.bool false) := (B06.block _ bRs.lt).trans bRs
  have bW6 : Boxed W6 w3.heap.size 45 (.slice a1 K c1) := (B6.block _ bW.lt).trans bW
  have bP6 : Boxed W6 (w3.heap.size + 1) 46 (.slice a2 K c2) := (B6.block _ bP.lt).trans bP
  have RS6 := (RS.below B35).below B6
  have HI6 : OwnB W6 W0.heap.size (.slice (some ⟨g, 0, none⟩) (n + 1) c) (xs ++ [90]) := row_below HI5 B6
  have sI6 := lent_src HI6 BY.out LN.out
  have Z6 : Hid (w3.heap.size + 2 ≤ W6.heap.size ∧ g < w3.heap.size ∧ g < w3.heap.size) := ⟨by omega, by have := B3.size; omega, by have := B3.size; omega⟩
  have Z12 : Hid (w1.heap.size ≤ w3.heap.size ∧ W0.heap.size ≤ w1.heap.size ∧ w.heap.size ≤ W0.heap.size ∧ g < w1.heap.size ∧ W0.heap.size ≤ g) := ⟨B3.size, B1.size, B0.size, hl1, hg1⟩
  have qn := fun (X : World) (B : Nat) => each_none X B
  have EC := hide (each_any _ n c xs W6 sI6 (by omega))
  have HSo := hide (hs.below L6)
  generalize ((endS xs (placesS xs 0) : Nat) : Int) = EN at *
  generalize endE xs = EE at *
  have k4 : (EN != EN) = false := by simp
  have k5 : (EE != EE) = false := by simp
  clear B35 B15 B16 B06 bLv bRs bW bP RS HI HI5 B0 B1 B3 B6 L1 L3 L5 z0 z5 hl1 hg1 sI5 sI6 z6'
  go_wp2_with (first | (go_at_call 23; refine EC.out.mono ?_; rintro e w7 ⟨aK, cK, B, rfl, HKp, hB, bB, B7⟩) | (go_at_call 14; refine (kept_any g n c ao cap xs _ W0.heap.size (HSo.out.below B7) (by omega) (by omega) hm1 (row_below HI6 B7)).mono ?_; rintro e w8 ⟨rfl, q8, rfl⟩))
  have B7d : Below W6.heap.size W6 (w7.drewN q8) := ((Drawn.refl _).more _).below B7
  have HKpd : OwnB (w7.drewN q8) W6.heap.size (.slice aK n cK) xs := HKp.heap rfl
  have bBd : Boxed (w7.drewN q8) B 22 (.slice aK n cK) := bB
  clear B7 HKp bB
  generalize w7.drewN q8 = w7 at *
  have B7 := B7d
  have HKp := HKpd
  have bB := bBd
  clear B7d HKpd bBd
  have HT7 := hide (HTw.out.below (L6.trans (B7.mono L6.size)) HT0.out)
  have HI7 := hide (row_below HI6 B7)
  have nI : (n : Int) ≤ 1048576 := by omega
  go_loopw [13] (fun i wr => ∃ (k : Nat) (zs : List Int), k ≤ n ∧ i = .int .i64 k ∧ Hid (OwnB wr W0.heap.size (.slice (some ⟨g, 0, none⟩) (n + 1) c) zs) ∧ w7.grownBy wr (some g)) (fun i _ => n - (intOf i).toNat)
  case atStart => exact ⟨0, _, Nat.zero_le _, rfl, HI7, World.grownBy.refl _ _⟩
  case round =>
    obtain ⟨k, zs, hk, rfl, HZ, hg⟩ := hrel
    by_cases hkn : k < n
    · have hkI : (k : Int) < (n : Int) := by omega
      have hcell := HZ.out.cell k (by rw [← HZ.out.eqlen]; omega)
      have hfr := HZ.out.frozen k
      have HST := hide (fun u => HZ.out.stored k u)
      generalize zs.getD k 0 = z at hcell
      go_wp2
      go_roundw
      case rel => exact ⟨k + 1, _, by omega, by go_num, (HST.out _).1, grown_trans hg (HST.out _).2⟩
      case measure => simp [intOf] <;> omega
    · have hkI : ¬ (k : Int) < (n : Int) := by omega
      have hg0 := hg
      have G8 : GB (fun q => q = g) w7 wr := (GB.refl _ _).step hg (fun _ h => h) (fun q hq => by cases hq; rfl)
      have hT8 : ∀ q, q = g → ∃ cu, w7.heap[q]? = some (.cells cu 5 (0, 0)) := fun q hq => by subst hq; exact row_type HI7.out q rfl
      have z6 := Z6.out
      have z7 := B7.size
      have bL8 := hide (G8.box hT8 ((B7.block _ bL6.lt).trans bL6) (by decide))
      have bR8 := hide (G8.box hT8 ((B7.block _ bR6.lt).trans bR6) (by decide))
      have bW8 := hide (G8.box hT8 ((B7.block _ bW6.lt).trans bW6) (by decide))
      have bP8 := hide (G8.box hT8 ((B7.block _ bP6.lt).trans bP6) (by decide))
      have RS8 := hide (G8.rowSt hT8 (RS6.below B7) (fun q h => by subst h; have := Z12.out; omega))
      have bB8 := hide (G8.box hT8 bB (by decide))
      have sK8 : Hid (Src wr aK n cK xs) := (G8.rowNe HKp (fun q hq h => by have := (OwnB.lt HKp q hq).1; omega) |> fun h => OwnB.toSrc h BY.out)
      have L7 := L6.trans (B7.mono L6.size)
      have z12 := Z12.out
      have L8 := hide (L7.trans (G8.toBelow (N := w.heap.size) (by omega) (fun q h => by omega)))
      clear G8 hT8 HZ hg HI7 HKp bB B7 RS6 bL6 bR6 bW6 bP6 HI6 L6 L7 EC
      have TA : Hid (Tab wr) := (HT7.out.kept hg0 (some_ge (by have := HT0.out; omega)))
      clear hg0
      have i9 : RA wr 0 (wr.alloc (.cells #[.int .i64 0] 3)) := ⟨(Below.refl _ _).alloc (Nat.le_refl _) _, Boxed.new wr _ _⟩
      have nlx : Hid (xs.length ≤ 1048576) := by unfold Hid; rw [LN.out]; exact hn
      go_wp2_with fail
      rename_i Kc hKc
      generalize wr.alloc (.cells #[.int .i64 0] 3) = W9 at i9 ⊢
      generalize hA : Act.mk _ _ = A
      have HKC : ∀ (k : Int) D W2, RA wr k W2 → W2.heap[D]? = some (.deferred (some [])) → wr.heap.size < D → Kc { A with defers := { target := .collected D, args := #[] } :: A.defers } W2 := by
        intro k D W2 hra hd hD
        subst hA
        refine hKc _ _ ?_
        have cN := hra.nb.cell
        have fN := hra.nb.frozen
        have i7 := hra.setN 0
        have hd7 : (W2.setCell ⟨wr.heap.size, 0, none⟩ (.int .i64 0)).heap[D]? = some (.deferred (some [])) := by rw [Below.heap_setCell _ _ _ _ (by simp; omega)]; exact hd
        have I7 := hide (And.intro i7 hd7)
        clear i7 hd7 hd hra i9 hKc
        go_wp2_with fail
        obtain ⟨i7, hd7⟩ := I7.out
        clear I7 cN fN
        generalize W2.setCell ⟨wr.heap.size, 0, none⟩ (.int .i64 0) = V6 at i7 hd7 ⊢
        refine each_enter rfl ?_
        intro fn hfn
        generalize hrec : recOf fn _ _ _ _ _ = r
        have i8 := RL.enter (Ds := [D]) i7 (by intro x hx; simp at hx; subst hx; exact ⟨hd7, hD⟩) (r .ready none)
        have z8 : ((V6.alloc (.deferred (some []))).alloc (.loop (r .ready none))).heap.size = V6.heap.size + 1 + 1 := by simp
        have hDlt : D < V6.heap.size := (Array.getElem?_eq_some_iff.1 hd7).1
        generalize (V6.alloc (.deferred (some []))).alloc (.loop (r .ready none)) = V8 at i8 z8 ⊢
        refine (each1_in (V6.heap.size + 1) B aK n cK xs (by omega) (fun pre A => RL wr (V6.heap.size + 1) [V6.heap.size, D] (r .ready none) (pre.length : Int) A) (fun _ _ => False) wr V8 TA.out sK8.out i8.ra.bel bB8.out ?_ ?_ ?_ i8).mono ?_
        · intro pre A C h hb
          rw [z8] at hb
          exact h.kept hb
        · intro pre A C h
          exact h.elim
        · rintro pre x W1 v hJ hbel hsz ho hlen hpfx
          rw [z8] at ho ⊢
          have hl := hJ.loop
          have KOF : Hid (∀ W', GB (RS wr (V6.heap.size + 1) v) W1 W' → KO wr (V6.heap.size + 1 + 1) v W1 W') := fun W' hW => KO.of hW hJ.ra.nb hl hJ.ol ho
          rw [← hrec] at hl
          obtain ⟨av, mv, cv, hv⟩ : ∃ av mv cv, v = .slice av mv cv := by
            rcases ho.split with ⟨h, _⟩ | ⟨gq, cq, h, _⟩
            · exact ⟨_, _, _, h⟩
            · exact ⟨_, _, _, h⟩
          subst hv
          have hz1 : V6.heap.size + 1 < W1.heap.size := (Array.getElem?_eq_some_iff.1 hJ.loop).1
          obtain ⟨t, ht⟩ : ∃ t, slipK (xs.drop x.1) = t := ⟨_, rfl⟩
          rw [ht]
          have hl1 : (W1.alloc (.cells #[.int .i64 t, .slice av mv cv] 32)).heap[V6.heap.size + 1]? = some (.loop (recOf fn _ _ _ _ _ .ready none)) := (Below.heap_alloc _ _ _ (by omega)).trans hl
          refine range_roundA (a₁ := ?B2Q) hfn hl rfl hl1 ?_ ?_
          rotate_left
          · intro KK hKK
            gi_wp2
            exact hKK
          · rw [hrec]
            have GA : GB (RS wr (V6.heap.size + 1) (.slice av mv cv)) W1 (W1.alloc (.cells #[.int .i64 t, .slice av mv cv] 32)) := (GB.refl _ _).belowA ((Below.refl _ _).alloc (Nat.le_refl _) _)
            have hJ1 := hJ.kept (C := W1.alloc (.cells #[.int .i64 t, .slice av mv cv] 32)) ((Below.refl _ _).alloc (by omega) _)
            have HI := hide (hJ1.put (r .busy none))
            have GG := hide (GA.put (o := .loop (r .busy none)))
            have oX := hide (((GB.refl (fun q => q = V6.heap.size + 1) W1).belowA ((Below.refl _ _).alloc (Nat.le_refl _) (.cells #[.int .i64 t, .slice av mv cv] 32))).step (grownBy_putObj' _ (V6.heap.size + 1) (.loop (r .busy none))) (fun _ h => h) (fun q hq => by cases hq; rfl) |>.rowNe ho (fun q hq hs => by have := (OwnB.lt ho q hq).1; omega))
            have xb : ((W1.alloc (.cells #[.int .i64 t, .slice av mv cv] 32)).putObj (V6.heap.size + 1) (.loop (r .busy none))).heap[W1.heap.size]? = some (.cells #[.int .i64 t, .slice av mv cv] 32) := (World.putObj_heap_other (by omega)).trans (World.alloc_heap_new _ _)
            have hxb : Hid (∀ y ∈ slipD (xs.drop x.1), 0 ≤ y ∧ y < 256) := slipD_bd _ (fun y hy => BY.out y (List.mem_of_mem_drop hy))
            have hxl : Hid ((slipD (xs.drop x.1)).length ≤ 1048576) := by have := slipD_len (xs.drop x.1) (fun y hy => BY.out y (List.mem_of_mem_drop hy)); unfold Hid; omega
            have HXT : Hid (∀ q, (Value.slice av mv cv).ownBlock = some q → q < W1.heap.size) := fun q hq => (OwnB.lt ho q hq).2
            clear GA hJ1 hl1 hl hJ hbel hsz ho hlen i8 hrec
            generalize (W1.alloc (.cells #[.int .i64 t, .slice av mv cv] 32)).putObj (V6.heap.size + 1) (.loop (r .busy none)) = W11 at HI GG oX xb ⊢
            obtain ⟨s0, s1⟩ := boxed2 xb
            have xlt : W1.heap.size < W11.heap.size := (Array.getElem?_eq_some_iff.1 xb).1
            have s2 := ((HI.out.ra.bel.block _ bW8.out.lt).trans bW8.out |> fun h : Boxed W11 _ _ _ => h.cell)
            have s3 := ((HI.out.ra.bel.block _ bP8.out.lt).trans bP8.out |> fun h : Boxed W11 _ _ _ => h.cell)
            obtain ⟨hmK, gW, gP, ao2, m2, c3, q1, q2, s4, s5, s6, s7⟩ := row_at (RS8.out.below HI.out.ra.bel) HK.out (pre_at hpfx)
            have s8 := HI.out.ra.nb.cell
            rw [ht] at s4
            have HT := hide ht
            have OW := hide s6
            have PL : Hid ((((pre ++ [x]).length : Nat) : Int) = (pre.length : Int) + 1) := by unfold Hid; simp
            subst q1 q2
            clear xb ht s6 hpfx hz1
            obtain ⟨zs, hzs⟩ : ∃ zs, slipD (xs.drop x.1) = zs := ⟨_, rfl⟩
            rw [hzs] at oX OW hxb hxl
            clear hzs HT
            generalize pre.length = m at *
            generalize (x.1 : Int) = px at *
            have mI : (m : Int) < (K : Int) := by omega
            have mG : ¬ (K : Int) ≤ (m : Int) := by omega
            have pxx : (px != px) = false := by simp
            have wP : IntKind.i64.wrap ((m : Int) + 1) = (m : Int) + 1 := i64_in _ (by omega)
            have hSt : SAt wr.heap.size w3.heap.size gW gP W1.heap.size K c1 c2 m t px av mv cv ao2 m2 c3 W11.drew := ⟨s8, s2, s3, s7, s4, s5, s0, s1⟩
            clear s8 s2 s3 s7 s4 s5 s0 s1
            gi_wp2
            refine wpIn_region_heldR (SAt wr.heap.size w3.heap.size gW gP W1.heap.size K c1 c2 m t px av mv cv ao2 m2 c3) (fun ⟨_, _, h⟩ => h) (by kernel_rfl) (by kernel_rfl) ?_
            refine wpAnyH_take (i := 0) (v := ?_) rfl (by kernel_rfl) (by kernel_rfl) (by kernel_rfl) (fun _ _ _ h => h) (Or.inl ⟨by rfl, ?_⟩) (by assumption) ?_
            rotate_left
            · intro wq hSq
              obtain ⟨r0, r1, r2, r3, r4, r5, r6, r7⟩ := hSq
              go_simp
              try with_reducible rfl
            simp only [List.getElem_toArray, List.getElem_cons_zero, Act.put, List.setIfInBounds_toArray, List.set_cons_zero, List.set_cons_succ]
            refine wpAnyH_take (i := 1) (v := ?_) rfl (by kernel_rfl) (by kernel_rfl) (by kernel_rfl) (fun _ _ _ h => h) (Or.inl ⟨by rfl, ?_⟩) (by assumption) ?_
            rotate_left
            · intro wq hSq
              obtain ⟨r0, r1, r2, r3, r4, r5, r6, r7⟩ := hSq
              go_simp
              try with_reducible rfl
            simp only [List.getElem_toArray, List.getElem_cons_succ, List.getElem_cons_zero, Act.put, List.setIfInBounds_toArray, List.set_cons_zero, List.set_cons_succ]
            refine wpAnyH_take (i := 2) (v := ?_) rfl (by kernel_rfl) (by kernel_rfl) (by kernel_rfl) (fun _ _ _ h => h) (Or.inl ⟨by rfl, ?_⟩) (by assumption) ?_
            rotate_left
            · intro wq hSq
              obtain ⟨r0, r1, r2, r3, r4, r5, r6, r7⟩ := hSq
              go_simp
              try with_reducible rfl
            simp only [List.getElem_toArray, List.getElem_cons_succ, List.getElem_cons_zero, Act.put, List.setIfInBounds_toArray, List.set_cons_zero, List.set_cons_succ]
            refine wpAnyH_take (i := 3) (v := .bool false) rfl (by kernel_rfl) (by kernel_rfl) (by kernel_rfl) (fun _ _ _ h => h) (Or.inl ⟨by rfl, ?_⟩) (by assumption) ?_
            · intro wq hSq
              obtain ⟨r0, r1, r2, r3, r4, r5, r6, r7⟩ := hSq
              go_simp
            simp only [List.getElem_toArray, List.getElem_cons_succ, List.getElem_cons_zero, Act.put, List.setIfInBounds_toArray, List.set_cons_zero, List.set_cons_succ]
            refine wpAnyH_take (i := 4) (v := ?_) rfl (by kernel_rfl) (by kernel_rfl) (by kernel_rfl) (fun _ _ _ h => h) (Or.inl ⟨by rfl, ?_⟩) (by assumption) ?_
            rotate_left
            · intro wq hSq
              obtain ⟨r0, r1, r2, r3, r4, r5, r6, r7⟩ := hSq
              go_simp
              try with_reducible rfl
            simp only [List.getElem_toArray, List.getElem_cons_succ, List.getElem_cons_zero, Act.put, List.setIfInBounds_toArray, List.set_cons_zero, List.set_cons_succ]
            refine wpAnyH_take (i := 5) (v := ?_) rfl (by kernel_rfl) (by kernel_rfl) (by kernel_rfl) (fun _ _ _ h => h) (Or.inl ⟨by rfl, ?_⟩) (by assumption) ?_
            rotate_left
            · intro wq hSq
              obtain ⟨r0, r1, r2, r3, r4, r5, r6, r7⟩ := hSq
              go_simp
              try with_reducible rfl
            simp only [List.getElem_toArray, List.getElem_cons_succ, List.getElem_cons_zero, Act.put, List.setIfInBounds_toArray, List.set_cons_zero, List.set_cons_succ]
            refine wpAnyH_take (i := 6) (v := ?_) rfl (by kernel_rfl) (by kernel_rfl) (by kernel_rfl) (fun _ _ _ h => h) (Or.inl ⟨by rfl, ?_⟩) (by assumption) ?_
            rotate_left
            · intro wq hSq
              obtain ⟨r0, r1, r2, r3, r4, r5, r6, r7⟩ := hSq
              go_simp
              try with_reducible rfl
            simp only [List.getElem_toArray, List.getElem_cons_succ, List.getElem_cons_zero, Act.put, List.setIfInBounds_toArray, List.set_cons_zero, List.set_cons_succ]
            refine wpAnyH_take (i := 7) (v := ?_) rfl (by kernel_rfl) (by kernel_rfl) (by kernel_rfl) (fun _ _ _ h => h) (Or.inl ⟨by rfl, ?_⟩) (by assumption) ?_
            rotate_left
            · intro wq hSq
              obtain ⟨r0, r1, r2, r3, r4, r5, r6, r7⟩ := hSq
              go_simp
              try with_reducible rfl
            simp only [List.getElem_toArray, List.getElem_cons_succ, List.getElem_cons_zero, Act.put, List.setIfInBounds_toArray, List.set_cons_zero, List.set_cons_succ]
            refine wpAnyH_take (i := 8) (v := ?_) rfl (by kernel_rfl) (by kernel_rfl) (by kernel_rfl) (fun _ _ _ h => h) (Or.inl ⟨by rfl, ?_⟩) (by assumption) ?_
            rotate_left
            · intro wq hSq
              obtain ⟨r0, r1, r2, r3, r4, r5, r6, r7⟩ := hSq
              go_simp
              try with_reducible rfl
            simp only [List.getElem_toArray, List.getElem_cons_succ, List.getElem_cons_zero, Act.put, List.setIfInBounds_toArray, List.set_cons_zero, List.set_cons_succ]
            refine wpAnyH_take (i := 9) (v := ?_) rfl (by kernel_rfl) (by kernel_rfl) (by kernel_rfl) (fun _ _ _ h => h) (Or.inl ⟨by rfl, ?_⟩) (by assumption) ?_
            rotate_left
            · intro wq hSq
              obtain ⟨r0, r1, r2, r3, r4, r5, r6, r7⟩ := hSq
              go_simp
              try with_reducible rfl
            simp only [List.getElem_toArray, List.getElem_cons_succ, List.getElem_cons_zero, Act.put, List.setIfInBounds_toArray, List.set_cons_zero, List.set_cons_succ]
            refine wpAnyH_take (i := 10) (v := .bool false) rfl (by kernel_rfl) (by kernel_rfl) (by kernel_rfl) (fun _ _ _ h => h) (Or.inl ⟨by rfl, ?_⟩) (by assumption) ?_
            · intro wq hSq
              obtain ⟨r0, r1, r2, r3, r4, r5, r6, r7⟩ := hSq
              go_simp
            simp only [List.getElem_toArray, List.getElem_cons_succ, List.getElem_cons_zero, Act.put, List.setIfInBounds_toArray, List.set_cons_zero, List.set_cons_succ]
            refine wpAnyH_take (i := 11) (v := ?_) rfl (by kernel_rfl) (by kernel_rfl) (by kernel_rfl) (fun _ _ _ h => h) (Or.inl ⟨by rfl, ?_⟩) (by assumption) ?_
            rotate_left
            · intro wq hSq
              obtain ⟨r0, r1, r2, r3, r4, r5, r6, r7⟩ := hSq
              go_simp
              try with_reducible rfl
            simp only [List.getElem_toArray, List.getElem_cons_succ, List.getElem_cons_zero, Act.put, List.setIfInBounds_toArray, List.set_cons_zero, List.set_cons_succ]
            refine wpAnyH_take (i := 12) (v := ?_) rfl (by kernel_rfl) (by kernel_rfl) (by kernel_rfl) (fun _ _ _ h => h) (Or.inl ⟨by rfl, ?_⟩) (by assumption) ?_
            rotate_left
            · intro wq hSq
              obtain ⟨r0, r1, r2, r3, r4, r5, r6, r7⟩ := hSq
              go_simp
              try with_reducible rfl
            simp only [List.getElem_toArray, List.getElem_cons_succ, List.getElem_cons_zero, Act.put, List.setIfInBounds_toArray, List.set_cons_zero, List.set_cons_succ]
            refine wpAnyH_take (i := 13) (v := ?_) rfl (by kernel_rfl) (by kernel_rfl) (by kernel_rfl) (fun _ _ _ h => h) (Or.inl ⟨by rfl, ?_⟩) (by assumption) ?_
            rotate_left
            · intro wq hSq
              obtain ⟨r0, r1, r2, r3, r4, r5, r6, r7⟩ := hSq
              go_simp
              try with_reducible rfl
            simp only [List.getElem_toArray, List.getElem_cons_succ, List.getElem_cons_zero, Act.put, List.setIfInBounds_toArray, List.set_cons_zero, List.set_cons_succ]
            refine wpAnyH_take (i := 14) (v := ?_) rfl (by kernel_rfl) (by kernel_rfl) (by kernel_rfl) (fun _ _ _ h => h) (Or.inl ⟨by rfl, ?_⟩) (by assumption) ?_
            rotate_left
            · intro wq hSq
              obtain ⟨r0, r1, r2, r3, r4, r5, r6, r7⟩ := hSq
              go_simp
              try with_reducible rfl
            simp only [List.getElem_toArray, List.getElem_cons_succ, List.getElem_cons_zero, Act.put, List.setIfInBounds_toArray, List.set_cons_zero, List.set_cons_succ]
            refine wpAnyH_take (i := 15) (v := ?_) rfl (by kernel_rfl) (by kernel_rfl) (by kernel_rfl) (fun _ _ _ h => h) (Or.inl ⟨by rfl, ?_⟩) (by assumption) ?_
            rotate_left
            · intro wq hSq
              obtain ⟨r0, r1, r2, r3, r4, r5, r6, r7⟩ := hSq
              go_simp
              try with_reducible rfl
            simp only [List.getElem_toArray, List.getElem_cons_succ, List.getElem_cons_zero, Act.put, List.setIfInBounds_toArray, List.set_cons_zero, List.set_cons_succ]
            refine wpAnyH_take (i := 16) (v := ?_) rfl (by kernel_rfl) (by kernel_rfl) (by kernel_rfl) (fun _ _ _ h => h) (Or.inl ⟨by rfl, ?_⟩) (by assumption) ?_
            rotate_left
            · intro wq hSq
              obtain ⟨r0, r1, r2, r3, r4, r5, r6, r7⟩ := hSq
              go_simp
              try with_reducible rfl
            simp only [List.getElem_toArray, List.getElem_cons_succ, List.getElem_cons_zero, Act.put, List.setIfInBounds_toArray, List.set_cons_zero, List.set_cons_succ]
            refine wpAnyH_take (i := 17) (v := ?_) rfl (by kernel_rfl) (by kernel_rfl) (by kernel_rfl) (fun _ _ _ h => h) (Or.inl ⟨by rfl, ?_⟩) (by assumption) ?_
            rotate_left
            · intro wq hSq
              obtain ⟨r0, r1, r2, r3, r4, r5, r6, r7⟩ := hSq
              go_simp
              try with_reducible rfl
            simp only [List.getElem_toArray, List.getElem_cons_succ, List.getElem_cons_zero, Act.put, List.setIfInBounds_toArray, List.set_cons_zero, List.set_cons_succ]
            refine wpAnyH_ready (rs := [18]) (by kernel_rfl) (by simp) ?_
            refine AllReadyH.cons rfl (fun Kq hKq => ?_) AllReadyH.nil
            go_simp
            refine (same_any t _ _ _ _ _ _ zs _ ?_ ?_).mono ?_
            · exact (OwnB.toSrc oX.out hxb.out).heap rfl
            · exact (OwnB.toSrc OW.out hxb.out).heap rfl
            rintro e w9 ⟨rfl, B9⟩
            have hS9 := hSt.below B9
            have B9' : Below W11.heap.size W11 w9 := ⟨B9.os, B9.tape, B9.output, B9.size, B9.block⟩
            refine hKq.out _ _ hS9 (fun hHeld => ?_)
            clear hKq Kq hSt
            refine wpAnyH_take (i := 19) (v := ?_) rfl (by kernel_rfl) (by kernel_rfl) (by kernel_rfl) (fun _ _ _ h => h) (Or.inl ⟨by rfl, ?_⟩) (by assumption) ?_
            rotate_left
            · intro wq hSq
              obtain ⟨r0, r1, r2, r3, r4, r5, r6, r7⟩ := hSq
              go_simp
              try with_reducible rfl
            simp only [List.getElem_toArray, List.getElem_cons_succ, List.getElem_cons_zero, Act.put, List.setIfInBounds_toArray, List.set_cons_zero, List.set_cons_succ]
            refine wpAnyH_take (i := 20) (v := ?_) rfl (by kernel_rfl) (by kernel_rfl) (by kernel_rfl) (fun _ _ _ h => h) (Or.inl ⟨by rfl, ?_⟩) (by assumption) ?_
            rotate_left
            · intro wq hSq
              obtain ⟨r0, r1, r2, r3, r4, r5, r6, r7⟩ := hSq
              go_simp
              try with_reducible rfl
            simp only [List.getElem_toArray, List.getElem_cons_succ, List.getElem_cons_zero, Act.put, List.setIfInBounds_toArray, List.set_cons_zero, List.set_cons_succ]
            refine wpAnyH_done (by kernel_rfl) ?_ _
            have lW : V6.heap.size + 1 < W11.heap.size := (Array.getElem?_eq_some_iff.1 HI.out.loop).1
            have HI9 := hide (HI.out.kept (B9'.mono (by omega)))
            have GG9 := hide (GG.out.belowA B9')
            have oX9 := hide (row_below oX.out B9')
            obtain ⟨r0, r1, r2, r3, r4, r5, r6, r7⟩ := hHeld
            have H10 : Hid (∀ w10, w9.grownBy w10 (Value.slice av mv cv).ownBlock → RL wr (V6.heap.size + 1) [V6.heap.size, D] (r .busy none) (m : Int) w10 ∧ GB (RS wr (V6.heap.size + 1) (.slice av mv cv)) W1 w10) := fun w10 g10 =>
              ⟨HI9.out.kept (((GB.refl (fun q => (Value.slice av mv cv).ownBlock = some q) w9).step g10 (fun _ h => h) (fun q hq => hq)).toBelow (by have := B9'.size; omega) (fun q hq => (OwnB.lt oX9.out q hq).1)), GG9.out.step g10 (fun _ h => h) (fun q hq => .inr (.inr hq))⟩
            have HB9 := hide B9'.size
            have HLZ := hide (OwnB.toSrc oX9.out hxb.out).hlen
            have hmv : (mv : Int) ≤ 1048576 := by have h1 := HLZ.out; have h2 := hxl.out; omega
            have hxn : ∀ q, (Value.slice av mv cv).ownBlock = some q → V6.heap.size + 1 + 1 ≤ q := fun q hq => (OwnB.lt oX9.out q hq).1
            clear HI GG oX OW B9 B9' hS9 r1 r2 r3 r4 r5
            gi_wp2_with fail
            obtain ⟨VV, hVV⟩ : ∃ V, V = wr := ⟨_, rfl⟩
            subst hVV
            gi_loopw [17] (fun i w10 => ∃ (j : Nat) (us : List Int), i = .int .i64 j ∧ j ≤ mv ∧ Hid (OwnB w10 (V6.heap.size + 1 + 1) (.slice av mv cv) us) ∧ Hid (us.length = mv) ∧ Hid (w9.grownBy w10 (Value.slice av mv cv).ownBlock)) (fun i _ => mv - (intOf i).toNat)
            case atStart => exact ⟨0, zs, rfl, Nat.zero_le _, oX9, HLZ, World.grownBy.refl _ _⟩
            case round =>
              obtain ⟨j, us, rfl, hj, HU, HUL, HG10⟩ := hrel
              have x1 : wr.cell? ⟨W1.heap.size, 1, none⟩ = some (.slice av mv cv) := HG10.out.cell r7 (fun h => Nat.lt_irrefl _ (HXT.out _ h.symm))
              by_cases hlt : j < mv
              · rcases HU.out.split with ⟨he, hz⟩ | ⟨gx, cap', he, _⟩
                · have := HUL.out; rw [hz] at this; simp at this; omega
                · simp at he
                  obtain ⟨rfl, hmz, rfl⟩ := he
                  have hcell := HU.out.cell j (by rw [HUL.out]; exact hlt)
                  have hfr := HU.out.frozen j
                  have hltI : (j : Int) < (mv : Int) := by omega
                  have HST := hide (fun u => HU.out.stored j u)
                  have hgne : ¬ W1.heap.size = gx := fun e => by have := HXT.out gx rfl; omega
                  have hgne2 : ¬ gx = W1.heap.size := fun e => hgne e.symm
                  generalize us.getD j 0 = z at hcell
                  clear hmz
                  have h0 : wr.drew.cell? ⟨W1.heap.size, 1, none⟩ = some (.slice (some ⟨gx, 0, none⟩) mv cv) ∧ True := ⟨x1, trivial⟩
                  have hlN : j < mv := hlt
                  gi_wp2_with fail
                  refine wpIn_region_heldR (fun W => W.cell? ⟨W1.heap.size, 1, none⟩ = some (.slice (some ⟨gx, 0, none⟩) mv cv) ∧ True) (by first | exact (fun ⟨_, _, h⟩ => h) | exact (fun ⟨_, _, _, h⟩ => h) | exact (fun ⟨_, h⟩ => h) | exact (fun h => h)) (by kernel_rfl) (by kernel_rfl) ?_
                  refine wpAnyH_take (i := 0) (v := ?_) rfl (by kernel_rfl) (by kernel_rfl) (by kernel_rfl) (fun _ _ _ h => h) (Or.inl ⟨by rfl, ?_⟩) (by assumption) ?_
                  rotate_left
                  · intro wq hSq
                    go_simp
                    try with_reducible rfl
                  simp only [List.getElem_toArray, List.getElem_cons_zero, Act.put, List.setIfInBounds_toArray, List.set_cons_zero, List.set_cons_succ]
                  refine wpAnyH_take (i := 1) (v := ?_) rfl (by kernel_rfl) (by kernel_rfl) (by kernel_rfl) (fun _ _ _ h => h) (Or.inl ⟨by rfl, ?_⟩) (by assumption) ?_
                  rotate_left
                  · intro wq hSq
                    obtain ⟨s1, s2⟩ := hSq
                    go_simp
                    try with_reducible rfl
                  simp only [List.getElem_toArray, List.getElem_cons_succ, List.getElem_cons_zero, Act.put, List.setIfInBounds_toArray, List.set_cons_zero, List.set_cons_succ]
                  refine wpAnyH_take (i := 2) (v := ?_) rfl (by kernel_rfl) (by kernel_rfl) (by kernel_rfl) (fun _ _ _ h => h) (Or.inl ⟨by rfl, ?_⟩) (by assumption) ?_
                  rotate_left
                  · intro wq hSq
                    obtain ⟨s1, s2⟩ := hSq
                    go_simp
                    try with_reducible rfl
                  simp only [List.getElem_toArray, List.getElem_cons_succ, List.getElem_cons_zero, Act.put, List.setIfInBounds_toArray, List.set_cons_zero, List.set_cons_succ]
                  refine wpAnyH_take (i := 3) (v := ?_) rfl (by kernel_rfl) (by kernel_rfl) (by kernel_rfl) (fun _ _ _ h => h) (Or.inl ⟨by rfl, ?_⟩) (by assumption) ?_
                  rotate_left
                  · intro wq hSq
                    obtain ⟨s1, s2⟩ := hSq
                    go_simp
                    try with_reducible rfl
                  simp only [List.getElem_toArray, List.getElem_cons_succ, List.getElem_cons_zero, Act.put, List.setIfInBounds_toArray, List.set_cons_zero, List.set_cons_succ]
                  refine wpAnyH_take (i := 4) (v := ?_) rfl (by kernel_rfl) (by kernel_rfl) (by kernel_rfl) (fun _ _ _ h => h) (Or.inl ⟨by rfl, ?_⟩) (by assumption) ?_
                  rotate_left
                  · intro wq hSq
                    obtain ⟨s1, s2⟩ := hSq
                    go_simp
                    try with_reducible rfl
                  simp only [List.getElem_toArray, List.getElem_cons_succ, List.getElem_cons_zero, Act.put, List.setIfInBounds_toArray, List.set_cons_zero, List.set_cons_succ]
                  refine wpAnyH_take (i := 5) (v := ?_) rfl (by kernel_rfl) (by kernel_rfl) (by kernel_rfl) (fun _ _ _ h => h) (Or.inl ⟨by rfl, ?_⟩) (by assumption) ?_
                  rotate_left
                  · intro wq hSq
                    obtain ⟨s1, s2⟩ := hSq
                    go_simp
                    try with_reducible rfl
                  simp only [List.getElem_toArray, List.getElem_cons_succ, List.getElem_cons_zero, Act.put, List.setIfInBounds_toArray, List.set_cons_zero, List.set_cons_succ]
                  refine wpAnyH_take (i := 6) (v := ?_) rfl (by kernel_rfl) (by kernel_rfl) (by kernel_rfl) (fun _ _ _ h => h) (Or.inl ⟨by rfl, ?_⟩) (by assumption) ?_
                  rotate_left
                  · intro wq hSq
                    obtain ⟨s1, s2⟩ := hSq
                    go_simp
                    try with_reducible rfl
                  simp only [List.getElem_toArray, List.getElem_cons_succ, List.getElem_cons_zero, Act.put, List.setIfInBounds_toArray, List.set_cons_zero, List.set_cons_succ]
                  refine wpAnyH_ready (rs := [7]) (by kernel_rfl) (by simp) ?_
                  refine AllReadyH.cons rfl (fun Kq hKq => ?_) AllReadyH.nil
                  go_simp
                  refine hKq.out _ _ h0 (fun hHeld => ?_)
                  clear hKq Kq hHeld
                  refine wpAnyH_take (i := 8) (v := ?_) rfl (by kernel_rfl) (by kernel_rfl) (by kernel_rfl) (fun _ _ _ h => h) (Or.inl ⟨by rfl, ?_⟩) (by assumption) ?_
                  rotate_left
                  · intro wq hSq
                    obtain ⟨s1, s2⟩ := hSq
                    go_simp
                    try with_reducible rfl
                  simp only [List.getElem_toArray, List.getElem_cons_succ, List.getElem_cons_zero, Act.put, List.setIfInBounds_toArray, List.set_cons_zero, List.set_cons_succ]
                  refine wpAnyH_take (i := 9) (v := ?_) rfl (by kernel_rfl) (by kernel_rfl) (by kernel_rfl) (fun _ _ _ h => h) (Or.inl ⟨by rfl, ?_⟩) (by assumption) ?_
                  rotate_left
                  · intro wq hSq
                    obtain ⟨s1, s2⟩ := hSq
                    go_simp
                    try with_reducible rfl
                  simp only [List.getElem_toArray, List.getElem_cons_succ, List.getElem_cons_zero, Act.put, List.setIfInBounds_toArray, List.set_cons_zero, List.set_cons_succ]
                  refine wpAnyH_ready (rs := [10]) (by kernel_rfl) (by simp) ?_
                  refine AllReadyH.cons rfl (fun Kq hKq => ?_) AllReadyH.nil
                  go_simp
                  refine hKq.out _ _ ⟨by simp [go_sem, x1], trivial⟩ (fun hHeld => ?_)
                  clear hKq Kq hHeld
                  refine wpAnyH_done (by kernel_rfl) ?_ _
                  gi_wp2
                  exact ⟨⟨j + 1, _, by simp, by omega, (HST.out _).1.heap rfl, by unfold Hid; rw [List.length_set]; exact HUL.out, grown_drew (grown_trans HG10.out (HST.out _).2)⟩, by simp [intOf]; omega⟩
              · obtain rfl : j = mv := by omega
                have h10 := hide (H10.out wr HG10.out)
                have cN := h10.out.1.ra.nb.cell
                have fN := h10.out.1.ra.nb.frozen
                gi_wp2
                have z := h10.out.1.setN ((m : Int) + 1)
                exact ⟨z.loop, .inl ⟨rfl, by rw [PL.out]; exact z.put _, KOF.out _ h10.out.2.setN.put⟩⟩
        · rintro e W' ⟨⟨v, rfl⟩, ⟨ys, hys, hI⟩ | ⟨pre, _, hI⟩⟩
          · have hl := hI.loop
            rw [← hrec] at hl
            refine range_done hl ?_
            rw [hrec]
            have h2 := hide (hI.put (r .exhausted none))
            have yl : ys.length = K := by rw [HK.out, ← hys, List.length_map]
            rw [yl] at h2
            clear hl hI hrec i8
            generalize W'.putObj (V6.heap.size + 1) (.loop (r .exhausted none)) = V9 at h2 ⊢
            have cN := h2.out.ra.nb.cell
            have cW := ((h2.out.ra.bel.block _ bW8.out.lt).trans bW8.out |> fun h : Boxed V9 _ _ _ => h.cell)
            have bR9 := hide ((h2.out.ra.bel.block _ bR8.out.lt).trans bR8.out |> fun h : Boxed V9 _ _ _ => h)
            have cR := bR9.out.cell
            have fR := bR9.out.frozen
            have kk : ((K : Int) == (K : Int)) = true := by simp
            go_wp2_with (first | (go_at_call 12; refine (size_any 0 (by omega) _).mono ?_; rintro e w9 ⟨rfl, rfl⟩; rw [h70]) | (go_at_call 15; refine (namesA _).mono ?_; rintro e w9 ⟨rfl, rfl⟩))
            show LeavesInM _ _ _ _ _ _ _ _ _
            have o1 := h2.out.od V6.heap.size (by simp)
            have rlt := bR8.out.lt
            exact alls_leave w _ V6.heap.size D _ rfl (bR9.out.set _) ((L8.out.trans (h2.out.ra.bel.mono L8.out.size)).setCell (by simp) _) (by rw [Below.heap_setCell _ _ _ _ (by simp; omega)]; exact h2.out.dfr _ (by simp)) (by rw [Below.heap_setCell _ _ _ _ (by simp; omega)]; exact h2.out.dfr _ (by simp)) (by omega) (by omega) (by omega)
          · exact hI.elim
      subst hA
      refine each_enter rfl ?_
      intro fn hfn
      generalize hrec : recOf fn _ _ _ _ _ = r
      have i10 := RL.enter (Ds := []) i9 (by simp) (r .ready none)
      have z10 : ((W9.alloc (.deferred (some []))).alloc (.loop (r .ready none))).heap.size = W9.heap.size + 1 + 1 := by simp
      generalize (W9.alloc (.deferred (some []))).alloc (.loop (r .ready none)) = W10 at i10 z10 ⊢
      refine (each1_in (W9.heap.size + 1) B aK n cK xs (by omega) (fun pre A => RL wr (W9.heap.size + 1) [W9.heap.size] (r .ready none) (pre.length : Int) A) (fun _ A => ∃ k, RL wr (W9.heap.size + 1) [W9.heap.size] (r .done (some (.exit 2))) k A) wr W10 TA.out sK8.out i10.ra.bel bB8.out ?_ ?_ ?_ i10).mono ?_
      · intro pre A C h hb
        rw [z10] at hb
        exact h.kept hb
      · rintro pre A C ⟨k, h⟩ hb
        rw [z10] at hb
        exact ⟨k, h.kept hb⟩
      · rintro pre x W1 v hJ hbel hsz ho hlen _
        rw [z10] at ho ⊢
        have hl := hJ.loop
        have KOF : Hid (∀ W', GB (RS wr (W9.heap.size + 1) v) W1 W' → KO wr (W9.heap.size + 1 + 1) v W1 W') := fun W' hW => KO.of hW hJ.ra.nb hl hJ.ol ho
        rw [← hrec] at hl
        refine range_round (a₁ := ?A2Q) hfn hl rfl ?_ ?_
        rotate_left
        · intro K hK
          gi_wp2
          exact hK
        · rw [hrec]
          have HI := hide (hJ.put (r .busy none))
          have cN := HI.out.ra.nb.cell
          have fN := HI.out.ra.nb.frozen
          have cL : (W1.putObj (W9.heap.size + 1) (.loop (r .busy none))).cell? ⟨w.heap.size, 0, none⟩ = some (.int .i64 lv) := ((HI.out.ra.bel.block _ bL8.out.lt).trans bL8.out |> fun h : Boxed _ _ _ _ => h.cell)
          have GG : Hid (GB (RS wr (W9.heap.size + 1) v) W1 (W1.putObj (W9.heap.size + 1) (.loop (r .busy none)))) := (GB.refl _ _).put
          have hpl : (pre.length : Int) ≤ 1048576 := by have := nlx.out; omega
          have hpl2 : Hid ((pre ++ [x]).length = pre.length + 1) := by unfold Hid; simp
          clear hl hJ hbel hsz ho hlen hrec HKC hKc
          generalize W1.putObj (W9.heap.size + 1) (.loop (r .busy none)) = W11 at HI cN fN cL GG ⊢
          obtain ⟨P, hP⟩ : ∃ P : Int, (pre.length : Int) = P := ⟨_, rfl⟩
          rw [hP] at cN HI hpl
          have HP := hide hP
          clear hP
          have hP0 : Hid (0 ≤ P) := by unfold Hid; have := HP.out; omega
          by_cases hkl : P = lv
          · have hb : (P == lv) = true := by simpa using hkl
            clear hkl
            gi_wp2
            exact ⟨HI.out.loop, .inr ⟨rfl, ⟨P, HI.out.put _⟩, KOF.out _ GG.out.put⟩⟩
          · have hb : (P == lv) = false := by simpa using hkl
            have wP : IntKind.i64.wrap (P + 1) = P + 1 := i64_in _ (by have := hP0.out; omega)
            clear hkl
            gi_wp2
            have z := HI.out.setN (P + 1)
            have e1 : (((pre ++ [x]).length : Nat) : Int) = P + 1 := by rw [hpl2.out]; have := HP.out; omega
            exact ⟨z.loop, .inl ⟨rfl, by rw [e1]; exact z.put _, KOF.out _ GG.out.setN.put⟩⟩
      · rintro e W' ⟨⟨v, rfl⟩, ⟨ys, _, hI⟩ | ⟨pre, _, k, hI⟩⟩
        · have hl := hI.loop
          rw [← hrec] at hl
          refine range_done hl ?_
          rw [hrec]
          have h2 := hI.put (r .exhausted none)
          exact HKC _ _ _ h2.ra (h2.dfr _ (by simp)) (h2.od _ (by simp)).1
        · have hl := hI.loop
          rw [← hrec] at hl
          refine range_left hl ?_
          rw [hrec]
          have h2 := hI.put (r .exhausted (some (.exit 2)))
          have h3 := hide (HKC k W9.heap.size _ h2.ra (h2.dfr _ (by simp)) (h2.od _ (by simp)).1)
          clear hrec HKC hKc
          generalize (Act.mk _ _ : Act) = A2 at h3 ⊢
          gi_wp2
          exact h3.out

end Go.Proofs.YtogemhoempkjoaaDoor
