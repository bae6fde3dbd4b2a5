/-
  DerAlls answers true, and writes nothing that was there.
-/
import Derived.Test.YtdjlaaflmbdomaaAllsR
import Derived.Test.YtdjlaaflmbdomaaAllIt
import Derived.Test.YtdjlaaflmbdomaaAllsB
namespace Go.Proofs.Ytdjlaaflmbdomaa
open Go.RowKit Go.Shelf Go.IntWalk
attribute [local go_sem] Oper.semAt_some

theorem placesF_len (xs : List Int) : ∀ f p, (placesF xs f p).length ≤ f
  | 0, _ => Nat.le_refl _
  | f + 1, p => by
    unfold placesF
    split
    · have := placesF_len xs f (p + (findS (xs.drop p)).2.2.1.toNat)
      simp only [List.length_cons]
      omega
    · simp

theorem seq2_none (w : World) (f : Nat) (c : Array Value) : (binOp .eql 38 (.func (.func f) #[] c) .nilFunc).run Try.prog w = .ok (.bool false) w := by
  have h : ∀ d : Nat, (Op.equalIn (d + 1) 38 (.func (.func f) #[] c) .nilFunc).run Try.prog w = .ok false w := fun d => by
    simp [Op.equalIn, run_underlying Try.underlying38]
  simp only [binOp]
  simp [Op.equal, Op.maxDepth, h 9999]

theorem each_none (X : World) (B : Nat) : (binOp .eql 38 (.func (.func 20) #[] #[.pointer (some ⟨B, 0, none⟩)]) .nilFunc).run Try.prog X = .ok (.bool false) X := seq2_none X _ _

set_option maxRecDepth 100000 in
set_option maxHeartbeats 4000000 in
theorem derAlls_in (ao : Option Addr) (n cap : Nat) (xs : List Int) (lv : Int) (w : World) (hs : Src w ao n cap xs) (hn : n ≤ 1048576) :
    CallsIn Fence.wide 8 Try.prog 3 #[.slice ao n cap, .int .i64 lv] w fun e w' => e = .returned (.bool true) ∧ Below w.heap.size w w' := by
  by_cases hlt : endS xs (placesS xs 0) < xs.length
  · refine callsIn_of_wp_marks Try.func3 rfl trivial ?_ rfl
    simp only [Try.ntmps3, List.size_toArray, List.length_cons, List.length_nil, Nat.reduceAdd, Nat.reduceSub, Array.replicate_succ, Array.replicate_zero, List.push_toArray, List.append_toArray, List.nil_append, List.cons_append]
    refine wpIn_wide.2 ?_
    have bLv : Boxed ((w.alloc (.cells #[.int .i64 lv] 3)).alloc (.cells #[.bool false] 4)) w.heap.size 3 (.int .i64 lv) := (Boxed.new w 3 (.int .i64 lv)).alloc _
    have bRs : Boxed ((w.alloc (.cells #[.int .i64 lv] 3)).alloc (.cells #[.bool false] 4)) (w.heap.size + 1) 4 (.bool false) := by
      have h := Boxed.new (w.alloc (.cells #[.int .i64 lv] 3)) 4 (.bool false)
      rwa [World.size_alloc] at h
    have B0 : Below w.heap.size w ((w.alloc (.cells #[.int .i64 lv] 3)).alloc (.cells #[.bool false] 4)) := ((Below.refl _ w).alloc (Nat.le_refl _) _).alloc (by simp) _
    have z0 : ((w.alloc (.cells #[.int .i64 lv] 3)).alloc (.cells #[.bool false] 4)).heap.size = w.heap.size + 2 := by simp
    go_wp2_with fail
    generalize (w.alloc (.cells #[.int .i64 lv] 3)).alloc (.cells #[.bool false] 4) = W0 at bLv bRs B0 z0 ⊢
    have LN := hide hs.hlen
    have BY := hide hs.hbyt
    refine (lent_any ao n cap xs W0 (hs.below B0) (by omega)).mono ?_
    rintro e w1 ⟨g, c, rfl, hc1, hm1, hg1, hl1, HI, B1⟩
    have sI : Src w1 (some ⟨g, 0, none⟩) n c xs := HI.src (by intro x hx; simp at hx; rcases hx with hx | rfl; exact BY.out x hx; omega) n (by omega) (by rw [List.take_append_of_le_length (by rw [LN.out]; exact Nat.le_refl _), List.take_of_length_le (by rw [LN.out]; exact Nat.le_refl _)]) hm1
    go_wp2_with fail
    refine (callsIn_wide.1 (all_in _ n c xs w1 sI (by omega))).mono ?_
    rintro e w2 ⟨v, pl, err, rfl, ⟨q1, q2, q3⟩, B2⟩
    subst q1
    have Q2 := hide q2
    have Q3 := hide q3
    clear q2 q3
    have L1 := B0.trans (B1.mono B0.size)
    have L2 := L1.trans (B2.mono L1.size)
    go_wp2_with fail
    refine (refRow_any ao n cap xs w2 (hs.below L2) (by omega)).mono ?_
    rintro e w3 ⟨a1, a2, c1, c2, K, cs, bad, rfl, hK, RS, hbad, hne, B3⟩
    have L3 := L2.trans (B3.mono L2.size)
    have HNE := hide hne
    have HBD := hide hbad
    have HK := hide hK
    clear hne hbad hK
    have hKn : K ≤ n := by rw [HK.out, ← LN.out]; unfold placesS; have := placesF_len xs (xs.length - 0) 0; omega
    obtain ⟨rfl, h2⟩ := Q2.out hlt
    have herr : err = bad := by rw [h2, HBD.out]; unfold rowErr; rw [if_pos hlt]
    subst herr
    have hrow : w2.ownsRow w1.heap.size 34 2 (.slice none 0 0) 0 [] := World.ownsRow_nil _ _ _ _
    have hmat : EMatch w2 w1.heap.size [] (((placesS xs 0).map (elS xs)).take 0) := trivial
    have hap := EApart.nil
    have k1 : (err != err) = false := by simp
    have k2 : (err != 0) = true := by simpa using HNE.out hlt
    have k3 : (err == 0) = false := by simpa using HNE.out hlt
    clear Q2 Q3 HBD HNE h2 hlt
    generalize ((endS xs (placesS xs 0) : Nat) : Int) = EN
    have k4 : (EN != EN) = false := by simp
    have kI : (K : Int) ≤ 1048576 := by omega
    go_wp2
    have hS : Hid (∀ k q, SB [] k q → w1.heap.size ≤ q ∧ q < w2.heap.size ∧ ∃ cu, ((w3.alloc (.cells #[.slice a1 K c1] 28)).alloc (.cells #[.slice a2 K c2] 29)).heap[q]? = some (.cells cu 5 (0, 0))) := by
      intro k q h
      obtain ⟨h1, h2, cu, h3⟩ := h.at hmat
      have z3 := B3.size
      exact ⟨h1, h2, cu, by rw [Below.heap_alloc _ _ _ (by simp; omega), Below.heap_alloc _ _ _ (by omega), B3.block q h2]; exact h3⟩
    have B35 : Below w3.heap.size w3 ((w3.alloc (.cells #[.slice a1 K c1] 28)).alloc (.cells #[.slice a2 K c2] 29)) := ((Below.refl _ _).alloc (Nat.le_refl _) _).alloc (by simp) _
    have B25 := B3.trans (B35.mono B3.size)
    have B15 := B2.trans (B25.mono B2.size)
    have B05 := B1.trans (B15.mono B1.size)
    have L5 := hide (B0.trans (B05.mono B0.size))
    have bW : Hid (Boxed ((w3.alloc (.cells #[.slice a1 K c1] 28)).alloc (.cells #[.slice a2 K c2] 29)) w3.heap.size 28 (.slice a1 K c1)) := (Boxed.new w3 _ _).alloc _
    have bP : Hid (Boxed ((w3.alloc (.cells #[.slice a1 K c1] 28)).alloc (.cells #[.slice a2 K c2] 29)) (w3.heap.size + 1) 29 (.slice a2 K c2)) := by
      have h := Boxed.new (w3.alloc (.cells #[.slice a1 K c1] 28)) 29 (.slice a2 K c2)
      rwa [World.size_alloc] at h
    have bL5 := hide ((B05.block _ bLv.lt).trans bLv)
    have bR5 := hide ((B05.block _ bRs.lt).trans bRs)
    have RS5 := hide (RS.below B35)
    have HI5 := hide (row_below HI B15)
    have hrow5 := hide (row_below hrow B25)
    have hmat5 := hide (hmat.kept (fun s ys h => row_below h B25))
    have HAP := hide hap
    have Z5 : Hid (w1.heap.size ≤ ((w3.alloc (.cells #[.slice a1 K c1] 28)).alloc (.cells #[.slice a2 K c2] 29)).heap.size ∧ w2.heap.size ≤ w3.heap.size ∧ ((w3.alloc (.cells #[.slice a1 K c1] 28)).alloc (.cells #[.slice a2 K c2] 29)).heap.size = w3.heap.size + 2) := ⟨B15.size, B3.size, by simp⟩
    have Z12 : Hid (w1.heap.size ≤ w2.heap.size ∧ W0.heap.size ≤ w1.heap.size ∧ w.heap.size ≤ W0.heap.size ∧ g < w1.heap.size ∧ W0.heap.size ≤ g) := ⟨B2.size, B1.size, B0.size, hl1, hg1⟩
    clear B35 B25 B15 B05 bLv bRs RS HI hrow hmat hap B0 B1 B2 B3 L1 L2 L3 z0 hl1 hg1 sI
    generalize (w3.alloc (.cells #[.slice a1 K c1] 28)).alloc (.cells #[.slice a2 K c2] 29) = W5 at hS Z5 L5 bW bP bL5 bR5 RS5 HI5 hrow5 hmat5 ⊢
    go_loopw [13] (fun i wr => ∃ k : Nat, k ≤ 0 ∧ i = .int .i64 k ∧ Hid (GB (SB [] k) W5 wr)) (fun i _ => 0 - (intOf i).toNat)
    case atStart => exact ⟨0, Nat.zero_le _, rfl, GB.refl _ _⟩
    case round =>
      obtain ⟨k, hk, rfl, HG⟩ := hrel
      have hT : Hid (∀ k q, SB [] k q → ∃ cu, W5.heap[q]? = some (.cells cu 5 (0, 0))) := fun k q h => (hS.out k q h).2.2
      by_cases hkm : k < 0
      · exact absurd hkm (Nat.not_lt_zero _)
      · have hkE : 0 = k := by omega
        subst hkE
        have GBo := HG.out
        have z5 := Z5.out
        have z12 := Z12.out
        have bL6 := GBo.box (hT.out _) bL5.out (by decide)
        have bR6 := GBo.box (hT.out _) bR5.out (by decide)
        have bW6 := GBo.box (hT.out _) bW.out (by decide)
        have bP6 := GBo.box (hT.out _) bP.out (by decide)
        have RS6 := GBo.rowSt (hT.out _) RS5.out (fun q h => (hS.out _ q h).2.1)
        have HI6 : OwnB wr W0.heap.size (.slice (some ⟨g, 0, none⟩) (n + 1) c) (xs ++ [90]) := GBo.rowNe HI5.out (fun q hq hs => by have h1 := (hS.out _ q hs).1; simp [Value.ownBlock] at hq; omega)
        have L6 : Below w.heap.size w wr := L5.out.trans (GBo.toBelow (by omega) (fun q h => by have := (hS.out _ q h).1; omega))
        have sI6 : Src wr (some ⟨g, 0, none⟩) n c xs := OwnB.src HI6 (by intro x hx; simp at hx; rcases hx with hx | rfl; exact BY.out x hx; omega) n (by omega) (by rw [List.take_append_of_le_length (by rw [LN.out]; exact Nat.le_refl _), List.take_of_length_le (by rw [LN.out]; exact Nat.le_refl _)]) hm1
        have Z6 : Hid (w3.heap.size + 2 ≤ wr.heap.size ∧ g < w3.heap.size ∧ g < w2.heap.size) := by have h := GBo.size; exact ⟨by omega, by omega, by omega⟩
        have EC := hide (each_any _ n c xs wr sI6 (by omega))
        have qn := fun (X : World) (B : Nat) => each_none X B
        clear GBo z5 z12 HG hT hS bL5 bR5 bW bP RS5 HI5 L5 hrow5 hmat5 HAP Z5 hk sI6
        generalize wr = W6 at *
        go_wp2_with (go_at_call 10; refine EC.out.mono ?_; rintro e w7 ⟨aK, cK, B, rfl, HKp, hB, bB, B7⟩)
        have HI7 := hide (row_below HI6 B7)
        have nI : (n : Int) ≤ 1048576 := by omega
        go_loopw [15] (fun i wr => ∃ (k : Nat) (zs : List Int), k ≤ n ∧ i = .int .i64 k ∧ Hid (OwnB wr W0.heap.size (.slice (some ⟨g, 0, none⟩) (n + 1) c) zs) ∧ w7.grownBy wr (some g)) (fun i _ => n - (intOf i).toNat)
        case atStart => exact ⟨0, _, Nat.zero_le _, rfl, HI7, World.grownBy.refl _ _⟩
        case round =>
          obtain ⟨k, zs, hk, rfl, HZ, hg⟩ := hrel
          by_cases hkn : k < n
          · have hkI : (k : Int) < (n : Int) := by omega
            have hcell := HZ.out.cell k (by rw [← HZ.out.eqlen]; omega)
            have hfr := HZ.out.frozen k
            have HST := hide (fun u => HZ.out.stored k u)
            generalize zs.getD k 0 = z at hcell
            go_wp2
            go_roundw
            case rel => exact ⟨k + 1, _, by omega, by go_num, (HST.out _).1, grown_trans hg (HST.out _).2⟩
            case measure => simp [intOf] <;> omega
          · have hkI : ¬ (k : Int) < (n : Int) := by omega
            have G8 : GB (fun q => q = g) w7 wr := (GB.refl _ _).step hg (fun _ h => h) (fun q hq => by cases hq; rfl)
            have hT8 : ∀ q, q = g → ∃ cu, w7.heap[q]? = some (.cells cu 5 (0, 0)) := fun q hq => by subst hq; exact row_type HI7.out q rfl
            have z6 := Z6.out
            have z7 := B7.size
            have bL8 := hide (G8.box hT8 ((B7.block _ bL6.lt).trans bL6) (by decide))
            have bR8 := hide (G8.box hT8 ((B7.block _ bR6.lt).trans bR6) (by decide))
            have bW8 := hide (G8.box hT8 ((B7.block _ bW6.lt).trans bW6) (by decide))
            have bP8 := hide (G8.box hT8 ((B7.block _ bP6.lt).trans bP6) (by decide))
            have RS8 := hide (G8.rowSt hT8 (RS6.below B7) (fun q h => by subst h; omega))
            have bB8 := hide (G8.box hT8 bB (by decide))
            have sK8 : Hid (Src wr aK n cK xs) := (G8.rowNe HKp (fun q hq h => by have := (OwnB.lt HKp q hq).1; omega) |> fun h => OwnB.toSrc h BY.out)
            have L7 := L6.trans (B7.mono L6.size)
            have z12 := Z12.out
            have L8 := hide (L7.trans (G8.toBelow (N := w.heap.size) (by omega) (fun q h => by omega)))
            clear G8 hT8 HZ hg HI7 HKp bB B7 RS6 bL6 bR6 bW6 bP6 HI6 L6 L7 EC
            have i9 : RA wr 0 (wr.alloc (.cells #[.int .i64 0] 3)) := ⟨(Below.refl _ _).alloc (Nat.le_refl _) _, Boxed.new wr _ _⟩
            have nlx : Hid (xs.length ≤ 1048576) := by unfold Hid; rw [LN.out]; exact hn
            go_wp2_with fail
            rename_i Kc hKc
            generalize wr.alloc (.cells #[.int .i64 0] 3) = W9 at i9 ⊢
            generalize hA : Act.mk _ _ = A
            have HKC : ∀ (k : Int) D W2, RA wr k W2 → W2.heap[D]? = some (.deferred (some [])) → wr.heap.size < D → Kc { A with defers := { target := .collected D, args := #[] } :: A.defers } W2 := by
              intro k D W2 hra hd hD
              subst hA
              refine hKc _ _ ?_
              have cN := hra.nb.cell
              have fN := hra.nb.frozen
              have i7 := hra.setN 0
              have hd7 : (W2.setCell ⟨wr.heap.size, 0, none⟩ (.int .i64 0)).heap[D]? = some (.deferred (some [])) := by rw [Below.heap_setCell _ _ _ _ (by simp; omega)]; exact hd
              have I7 := hide (And.intro i7 hd7)
              clear i7 hd7 hd hra i9 hKc
              go_wp2_with fail
              obtain ⟨i7, hd7⟩ := I7.out
              clear I7 cN fN
              generalize W2.setCell ⟨wr.heap.size, 0, none⟩ (.int .i64 0) = V6 at i7 hd7 ⊢
              refine each_enter rfl ?_
              intro fn hfn
              generalize hrec : recOf fn _ _ _ _ _ = r
              have i8 := RL.enter (Ds := [D]) i7 (by intro x hx; simp at hx; subst hx; exact ⟨hd7, hD⟩) (r .ready none)
              have z8 : ((V6.alloc (.deferred (some []))).alloc (.loop (r .ready none))).heap.size = V6.heap.size + 1 + 1 := by simp
              have hDlt : D < V6.heap.size := (Array.getElem?_eq_some_iff.1 hd7).1
              generalize (V6.alloc (.deferred (some []))).alloc (.loop (r .ready none)) = V8 at i8 z8 ⊢
              refine (each1_in (V6.heap.size + 1) B aK n cK xs (by omega) (fun pre A => RL wr (V6.heap.size + 1) [V6.heap.size, D] (r .ready none) (pre.length : Int) A) (fun _ _ => False) wr V8 sK8.out i8.ra.bel bB8.out ?_ ?_ ?_ i8).mono ?_
              · intro pre A C h hb
                rw [z8] at hb
                exact h.kept hb
              · intro pre A C h
                exact h.elim
              · rintro pre x W1 v hJ hbel hsz ho hlen hpfx
                rw [z8] at ho ⊢
                have hl := hJ.loop
                have KOF : Hid (∀ W', GB (RS wr (V6.heap.size + 1) v) W1 W' → KO wr (V6.heap.size + 1 + 1) v W1 W') := fun W' hW => KO.of hW hJ.ra.nb hl hJ.ol ho
                rw [← hrec] at hl
                obtain ⟨av, mv, cv, hv⟩ : ∃ av mv cv, v = .slice av mv cv := by
                  rcases ho.split with ⟨h, _⟩ | ⟨gq, cq, h, _⟩
                  · exact ⟨_, _, _, h⟩
                  · exact ⟨_, _, _, h⟩
                subst hv
                have hz1 : V6.heap.size + 1 < W1.heap.size := (Array.getElem?_eq_some_iff.1 hJ.loop).1
                obtain ⟨t, ht⟩ : ∃ t, (findS (xs.drop x.1)).1 = t := ⟨_, rfl⟩
                rw [ht]
                have hl1 : (W1.alloc (.cells #[.int .i64 t, .slice av mv cv] 34)).heap[V6.heap.size + 1]? = some (.loop (recOf fn _ _ _ _ _ .ready none)) := (Below.heap_alloc _ _ _ (by omega)).trans hl
                refine range_roundA (a₁ := ?B20) hfn hl rfl hl1 ?_ ?_
                rotate_left
                · intro KK hKK
                  gi_wp2
                  exact hKK
                · rw [hrec]
                  have GA : GB (RS wr (V6.heap.size + 1) (.slice av mv cv)) W1 (W1.alloc (.cells #[.int .i64 t, .slice av mv cv] 34)) := (GB.refl _ _).belowA ((Below.refl _ _).alloc (Nat.le_refl _) _)
                  have hJ1 := hJ.kept (C := W1.alloc (.cells #[.int .i64 t, .slice av mv cv] 34)) ((Below.refl _ _).alloc (by omega) _)
                  have HI := hide (hJ1.put (r .busy none))
                  have GG := hide (GA.put (o := .loop (r .busy none)))
                  have oX := hide (((GB.refl (fun q => q = V6.heap.size + 1) W1).belowA ((Below.refl _ _).alloc (Nat.le_refl _) (.cells #[.int .i64 t, .slice av mv cv] 34))).step (grownBy_putObj' _ (V6.heap.size + 1) (.loop (r .busy none))) (fun _ h => h) (fun q hq => by cases hq; rfl) |>.rowNe ho (fun q hq hs => by have := (OwnB.lt ho q hq).1; omega))
                  have xb : ((W1.alloc (.cells #[.int .i64 t, .slice av mv cv] 34)).putObj (V6.heap.size + 1) (.loop (r .busy none))).heap[W1.heap.size]? = some (.cells #[.int .i64 t, .slice av mv cv] 34) := (World.putObj_heap_other (by omega)).trans (World.alloc_heap_new _ _)
                  have hxb : Hid (∀ y ∈ contS (xs.drop x.1), 0 ≤ y ∧ y < 256) := contS_byte _ (fun y hy => BY.out y (List.mem_of_mem_drop hy))
                  have hxl : Hid ((contS (xs.drop x.1)).length ≤ 1048576) := by
                    have := nlx.out
                    unfold Hid contS
                    simp only [List.length_drop, List.length_take]
                    omega
                  clear GA hJ1 hl1 hl hJ hbel hsz ho hlen i8 hrec
                  generalize (W1.alloc (.cells #[.int .i64 t, .slice av mv cv] 34)).putObj (V6.heap.size + 1) (.loop (r .busy none)) = W11 at HI GG oX xb ⊢
                  obtain ⟨s0, s1⟩ := boxed2 xb
                  have xlt : W1.heap.size < W11.heap.size := (Array.getElem?_eq_some_iff.1 xb).1
                  have s2 := ((HI.out.ra.bel.block _ bW8.out.lt).trans bW8.out |> fun h : Boxed W11 _ _ _ => h.cell)
                  have s3 := ((HI.out.ra.bel.block _ bP8.out.lt).trans bP8.out |> fun h : Boxed W11 _ _ _ => h.cell)
                  obtain ⟨hmK, gW, gP, ao2, m2, c3, q1, q2, s4, s5, s6, s7⟩ := row_at (RS8.out.below HI.out.ra.bel) HK.out (pre_at hpfx)
                  have s8 := HI.out.ra.nb.cell
                  rw [ht] at s4
                  have HT := hide ht
                  have OW := hide s6
                  have PL : Hid ((((pre ++ [x]).length : Nat) : Int) = (pre.length : Int) + 1) := by unfold Hid; simp
                  subst q1 q2
                  clear xb ht s6 hpfx hz1
                  obtain ⟨zs, hzs⟩ : ∃ zs, contS (xs.drop x.1) = zs := ⟨_, rfl⟩
                  rw [hzs] at oX OW hxb hxl
                  clear hzs HT
                  generalize pre.length = m at *
                  generalize (x.1 : Int) = px at *
                  have mI : (m : Int) < (K : Int) := by omega
                  have mG : ¬ (K : Int) ≤ (m : Int) := by omega
                  have pxx : (px != px) = false := by simp
                  have wP : IntKind.i64.wrap ((m : Int) + 1) = (m : Int) + 1 := i64_in _ (by omega)
                  have hSt : SAt wr.heap.size w3.heap.size gW gP W1.heap.size K c1 c2 m t px av mv cv ao2 m2 c3 W11.drew := ⟨s8, s2, s3, s7, s4, s5, s0, s1⟩
                  clear s8 s2 s3 s7 s4 s5 s0 s1
                  gi_wp2
                  refine wpIn_region_heldR (SAt wr.heap.size w3.heap.size gW gP W1.heap.size K c1 c2 m t px av mv cv ao2 m2 c3) (fun ⟨_, _, h⟩ => h) (by kernel_rfl) (by kernel_rfl) ?_
                  refine wpAnyH_take (i := 0) (v := ?_) rfl (by kernel_rfl) (by kernel_rfl) (by kernel_rfl) (fun _ _ _ h => h) (Or.inl ⟨by rfl, ?_⟩) (by assumption) ?_
                  rotate_left
                  · intro wq hSq
                    obtain ⟨r0, r1, r2, r3, r4, r5, r6, r7⟩ := hSq
                    go_simp
                    try with_reducible rfl
                  simp only [List.getElem_toArray, List.getElem_cons_zero, Act.put, List.setIfInBounds_toArray, List.set_cons_zero, List.set_cons_succ]
                  refine wpAnyH_take (i := 1) (v := ?_) rfl (by kernel_rfl) (by kernel_rfl) (by kernel_rfl) (fun _ _ _ h => h) (Or.inl ⟨by rfl, ?_⟩) (by assumption) ?_
                  rotate_left
                  · intro wq hSq
                    obtain ⟨r0, r1, r2, r3, r4, r5, r6, r7⟩ := hSq
                    go_simp
                    try with_reducible rfl
                  simp only [List.getElem_toArray, List.getElem_cons_succ, List.getElem_cons_zero, Act.put, List.setIfInBounds_toArray, List.set_cons_zero, List.set_cons_succ]
                  refine wpAnyH_take (i := 2) (v := ?_) rfl (by kernel_rfl) (by kernel_rfl) (by kernel_rfl) (fun _ _ _ h => h) (Or.inl ⟨by rfl, ?_⟩) (by assumption) ?_
                  rotate_left
                  · intro wq hSq
                    obtain ⟨r0, r1, r2, r3, r4, r5, r6, r7⟩ := hSq
                    go_simp
                    try with_reducible rfl
                  simp only [List.getElem_toArray, List.getElem_cons_succ, List.getElem_cons_zero, Act.put, List.setIfInBounds_toArray, List.set_cons_zero, List.set_cons_succ]
                  refine wpAnyH_take (i := 3) (v := .bool false) rfl (by kernel_rfl) (by kernel_rfl) (by kernel_rfl) (fun _ _ _ h => h) (Or.inl ⟨by rfl, ?_⟩) (by assumption) ?_
                  · intro wq hSq
                    obtain ⟨r0, r1, r2, r3, r4, r5, r6, r7⟩ := hSq
                    go_simp
                  simp only [List.getElem_toArray, List.getElem_cons_succ, List.getElem_cons_zero, Act.put, List.setIfInBounds_toArray, List.set_cons_zero, List.set_cons_succ]
                  refine wpAnyH_take (i := 4) (v := ?_) rfl (by kernel_rfl) (by kernel_rfl) (by kernel_rfl) (fun _ _ _ h => h) (Or.inl ⟨by rfl, ?_⟩) (by assumption) ?_
                  rotate_left
                  · intro wq hSq
                    obtain ⟨r0, r1, r2, r3, r4, r5, r6, r7⟩ := hSq
                    go_simp
                    try with_reducible rfl
                  simp only [List.getElem_toArray, List.getElem_cons_succ, List.getElem_cons_zero, Act.put, List.setIfInBounds_toArray, List.set_cons_zero, List.set_cons_succ]
                  refine wpAnyH_take (i := 5) (v := ?_) rfl (by kernel_rfl) (by kernel_rfl) (by kernel_rfl) (fun _ _ _ h => h) (Or.inl ⟨by rfl, ?_⟩) (by assumption) ?_
                  rotate_left
                  · intro wq hSq
                    obtain ⟨r0, r1, r2, r3, r4, r5, r6, r7⟩ := hSq
                    go_simp
                    try with_reducible rfl
                  simp only [List.getElem_toArray, List.getElem_cons_succ, List.getElem_cons_zero, Act.put, List.setIfInBounds_toArray, List.set_cons_zero, List.set_cons_succ]
                  refine wpAnyH_take (i := 6) (v := ?_) rfl (by kernel_rfl) (by kernel_rfl) (by kernel_rfl) (fun _ _ _ h => h) (Or.inl ⟨by rfl, ?_⟩) (by assumption) ?_
                  rotate_left
                  · intro wq hSq
                    obtain ⟨r0, r1, r2, r3, r4, r5, r6, r7⟩ := hSq
                    go_simp
                    try with_reducible rfl
                  simp only [List.getElem_toArray, List.getElem_cons_succ, List.getElem_cons_zero, Act.put, List.setIfInBounds_toArray, List.set_cons_zero, List.set_cons_succ]
                  refine wpAnyH_take (i := 7) (v := ?_) rfl (by kernel_rfl) (by kernel_rfl) (by kernel_rfl) (fun _ _ _ h => h) (Or.inl ⟨by rfl, ?_⟩) (by assumption) ?_
                  rotate_left
                  · intro wq hSq
                    obtain ⟨r0, r1, r2, r3, r4, r5, r6, r7⟩ := hSq
                    go_simp
                    try with_reducible rfl
                  simp only [List.getElem_toArray, List.getElem_cons_succ, List.getElem_cons_zero, Act.put, List.setIfInBounds_toArray, List.set_cons_zero, List.set_cons_succ]
                  refine wpAnyH_take (i := 8) (v := ?_) rfl (by kernel_rfl) (by kernel_rfl) (by kernel_rfl) (fun _ _ _ h => h) (Or.inl ⟨by rfl, ?_⟩) (by assumption) ?_
                  rotate_left
                  · intro wq hSq
                    obtain ⟨r0, r1, r2, r3, r4, r5, r6, r7⟩ := hSq
                    go_simp
                    try with_reducible rfl
                  simp only [List.getElem_toArray, List.getElem_cons_succ, List.getElem_cons_zero, Act.put, List.setIfInBounds_toArray, List.set_cons_zero, List.set_cons_succ]
                  refine wpAnyH_take (i := 9) (v := ?_) rfl (by kernel_rfl) (by kernel_rfl) (by kernel_rfl) (fun _ _ _ h => h) (Or.inl ⟨by rfl, ?_⟩) (by assumption) ?_
                  rotate_left
                  · intro wq hSq
                    obtain ⟨r0, r1, r2, r3, r4, r5, r6, r7⟩ := hSq
                    go_simp
                    try with_reducible rfl
                  simp only [List.getElem_toArray, List.getElem_cons_succ, List.getElem_cons_zero, Act.put, List.setIfInBounds_toArray, List.set_cons_zero, List.set_cons_succ]
                  refine wpAnyH_take (i := 10) (v := .bool false) rfl (by kernel_rfl) (by kernel_rfl) (by kernel_rfl) (fun _ _ _ h => h) (Or.inl ⟨by rfl, ?_⟩) (by assumption) ?_
                  · intro wq hSq
                    obtain ⟨r0, r1, r2, r3, r4, r5, r6, r7⟩ := hSq
                    go_simp
                  simp only [List.getElem_toArray, List.getElem_cons_succ, List.getElem_cons_zero, Act.put, List.setIfInBounds_toArray, List.set_cons_zero, List.set_cons_succ]
                  refine wpAnyH_take (i := 11) (v := ?_) rfl (by kernel_rfl) (by kernel_rfl) (by kernel_rfl) (fun _ _ _ h => h) (Or.inl ⟨by rfl, ?_⟩) (by assumption) ?_
                  rotate_left
                  · intro wq hSq
                    obtain ⟨r0, r1, r2, r3, r4, r5, r6, r7⟩ := hSq
                    go_simp
                    try with_reducible rfl
                  simp only [List.getElem_toArray, List.getElem_cons_succ, List.getElem_cons_zero, Act.put, List.setIfInBounds_toArray, List.set_cons_zero, List.set_cons_succ]
                  refine wpAnyH_take (i := 12) (v := ?_) rfl (by kernel_rfl) (by kernel_rfl) (by kernel_rfl) (fun _ _ _ h => h) (Or.inl ⟨by rfl, ?_⟩) (by assumption) ?_
                  rotate_left
                  · intro wq hSq
                    obtain ⟨r0, r1, r2, r3, r4, r5, r6, r7⟩ := hSq
                    go_simp
                    try with_reducible rfl
                  simp only [List.getElem_toArray, List.getElem_cons_succ, List.getElem_cons_zero, Act.put, List.setIfInBounds_toArray, List.set_cons_zero, List.set_cons_succ]
                  refine wpAnyH_take (i := 13) (v := ?_) rfl (by kernel_rfl) (by kernel_rfl) (by kernel_rfl) (fun _ _ _ h => h) (Or.inl ⟨by rfl, ?_⟩) (by assumption) ?_
                  rotate_left
                  · intro wq hSq
                    obtain ⟨r0, r1, r2, r3, r4, r5, r6, r7⟩ := hSq
                    go_simp
                    try with_reducible rfl
                  simp only [List.getElem_toArray, List.getElem_cons_succ, List.getElem_cons_zero, Act.put, List.setIfInBounds_toArray, List.set_cons_zero, List.set_cons_succ]
                  refine wpAnyH_take (i := 14) (v := ?_) rfl (by kernel_rfl) (by kernel_rfl) (by kernel_rfl) (fun _ _ _ h => h) (Or.inl ⟨by rfl, ?_⟩) (by assumption) ?_
                  rotate_left
                  · intro wq hSq
                    obtain ⟨r0, r1, r2, r3, r4, r5, r6, r7⟩ := hSq
                    go_simp
                    try with_reducible rfl
                  simp only [List.getElem_toArray, List.getElem_cons_succ, List.getElem_cons_zero, Act.put, List.setIfInBounds_toArray, List.set_cons_zero, List.set_cons_succ]
                  refine wpAnyH_take (i := 15) (v := ?_) rfl (by kernel_rfl) (by kernel_rfl) (by kernel_rfl) (fun _ _ _ h => h) (Or.inl ⟨by rfl, ?_⟩) (by assumption) ?_
                  rotate_left
                  · intro wq hSq
                    obtain ⟨r0, r1, r2, r3, r4, r5, r6, r7⟩ := hSq
                    go_simp
                    try with_reducible rfl
                  simp only [List.getElem_toArray, List.getElem_cons_succ, List.getElem_cons_zero, Act.put, List.setIfInBounds_toArray, List.set_cons_zero, List.set_cons_succ]
                  refine wpAnyH_take (i := 16) (v := ?_) rfl (by kernel_rfl) (by kernel_rfl) (by kernel_rfl) (fun _ _ _ h => h) (Or.inl ⟨by rfl, ?_⟩) (by assumption) ?_
                  rotate_left
                  · intro wq hSq
                    obtain ⟨r0, r1, r2, r3, r4, r5, r6, r7⟩ := hSq
                    go_simp
                    try with_reducible rfl
                  simp only [List.getElem_toArray, List.getElem_cons_succ, List.getElem_cons_zero, Act.put, List.setIfInBounds_toArray, List.set_cons_zero, List.set_cons_succ]
                  refine wpAnyH_take (i := 17) (v := ?_) rfl (by kernel_rfl) (by kernel_rfl) (by kernel_rfl) (fun _ _ _ h => h) (Or.inl ⟨by rfl, ?_⟩) (by assumption) ?_
                  rotate_left
                  · intro wq hSq
                    obtain ⟨r0, r1, r2, r3, r4, r5, r6, r7⟩ := hSq
                    go_simp
                    try with_reducible rfl
                  simp only [List.getElem_toArray, List.getElem_cons_succ, List.getElem_cons_zero, Act.put, List.setIfInBounds_toArray, List.set_cons_zero, List.set_cons_succ]
                  refine wpAnyH_ready (rs := [18]) (by kernel_rfl) (by simp) ?_
                  refine AllReadyH.cons rfl (fun Kq hKq => ?_) AllReadyH.nil
                  go_simp
                  refine (same_true t _ _ _ _ _ _ zs _ ?_ ?_).mono ?_
                  · exact (OwnB.toSrc oX.out hxb.out).heap rfl
                  · exact (OwnB.toSrc OW.out hxb.out).heap rfl
                  rintro e w9 ⟨rfl, B9⟩
                  have hS9 := hSt.below B9
                  have B9' : Below W11.heap.size W11 w9 := ⟨B9.os, B9.tape, B9.output, B9.size, B9.block⟩
                  refine hKq.out _ _ hS9 (fun hHeld => ?_)
                  clear hKq Kq hSt
                  refine wpAnyH_take (i := 19) (v := ?_) rfl (by kernel_rfl) (by kernel_rfl) (by kernel_rfl) (fun _ _ _ h => h) (Or.inl ⟨by rfl, ?_⟩) (by assumption) ?_
                  rotate_left
                  · intro wq hSq
                    obtain ⟨r0, r1, r2, r3, r4, r5, r6, r7⟩ := hSq
                    go_simp
                    try with_reducible rfl
                  simp only [List.getElem_toArray, List.getElem_cons_succ, List.getElem_cons_zero, Act.put, List.setIfInBounds_toArray, List.set_cons_zero, List.set_cons_succ]
                  refine wpAnyH_take (i := 20) (v := ?_) rfl (by kernel_rfl) (by kernel_rfl) (by kernel_rfl) (fun _ _ _ h => h) (Or.inl ⟨by rfl, ?_⟩) (by assumption) ?_
                  rotate_left
                  · intro wq hSq
                    obtain ⟨r0, r1, r2, r3, r4, r5, r6, r7⟩ := hSq
                    go_simp
                    try with_reducible rfl
                  simp only [List.getElem_toArray, List.getElem_cons_succ, List.getElem_cons_zero, Act.put, List.setIfInBounds_toArray, List.set_cons_zero, List.set_cons_succ]
                  refine wpAnyH_done (by kernel_rfl) ?_ _
                  have lW : V6.heap.size + 1 < W11.heap.size := (Array.getElem?_eq_some_iff.1 HI.out.loop).1
                  have HI9 := hide (HI.out.kept (B9'.mono (by omega)))
                  have GG9 := hide (GG.out.belowA B9')
                  have oX9 := hide (row_below oX.out B9')
                  have SP := hide (spoil_any (V6.heap.size + 1 + 1) (.slice av mv cv) zs w9 oX9.out (by have := hxl.out; omega) (by have := B9'.size; omega))
                  obtain ⟨r0, r1, r2, r3, r4, r5, r6, r7⟩ := hHeld
                  have H10 : Hid (∀ w10, w9.grownBy w10 (Value.slice av mv cv).ownBlock → RL wr (V6.heap.size + 1) [V6.heap.size, D] (r .busy none) (m : Int) w10 ∧ GB (RS wr (V6.heap.size + 1) (.slice av mv cv)) W1 w10) := fun w10 g10 =>
                    ⟨HI9.out.kept (((GB.refl (fun q => (Value.slice av mv cv).ownBlock = some q) w9).step g10 (fun _ h => h) (fun q hq => hq)).toBelow (by have := B9'.size; omega) (fun q hq => (OwnB.lt oX9.out q hq).1)), GG9.out.step g10 (fun _ h => h) (fun q hq => .inr (.inr hq))⟩
                  clear HI GG oX OW B9 B9' hS9 r1 r2 r3 r4 r5 r6
                  gi_wp2_with (refine ⟨trivial, ?_⟩; gi_at_call 9; refine (CallsIn.inRound _ (callsIn_wide.2 SP.out)).mono ?_; rintro e w10 ⟨rfl, g10⟩; have h10 := hide (H10.out w10 g10); have cN := h10.out.1.ra.nb.cell; have fN := h10.out.1.ra.nb.frozen)
                  have z := h10.out.1.setN ((m : Int) + 1)
                  exact ⟨z.loop, .inl ⟨rfl, by rw [PL.out]; exact z.put _, KOF.out _ h10.out.2.setN.put⟩⟩
              · rintro e W' ⟨⟨v, rfl⟩, ⟨ys, hys, hI⟩ | ⟨pre, _, hI⟩⟩
                · have hl := hI.loop
                  rw [← hrec] at hl
                  refine range_done hl ?_
                  rw [hrec]
                  have h2 := hide (hI.put (r .exhausted none))
                  have yl : ys.length = K := by rw [HK.out, ← hys, List.length_map]
                  rw [yl] at h2
                  clear hl hI hrec i8
                  generalize W'.putObj (V6.heap.size + 1) (.loop (r .exhausted none)) = V9 at h2 ⊢
                  have cN := h2.out.ra.nb.cell
                  have cW := ((h2.out.ra.bel.block _ bW8.out.lt).trans bW8.out |> fun h : Boxed V9 _ _ _ => h.cell)
                  have bR9 := hide ((h2.out.ra.bel.block _ bR8.out.lt).trans bR8.out |> fun h : Boxed V9 _ _ _ => h)
                  have cR := bR9.out.cell
                  have fR := bR9.out.frozen
                  have kk : ((K : Int) == (K : Int)) = true := by simp
                  go_wp2_with (go_at_call 11; refine (namesA _).mono ?_; rintro e w9 ⟨rfl, rfl⟩)
                  show LeavesInM _ _ _ _ _ _ _ _ _
                  have o1 := h2.out.od V6.heap.size (by simp)
                  have rlt := bR8.out.lt
                  exact alls_leave w _ V6.heap.size D _ rfl (bR9.out.set _) ((L8.out.trans (h2.out.ra.bel.mono L8.out.size)).setCell (by simp) _) (by rw [Below.heap_setCell _ _ _ _ (by simp; omega)]; exact h2.out.dfr _ (by simp)) (by rw [Below.heap_setCell _ _ _ _ (by simp; omega)]; exact h2.out.dfr _ (by simp)) (by omega) (by omega) (by omega)
                · exact hI.elim
            subst hA
            refine each_enter rfl ?_
            intro fn hfn
            generalize hrec : recOf fn _ _ _ _ _ = r
            have i10 := RL.enter (Ds := []) i9 (by simp) (r .ready none)
            have z10 : ((W9.alloc (.deferred (some []))).alloc (.loop (r .ready none))).heap.size = W9.heap.size + 1 + 1 := by simp
            generalize (W9.alloc (.deferred (some []))).alloc (.loop (r .ready none)) = W10 at i10 z10 ⊢
            refine (each1_in (W9.heap.size + 1) B aK n cK xs (by omega) (fun pre A => RL wr (W9.heap.size + 1) [W9.heap.size] (r .ready none) (pre.length : Int) A) (fun _ A => ∃ k, RL wr (W9.heap.size + 1) [W9.heap.size] (r .done (some (.exit 4))) k A) wr W10 sK8.out i10.ra.bel bB8.out ?_ ?_ ?_ i10).mono ?_
            · intro pre A C h hb
              rw [z10] at hb
              exact h.kept hb
            · rintro pre A C ⟨k, h⟩ hb
              rw [z10] at hb
              exact ⟨k, h.kept hb⟩
            · rintro pre x W1 v hJ hbel hsz ho hlen _
              rw [z10] at ho ⊢
              have hl := hJ.loop
              have KOF : Hid (∀ W', GB (RS wr (W9.heap.size + 1) v) W1 W' → KO wr (W9.heap.size + 1 + 1) v W1 W') := fun W' hW => KO.of hW hJ.ra.nb hl hJ.ol ho
              rw [← hrec] at hl
              refine range_round (a₁ := ?A20) hfn hl rfl ?_ ?_
              rotate_left
              · intro K hK
                gi_wp2
                exact hK
              · rw [hrec]
                have HI := hide (hJ.put (r .busy none))
                have cN := HI.out.ra.nb.cell
                have fN := HI.out.ra.nb.frozen
                have cL : (W1.putObj (W9.heap.size + 1) (.loop (r .busy none))).cell? ⟨w.heap.size, 0, none⟩ = some (.int .i64 lv) := ((HI.out.ra.bel.block _ bL8.out.lt).trans bL8.out |> fun h : Boxed _ _ _ _ => h.cell)
                have GG : Hid (GB (RS wr (W9.heap.size + 1) v) W1 (W1.putObj (W9.heap.size + 1) (.loop (r .busy none)))) := (GB.refl _ _).put
                have hpl : (pre.length : Int) ≤ 1048576 := by have := nlx.out; omega
                have hpl2 : Hid ((pre ++ [x]).length = pre.length + 1) := by unfold Hid; simp
                clear hl hJ hbel hsz ho hlen hrec HKC hKc
                generalize W1.putObj (W9.heap.size + 1) (.loop (r .busy none)) = W11 at HI cN fN cL GG ⊢
                obtain ⟨P, hP⟩ : ∃ P : Int, (pre.length : Int) = P := ⟨_, rfl⟩
                rw [hP] at cN HI hpl
                have HP := hide hP
                clear hP
                have hP0 : Hid (0 ≤ P) := by unfold Hid; have := HP.out; omega
                by_cases hkl : P = lv
                · have hb : (P == lv) = true := by simpa using hkl
                  clear hkl
                  gi_wp2
                  exact ⟨HI.out.loop, .inr ⟨rfl, ⟨P, HI.out.put _⟩, KOF.out _ GG.out.put⟩⟩
                · have hb : (P == lv) = false := by simpa using hkl
                  have wP : IntKind.i64.wrap (P + 1) = P + 1 := i64_in _ (by have := hP0.out; omega)
                  clear hkl
                  gi_wp2
                  have z := HI.out.setN (P + 1)
                  have e1 : (((pre ++ [x]).length : Nat) : Int) = P + 1 := by rw [hpl2.out]; have := HP.out; omega
                  exact ⟨z.loop, .inl ⟨rfl, by rw [e1]; exact z.put _, KOF.out _ GG.out.setN.put⟩⟩
            · rintro e W' ⟨⟨v, rfl⟩, ⟨ys, _, hI⟩ | ⟨pre, _, k, hI⟩⟩
              · have hl := hI.loop
                rw [← hrec] at hl
                refine range_done hl ?_
                rw [hrec]
                have h2 := hI.put (r .exhausted none)
                exact HKC _ _ _ h2.ra (h2.dfr _ (by simp)) (h2.od _ (by simp)).1
              · have hl := hI.loop
                rw [← hrec] at hl
                refine range_left hl ?_
                rw [hrec]
                have h2 := hI.put (r .exhausted (some (.exit 4)))
                have h3 := hide (HKC k W9.heap.size _ h2.ra (h2.dfr _ (by simp)) (h2.od _ (by simp)).1)
                clear hrec HKC hKc
                generalize (Act.mk _ _ : Act) = A2 at h3 ⊢
                gi_wp2
                exact h3.out
  · refine callsIn_of_wp_marks Try.func3 rfl trivial ?_ rfl
    simp only [Try.ntmps3, List.size_toArray, List.length_cons, List.length_nil, Nat.reduceAdd, Nat.reduceSub, Array.replicate_succ, Array.replicate_zero, List.push_toArray, List.append_toArray, List.nil_append, List.cons_append]
    refine wpIn_wide.2 ?_
    have bLv : Boxed ((w.alloc (.cells #[.int .i64 lv] 3)).alloc (.cells #[.bool false] 4)) w.heap.size 3 (.int .i64 lv) := (Boxed.new w 3 (.int .i64 lv)).alloc _
    have bRs : Boxed ((w.alloc (.cells #[.int .i64 lv] 3)).alloc (.cells #[.bool false] 4)) (w.heap.size + 1) 4 (.bool false) := by
      have h := Boxed.new (w.alloc (.cells #[.int .i64 lv] 3)) 4 (.bool false)
      rwa [World.size_alloc] at h
    have B0 : Below w.heap.size w ((w.alloc (.cells #[.int .i64 lv] 3)).alloc (.cells #[.bool false] 4)) := ((Below.refl _ w).alloc (Nat.le_refl _) _).alloc (by simp) _
    have z0 : ((w.alloc (.cells #[.int .i64 lv] 3)).alloc (.cells #[.bool false] 4)).heap.size = w.heap.size + 2 := by simp
    go_wp2_with fail
    generalize (w.alloc (.cells #[.int .i64 lv] 3)).alloc (.cells #[.bool false] 4) = W0 at bLv bRs B0 z0 ⊢
    have LN := hide hs.hlen
    have BY := hide hs.hbyt
    refine (lent_any ao n cap xs W0 (hs.below B0) (by omega)).mono ?_
    rintro e w1 ⟨g, c, rfl, hc1, hm1, hg1, hl1, HI, B1⟩
    have sI : Src w1 (some ⟨g, 0, none⟩) n c xs := HI.src (by intro x hx; simp at hx; rcases hx with hx | rfl; exact BY.out x hx; omega) n (by omega) (by rw [List.take_append_of_le_length (by rw [LN.out]; exact Nat.le_refl _), List.take_of_length_le (by rw [LN.out]; exact Nat.le_refl _)]) hm1
    go_wp2_with fail
    refine (callsIn_wide.1 (all_in _ n c xs w1 sI (by omega))).mono ?_
    rintro e w2 ⟨v, pl, err, rfl, ⟨q1, q2, q3⟩, B2⟩
    subst q1
    have Q2 := hide q2
    have Q3 := hide q3
    clear q2 q3
    have L1 := B0.trans (B1.mono B0.size)
    have L2 := L1.trans (B2.mono L1.size)
    go_wp2_with fail
    refine (refRow_any ao n cap xs w2 (hs.below L2) (by omega)).mono ?_
    rintro e w3 ⟨a1, a2, c1, c2, K, cs, bad, rfl, hK, RS, hbad, hne, B3⟩
    have L3 := L2.trans (B3.mono L2.size)
    have HNE := hide hne
    have HBD := hide hbad
    have HK := hide hK
    clear hne hbad hK
    have hKn : K ≤ n := by rw [HK.out, ← LN.out]; unfold placesS; have := placesF_len xs (xs.length - 0) 0; omega
    obtain ⟨rfl, csl, hrow, hmat, _, hap⟩ := Q3.out hlt
    have hb0 : bad = 0 := by rw [HBD.out]; unfold rowErr; rw [if_neg hlt]
    subst hb0
    rw [← HK.out] at hrow
    obtain ⟨aV, cV, hv⟩ : ∃ aV cV, v = .slice aV K cV := by
      rcases hrow.2 with ⟨e1, e2⟩ | ⟨gq, cq, _, e1, _⟩
      · exact ⟨none, 0, by rw [e1, e2]⟩
      · exact ⟨_, _, e1⟩
    subst hv
    have hmat : EMatch w2 w1.heap.size csl (((placesS xs 0).map (elS xs)).take K) := by rw [List.take_of_length_le (by simp [HK.out])]; exact hmat
    have k1 : ((K : Int) != (K : Int)) = false := by simp
    clear Q2 Q3 HBD HNE hlt
    generalize ((endS xs (placesS xs 0) : Nat) : Int) = EN
    have k4 : (EN != EN) = false := by simp
    have kI : (K : Int) ≤ 1048576 := by omega
    go_wp2
    have hS : Hid (∀ k q, SB csl k q → w1.heap.size ≤ q ∧ q < w2.heap.size ∧ ∃ cu, ((w3.alloc (.cells #[.slice a1 K c1] 28)).alloc (.cells #[.slice a2 K c2] 29)).heap[q]? = some (.cells cu 5 (0, 0))) := by
      intro k q h
      obtain ⟨h1, h2, cu, h3⟩ := h.at hmat
      have z3 := B3.size
      exact ⟨h1, h2, cu, by rw [Below.heap_alloc _ _ _ (by simp; omega), Below.heap_alloc _ _ _ (by omega), B3.block q h2]; exact h3⟩
    have B35 : Below w3.heap.size w3 ((w3.alloc (.cells #[.slice a1 K c1] 28)).alloc (.cells #[.slice a2 K c2] 29)) := ((Below.refl _ _).alloc (Nat.le_refl _) _).alloc (by simp) _
    have B25 := B3.trans (B35.mono B3.size)
    have B15 := B2.trans (B25.mono B2.size)
    have B05 := B1.trans (B15.mono B1.size)
    have L5 := hide (B0.trans (B05.mono B0.size))
    have bW : Hid (Boxed ((w3.alloc (.cells #[.slice a1 K c1] 28)).alloc (.cells #[.slice a2 K c2] 29)) w3.heap.size 28 (.slice a1 K c1)) := (Boxed.new w3 _ _).alloc _
    have bP : Hid (Boxed ((w3.alloc (.cells #[.slice a1 K c1] 28)).alloc (.cells #[.slice a2 K c2] 29)) (w3.heap.size + 1) 29 (.slice a2 K c2)) := by
      have h := Boxed.new (w3.alloc (.cells #[.slice a1 K c1] 28)) 29 (.slice a2 K c2)
      rwa [World.size_alloc] at h
    have bL5 := hide ((B05.block _ bLv.lt).trans bLv)
    have bR5 := hide ((B05.block _ bRs.lt).trans bRs)
    have RS5 := hide (RS.below B35)
    have HI5 := hide (row_below HI B15)
    have hrow5 := hide (row_below hrow B25)
    have hmat5 := hide (hmat.kept (fun s ys h => row_below h B25))
    have HAP := hide hap
    have Z5 : Hid (w1.heap.size ≤ ((w3.alloc (.cells #[.slice a1 K c1] 28)).alloc (.cells #[.slice a2 K c2] 29)).heap.size ∧ w2.heap.size ≤ w3.heap.size ∧ ((w3.alloc (.cells #[.slice a1 K c1] 28)).alloc (.cells #[.slice a2 K c2] 29)).heap.size = w3.heap.size + 2) := ⟨B15.size, B3.size, by simp⟩
    have Z12 : Hid (w1.heap.size ≤ w2.heap.size ∧ W0.heap.size ≤ w1.heap.size ∧ w.heap.size ≤ W0.heap.size ∧ g < w1.heap.size ∧ W0.heap.size ≤ g) := ⟨B2.size, B1.size, B0.size, hl1, hg1⟩
    clear B35 B25 B15 B05 bLv bRs RS HI hrow hmat hap B0 B1 B2 B3 L1 L2 L3 z0 hl1 hg1 sI
    generalize (w3.alloc (.cells #[.slice a1 K c1] 28)).alloc (.cells #[.slice a2 K c2] 29) = W5 at hS Z5 L5 bW bP bL5 bR5 RS5 HI5 hrow5 hmat5 ⊢
    go_loopw [13] (fun i wr => ∃ k : Nat, k ≤ K ∧ i = .int .i64 k ∧ Hid (GB (SB csl k) W5 wr)) (fun i _ => K - (intOf i).toNat)
    case atStart => exact ⟨0, Nat.zero_le _, rfl, GB.refl _ _⟩
    case round =>
      obtain ⟨k, hk, rfl, HG⟩ := hrel
      have hT : Hid (∀ k q, SB csl k q → ∃ cu, W5.heap[q]? = some (.cells cu 5 (0, 0))) := fun k q h => (hS.out k q h).2.2
      by_cases hkm : k < K
      · have hkI : (k : Int) < (K : Int) := by omega
        have elen : ((placesS xs 0).map (elS xs)).length = K := by rw [List.length_map]; exact HK.out.symm
        obtain ⟨el, hel⟩ : ∃ el, ((placesS xs 0).map (elS xs)).getD k (0, []) = el := ⟨_, rfl⟩
        have hyb : Hid (∀ y ∈ el.2, 0 ≤ y ∧ y < 256) := by
          have hkl : k < (placesS xs 0).length := by rw [← HK.out]; exact hkm
          rw [← hel]
          simp only [List.getD, List.getElem?_map, List.getElem?_eq_getElem hkl, Option.map_some, Option.getD_some]
          exact contS_byte _ (fun y hy => BY.out y (List.mem_of_mem_drop hy))
        have hyl : Hid (el.2.length ≤ 1048576) := by
          have hkl : k < (placesS xs 0).length := by rw [← HK.out]; exact hkm
          rw [← hel]
          simp only [List.getD, List.getElem?_map, List.getElem?_eq_getElem hkl, Option.map_some, Option.getD_some]
          unfold elS contS Hid
          simp only [List.length_drop, List.length_take, LN.out]
          omega
        obtain ⟨ao', m', c', f0, f1, f2⟩ := hmat5.out.get7 k (by rw [List.length_take, elen]; omega)
        have RSR := HG.out.rowSt (hT.out k) RS5.out (fun q h => (hS.out k q h).2.1)
        obtain ⟨ao2, m2, c3, e0, e1, e2⟩ := RSR.hm.get7 k (by rw [elen]; exact hkm)
        have tk : (((placesS xs 0).map (elS xs)).take K).getD k (0, []) = el := by rw [← hel, List.getD, List.getElem?_take, if_pos hkm]; rfl
        rw [tk] at f0 f2
        rw [hel] at e0 e2
        obtain ⟨t, ys⟩ := el
        obtain ⟨gV, hgV⟩ : ∃ gV, aV = some ⟨gV, 0, none⟩ := by
          rcases hrow5.out.2 with ⟨h1, h2⟩ | ⟨g, c, _, h1, _⟩
          · omega
          · simp at h1; exact ⟨g, h1.1⟩
        obtain ⟨gW, hgW⟩ : ∃ gW, a1 = some ⟨gW, 0, none⟩ := by
          rcases RSR.hl.2 with ⟨h1, h2⟩ | ⟨g, c, _, h1, _⟩
          · rw [← HK.out] at h2; omega
          · simp at h1; exact ⟨g, h1.1⟩
        have hrowR := HG.out.rowT (hT.out k) hrow5.out (by decide)
        have fR := HG.out.rowNe f2 (fun q hq hs => by obtain ⟨j, s, hj, h1, h2⟩ := hs; exact HAP.out j k s _ hj h1 f1 q h2 hq)
        have F1 := hide f1
        have f0 := World.ownsRow.cells hrowR (g := gV) (by rw [hgV]; rfl) (2 * k) _ f0
        have f1 := World.ownsRow.cells hrowR (g := gV) (by rw [hgV]; rfl) (2 * k + 1) _ f1
        have e0 := World.ownsRow.cells RSR.hl (g := gW) (by rw [hgW]; rfl) (2 * k) _ e0
        have e1 := World.ownsRow.cells RSR.hl (g := gW) (by rw [hgW]; rfl) (2 * k + 1) _ e1
        rw [add_none, Nat.zero_add, Nat.mul_comm] at f0 f1 e0 e1
        have cW := (HG.out.box (hT.out k) bW.out (by decide)).cell
        have f0 : wr.cell? ⟨gV, k * 2, none⟩ = some (.int .i64 t) := f0
        have e0 : wr.cell? ⟨gW, k * 2, none⟩ = some (.int .i64 t) := e0
        have sF : Hid (Src wr ao' m' c' ys) := OwnB.toSrc fR hyb.out
        have sE : Hid (Src wr ao2 m2 c3 ys) := OwnB.toSrc e2 hyb.out
        have FR : Hid (OwnB wr w1.heap.size (.slice ao' m' c') ys) := fR
        have q1 : gV < wr.heap.size := lt_of_cell f0
        have q2 : gW < wr.heap.size := lt_of_cell e0
        have q3 : w3.heap.size < wr.heap.size := lt_of_cell cW
        have ylen : Hid (ys.length ≤ 1048576) := hyl
        clear f2 e2 tk hel hyb hyl hrowR fR RSR elen
        subst hgV hgW
        go_wp2_with fail
        go_region_held3 (fun W => W.cell? ⟨gV, k * 2, none⟩ = some (.int .i64 t) ∧ W.cell? ⟨gV, k * 2 + 1, none⟩ = some (.slice ao' m' c') ∧ W.cell? ⟨w3.heap.size, 0, none⟩ = some (.slice (some ⟨gW, 0, none⟩) K c1) ∧ W.cell? ⟨gW, k * 2, none⟩ = some (.int .i64 t) ∧ W.cell? ⟨gW, k * 2 + 1, none⟩ = some (.slice ao2 m2 c3))
          (go_keep)
          ((go_at_call 8; refine (same_true t _ _ _ _ _ _ ys _ ?_ ?_).mono ?_; exact sF.out.heap rfl; exact sE.out.heap rfl; rintro e w9 ⟨rfl, B9⟩; have x0 := (B9.cell (p := ⟨gV, k * 2, none⟩) q1).trans f0; have x1 := (B9.cell (p := ⟨gV, k * 2 + 1, none⟩) q1).trans f1; have x2 := (B9.cell (p := ⟨w3.heap.size, 0, none⟩) q3).trans cW; have x3 := (B9.cell (p := ⟨gW, k * 2, none⟩) q2).trans e0; have x4 := (B9.cell (p := ⟨gW, k * 2 + 1, none⟩) q2).trans e1))
        have B9' : Below wr.heap.size wr w9 := ⟨B9.os, B9.tape, B9.output, B9.size, B9.block⟩
        have SP := hide (spoil_any w1.heap.size (.slice ao' m' c') ys w9 (row_below FR.out B9') (by have := ylen.out; omega) (by have h1 := HG.out.size; have h2 := B9'.size; have h3 := Z5.out; omega))
        go_wp2_with (go_at_call 9; refine SP.out.mono ?_; rintro e w10 ⟨rfl, g10⟩)
        go_roundw
        case rel => exact ⟨k + 1, by omega, by go_num, (HG.out.belowA B9').step g10 (fun q h => h.mono) (fun q hq => ⟨k, _, by omega, F1.out, hq⟩)⟩
        case measure => simp [intOf] <;> omega
      · have hkE : K = k := by omega
        subst hkE
        have GBo := HG.out
        have z5 := Z5.out
        have z12 := Z12.out
        have bL6 := GBo.box (hT.out _) bL5.out (by decide)
        have bR6 := GBo.box (hT.out _) bR5.out (by decide)
        have bW6 := GBo.box (hT.out _) bW.out (by decide)
        have bP6 := GBo.box (hT.out _) bP.out (by decide)
        have RS6 := GBo.rowSt (hT.out _) RS5.out (fun q h => (hS.out _ q h).2.1)
        have HI6 : OwnB wr W0.heap.size (.slice (some ⟨g, 0, none⟩) (n + 1) c) (xs ++ [90]) := GBo.rowNe HI5.out (fun q hq hs => by have h1 := (hS.out _ q hs).1; simp [Value.ownBlock] at hq; omega)
        have L6 : Below w.heap.size w wr := L5.out.trans (GBo.toBelow (by omega) (fun q h => by have := (hS.out _ q h).1; omega))
        have sI6 : Src wr (some ⟨g, 0, none⟩) n c xs := OwnB.src HI6 (by intro x hx; simp at hx; rcases hx with hx | rfl; exact BY.out x hx; omega) n (by omega) (by rw [List.take_append_of_le_length (by rw [LN.out]; exact Nat.le_refl _), List.take_of_length_le (by rw [LN.out]; exact Nat.le_refl _)]) hm1
        have Z6 : Hid (w3.heap.size + 2 ≤ wr.heap.size ∧ g < w3.heap.size ∧ g < w2.heap.size) := by have h := GBo.size; exact ⟨by omega, by omega, by omega⟩
        have EC := hide (each_any _ n c xs wr sI6 (by omega))
        have qn := fun (X : World) (B : Nat) => each_none X B
        clear GBo z5 z12 HG hT hS bL5 bR5 bW bP RS5 HI5 L5 hrow5 hmat5 HAP Z5 hk sI6
        generalize wr = W6 at *
        go_wp2_with (go_at_call 10; refine EC.out.mono ?_; rintro e w7 ⟨aK, cK, B, rfl, HKp, hB, bB, B7⟩)
        have HI7 := hide (row_below HI6 B7)
        have nI : (n : Int) ≤ 1048576 := by omega
        go_loopw [15] (fun i wr => ∃ (k : Nat) (zs : List Int), k ≤ n ∧ i = .int .i64 k ∧ Hid (OwnB wr W0.heap.size (.slice (some ⟨g, 0, none⟩) (n + 1) c) zs) ∧ w7.grownBy wr (some g)) (fun i _ => n - (intOf i).toNat)
        case atStart => exact ⟨0, _, Nat.zero_le _, rfl, HI7, World.grownBy.refl _ _⟩
        case round =>
          obtain ⟨k, zs, hk, rfl, HZ, hg⟩ := hrel
          by_cases hkn : k < n
          · have hkI : (k : Int) < (n : Int) := by omega
            have hcell := HZ.out.cell k (by rw [← HZ.out.eqlen]; omega)
            have hfr := HZ.out.frozen k
            have HST := hide (fun u => HZ.out.stored k u)
            generalize zs.getD k 0 = z at hcell
            go_wp2
            go_roundw
            case rel => exact ⟨k + 1, _, by omega, by go_num, (HST.out _).1, grown_trans hg (HST.out _).2⟩
            case measure => simp [intOf] <;> omega
          · have hkI : ¬ (k : Int) < (n : Int) := by omega
            have G8 : GB (fun q => q = g) w7 wr := (GB.refl _ _).step hg (fun _ h => h) (fun q hq => by cases hq; rfl)
            have hT8 : ∀ q, q = g → ∃ cu, w7.heap[q]? = some (.cells cu 5 (0, 0)) := fun q hq => by subst hq; exact row_type HI7.out q rfl
            have z6 := Z6.out
            have z7 := B7.size
            have bL8 := hide (G8.box hT8 ((B7.block _ bL6.lt).trans bL6) (by decide))
            have bR8 := hide (G8.box hT8 ((B7.block _ bR6.lt).trans bR6) (by decide))
            have bW8 := hide (G8.box hT8 ((B7.block _ bW6.lt).trans bW6) (by decide))
            have bP8 := hide (G8.box hT8 ((B7.block _ bP6.lt).trans bP6) (by decide))
            have RS8 := hide (G8.rowSt hT8 (RS6.below B7) (fun q h => by subst h; omega))
            have bB8 := hide (G8.box hT8 bB (by decide))
            have sK8 : Hid (Src wr aK n cK xs) := (G8.rowNe HKp (fun q hq h => by have := (OwnB.lt HKp q hq).1; omega) |> fun h => OwnB.toSrc h BY.out)
            have L7 := L6.trans (B7.mono L6.size)
            have z12 := Z12.out
            have L8 := hide (L7.trans (G8.toBelow (N := w.heap.size) (by omega) (fun q h => by omega)))
            clear G8 hT8 HZ hg HI7 HKp bB B7 RS6 bL6 bR6 bW6 bP6 HI6 L6 L7 EC
            have i9 : RA wr 0 (wr.alloc (.cells #[.int .i64 0] 3)) := ⟨(Below.refl _ _).alloc (Nat.le_refl _) _, Boxed.new wr _ _⟩
            have nlx : Hid (xs.length ≤ 1048576) := by unfold Hid; rw [LN.out]; exact hn
            go_wp2_with fail
            rename_i Kc hKc
            generalize wr.alloc (.cells #[.int .i64 0] 3) = W9 at i9 ⊢
            generalize hA : Act.mk _ _ = A
            have HKC : ∀ (k : Int) D W2, RA wr k W2 → W2.heap[D]? = some (.deferred (some [])) → wr.heap.size < D → Kc { A with defers := { target := .collected D, args := #[] } :: A.defers } W2 := by
              intro k D W2 hra hd hD
              subst hA
              refine hKc _ _ ?_
              have cN := hra.nb.cell
              have fN := hra.nb.frozen
              have i7 := hra.setN 0
              have hd7 : (W2.setCell ⟨wr.heap.size, 0, none⟩ (.int .i64 0)).heap[D]? = some (.deferred (some [])) := by rw [Below.heap_setCell _ _ _ _ (by simp; omega)]; exact hd
              have I7 := hide (And.intro i7 hd7)
              clear i7 hd7 hd hra i9 hKc
              go_wp2_with fail
              obtain ⟨i7, hd7⟩ := I7.out
              clear I7 cN fN
              generalize W2.setCell ⟨wr.heap.size, 0, none⟩ (.int .i64 0) = V6 at i7 hd7 ⊢
              refine each_enter rfl ?_
              intro fn hfn
              generalize hrec : recOf fn _ _ _ _ _ = r
              have i8 := RL.enter (Ds := [D]) i7 (by intro x hx; simp at hx; subst hx; exact ⟨hd7, hD⟩) (r .ready none)
              have z8 : ((V6.alloc (.deferred (some []))).alloc (.loop (r .ready none))).heap.size = V6.heap.size + 1 + 1 := by simp
              have hDlt : D < V6.heap.size := (Array.getElem?_eq_some_iff.1 hd7).1
              generalize (V6.alloc (.deferred (some []))).alloc (.loop (r .ready none)) = V8 at i8 z8 ⊢
              refine (each1_in (V6.heap.size + 1) B aK n cK xs (by omega) (fun pre A => RL wr (V6.heap.size + 1) [V6.heap.size, D] (r .ready none) (pre.length : Int) A) (fun _ _ => False) wr V8 sK8.out i8.ra.bel bB8.out ?_ ?_ ?_ i8).mono ?_
              · intro pre A C h hb
                rw [z8] at hb
                exact h.kept hb
              · intro pre A C h
                exact h.elim
              · rintro pre x W1 v hJ hbel hsz ho hlen hpfx
                rw [z8] at ho ⊢
                have hl := hJ.loop
                have KOF : Hid (∀ W', GB (RS wr (V6.heap.size + 1) v) W1 W' → KO wr (V6.heap.size + 1 + 1) v W1 W') := fun W' hW => KO.of hW hJ.ra.nb hl hJ.ol ho
                rw [← hrec] at hl
                obtain ⟨av, mv, cv, hv⟩ : ∃ av mv cv, v = .slice av mv cv := by
                  rcases ho.split with ⟨h, _⟩ | ⟨gq, cq, h, _⟩
                  · exact ⟨_, _, _, h⟩
                  · exact ⟨_, _, _, h⟩
                subst hv
                have hz1 : V6.heap.size + 1 < W1.heap.size := (Array.getElem?_eq_some_iff.1 hJ.loop).1
                obtain ⟨t, ht⟩ : ∃ t, (findS (xs.drop x.1)).1 = t := ⟨_, rfl⟩
                rw [ht]
                have hl1 : (W1.alloc (.cells #[.int .i64 t, .slice av mv cv] 34)).heap[V6.heap.size + 1]? = some (.loop (recOf fn _ _ _ _ _ .ready none)) := (Below.heap_alloc _ _ _ (by omega)).trans hl
                refine range_roundA (a₁ := ?B2K) hfn hl rfl hl1 ?_ ?_
                rotate_left
                · intro KK hKK
                  gi_wp2
                  exact hKK
                · rw [hrec]
                  have GA : GB (RS wr (V6.heap.size + 1) (.slice av mv cv)) W1 (W1.alloc (.cells #[.int .i64 t, .slice av mv cv] 34)) := (GB.refl _ _).belowA ((Below.refl _ _).alloc (Nat.le_refl _) _)
                  have hJ1 := hJ.kept (C := W1.alloc (.cells #[.int .i64 t, .slice av mv cv] 34)) ((Below.refl _ _).alloc (by omega) _)
                  have HI := hide (hJ1.put (r .busy none))
                  have GG := hide (GA.put (o := .loop (r .busy none)))
                  have oX := hide (((GB.refl (fun q => q = V6.heap.size + 1) W1).belowA ((Below.refl _ _).alloc (Nat.le_refl _) (.cells #[.int .i64 t, .slice av mv cv] 34))).step (grownBy_putObj' _ (V6.heap.size + 1) (.loop (r .busy none))) (fun _ h => h) (fun q hq => by cases hq; rfl) |>.rowNe ho (fun q hq hs => by have := (OwnB.lt ho q hq).1; omega))
                  have xb : ((W1.alloc (.cells #[.int .i64 t, .slice av mv cv] 34)).putObj (V6.heap.size + 1) (.loop (r .busy none))).heap[W1.heap.size]? = some (.cells #[.int .i64 t, .slice av mv cv] 34) := (World.putObj_heap_other (by omega)).trans (World.alloc_heap_new _ _)
                  have hxb : Hid (∀ y ∈ contS (xs.drop x.1), 0 ≤ y ∧ y < 256) := contS_byte _ (fun y hy => BY.out y (List.mem_of_mem_drop hy))
                  have hxl : Hid ((contS (xs.drop x.1)).length ≤ 1048576) := by
                    have := nlx.out
                    unfold Hid contS
                    simp only [List.length_drop, List.length_take]
                    omega
                  clear GA hJ1 hl1 hl hJ hbel hsz ho hlen i8 hrec
                  generalize (W1.alloc (.cells #[.int .i64 t, .slice av mv cv] 34)).putObj (V6.heap.size + 1) (.loop (r .busy none)) = W11 at HI GG oX xb ⊢
                  obtain ⟨s0, s1⟩ := boxed2 xb
                  have xlt : W1.heap.size < W11.heap.size := (Array.getElem?_eq_some_iff.1 xb).1
                  have s2 := ((HI.out.ra.bel.block _ bW8.out.lt).trans bW8.out |> fun h : Boxed W11 _ _ _ => h.cell)
                  have s3 := ((HI.out.ra.bel.block _ bP8.out.lt).trans bP8.out |> fun h : Boxed W11 _ _ _ => h.cell)
                  obtain ⟨hmK, gW, gP, ao2, m2, c3, q1, q2, s4, s5, s6, s7⟩ := row_at (RS8.out.below HI.out.ra.bel) HK.out (pre_at hpfx)
                  have s8 := HI.out.ra.nb.cell
                  rw [ht] at s4
                  have HT := hide ht
                  have OW := hide s6
                  have PL : Hid ((((pre ++ [x]).length : Nat) : Int) = (pre.length : Int) + 1) := by unfold Hid; simp
                  subst q1 q2
                  clear xb ht s6 hpfx hz1
                  obtain ⟨zs, hzs⟩ : ∃ zs, contS (xs.drop x.1) = zs := ⟨_, rfl⟩
                  rw [hzs] at oX OW hxb hxl
                  clear hzs HT
                  generalize pre.length = m at *
                  generalize (x.1 : Int) = px at *
                  have mI : (m : Int) < (K : Int) := by omega
                  have mG : ¬ (K : Int) ≤ (m : Int) := by omega
                  have pxx : (px != px) = false := by simp
                  have wP : IntKind.i64.wrap ((m : Int) + 1) = (m : Int) + 1 := i64_in _ (by omega)
                  have hSt : SAt wr.heap.size w3.heap.size gW gP W1.heap.size K c1 c2 m t px av mv cv ao2 m2 c3 W11.drew := ⟨s8, s2, s3, s7, s4, s5, s0, s1⟩
                  clear s8 s2 s3 s7 s4 s5 s0 s1
                  gi_wp2
                  refine wpIn_region_heldR (SAt wr.heap.size w3.heap.size gW gP W1.heap.size K c1 c2 m t px av mv cv ao2 m2 c3) (fun ⟨_, _, h⟩ => h) (by kernel_rfl) (by kernel_rfl) ?_
                  refine wpAnyH_take (i := 0) (v := ?_) rfl (by kernel_rfl) (by kernel_rfl) (by kernel_rfl) (fun _ _ _ h => h) (Or.inl ⟨by rfl, ?_⟩) (by assumption) ?_
                  rotate_left
                  · intro wq hSq
                    obtain ⟨r0, r1, r2, r3, r4, r5, r6, r7⟩ := hSq
                    go_simp
                    try with_reducible rfl
                  simp only [List.getElem_toArray, List.getElem_cons_zero, Act.put, List.setIfInBounds_toArray, List.set_cons_zero, List.set_cons_succ]
                  refine wpAnyH_take (i := 1) (v := ?_) rfl (by kernel_rfl) (by kernel_rfl) (by kernel_rfl) (fun _ _ _ h => h) (Or.inl ⟨by rfl, ?_⟩) (by assumption) ?_
                  rotate_left
                  · intro wq hSq
                    obtain ⟨r0, r1, r2, r3, r4, r5, r6, r7⟩ := hSq
                    go_simp
                    try with_reducible rfl
                  simp only [List.getElem_toArray, List.getElem_cons_succ, List.getElem_cons_zero, Act.put, List.setIfInBounds_toArray, List.set_cons_zero, List.set_cons_succ]
                  refine wpAnyH_take (i := 2) (v := ?_) rfl (by kernel_rfl) (by kernel_rfl) (by kernel_rfl) (fun _ _ _ h => h) (Or.inl ⟨by rfl, ?_⟩) (by assumption) ?_
                  rotate_left
                  · intro wq hSq
                    obtain ⟨r0, r1, r2, r3, r4, r5, r6, r7⟩ := hSq
                    go_simp
                    try with_reducible rfl
                  simp only [List.getElem_toArray, List.getElem_cons_succ, List.getElem_cons_zero, Act.put, List.setIfInBounds_toArray, List.set_cons_zero, List.set_cons_succ]
                  refine wpAnyH_take (i := 3) (v := .bool false) rfl (by kernel_rfl) (by kernel_rfl) (by kernel_rfl) (fun _ _ _ h => h) (Or.inl ⟨by rfl, ?_⟩) (by assumption) ?_
                  · intro wq hSq
                    obtain ⟨r0, r1, r2, r3, r4, r5, r6, r7⟩ := hSq
                    go_simp
                  simp only [List.getElem_toArray, List.getElem_cons_succ, List.getElem_cons_zero, Act.put, List.setIfInBounds_toArray, List.set_cons_zero, List.set_cons_succ]
                  refine wpAnyH_take (i := 4) (v := ?_) rfl (by kernel_rfl) (by kernel_rfl) (by kernel_rfl) (fun _ _ _ h => h) (Or.inl ⟨by rfl, ?_⟩) (by assumption) ?_
                  rotate_left
                  · intro wq hSq
                    obtain ⟨r0, r1, r2, r3, r4, r5, r6, r7⟩ := hSq
                    go_simp
                    try with_reducible rfl
                  simp only [List.getElem_toArray, List.getElem_cons_succ, List.getElem_cons_zero, Act.put, List.setIfInBounds_toArray, List.set_cons_zero, List.set_cons_succ]
                  refine wpAnyH_take (i := 5) (v := ?_) rfl (by kernel_rfl) (by kernel_rfl) (by kernel_rfl) (fun _ _ _ h => h) (Or.inl ⟨by rfl, ?_⟩) (by assumption) ?_
                  rotate_left
                  · intro wq hSq
                    obtain ⟨r0, r1, r2, r3, r4, r5, r6, r7⟩ := hSq
                    go_simp
                    try with_reducible rfl
                  simp only [List.getElem_toArray, List.getElem_cons_succ, List.getElem_cons_zero, Act.put, List.setIfInBounds_toArray, List.set_cons_zero, List.set_cons_succ]
                  refine wpAnyH_take (i := 6) (v := ?_) rfl (by kernel_rfl) (by kernel_rfl) (by kernel_rfl) (fun _ _ _ h => h) (Or.inl ⟨by rfl, ?_⟩) (by assumption) ?_
                  rotate_left
                  · intro wq hSq
                    obtain ⟨r0, r1, r2, r3, r4, r5, r6, r7⟩ := hSq
                    go_simp
                    try with_reducible rfl
                  simp only [List.getElem_toArray, List.getElem_cons_succ, List.getElem_cons_zero, Act.put, List.setIfInBounds_toArray, List.set_cons_zero, List.set_cons_succ]
                  refine wpAnyH_take (i := 7) (v := ?_) rfl (by kernel_rfl) (by kernel_rfl) (by kernel_rfl) (fun _ _ _ h => h) (Or.inl ⟨by rfl, ?_⟩) (by assumption) ?_
                  rotate_left
                  · intro wq hSq
                    obtain ⟨r0, r1, r2, r3, r4, r5, r6, r7⟩ := hSq
                    go_simp
                    try with_reducible rfl
                  simp only [List.getElem_toArray, List.getElem_cons_succ, List.getElem_cons_zero, Act.put, List.setIfInBounds_toArray, List.set_cons_zero, List.set_cons_succ]
                  refine wpAnyH_take (i := 8) (v := ?_) rfl (by kernel_rfl) (by kernel_rfl) (by kernel_rfl) (fun _ _ _ h => h) (Or.inl ⟨by rfl, ?_⟩) (by assumption) ?_
                  rotate_left
                  · intro wq hSq
                    obtain ⟨r0, r1, r2, r3, r4, r5, r6, r7⟩ := hSq
                    go_simp
                    try with_reducible rfl
                  simp only [List.getElem_toArray, List.getElem_cons_succ, List.getElem_cons_zero, Act.put, List.setIfInBounds_toArray, List.set_cons_zero, List.set_cons_succ]
                  refine wpAnyH_take (i := 9) (v := ?_) rfl (by kernel_rfl) (by kernel_rfl) (by kernel_rfl) (fun _ _ _ h => h) (Or.inl ⟨by rfl, ?_⟩) (by assumption) ?_
                  rotate_left
                  · intro wq hSq
                    obtain ⟨r0, r1, r2, r3, r4, r5, r6, r7⟩ := hSq
                    go_simp
                    try with_reducible rfl
                  simp only [List.getElem_toArray, List.getElem_cons_succ, List.getElem_cons_zero, Act.put, List.setIfInBounds_toArray, List.set_cons_zero, List.set_cons_succ]
                  refine wpAnyH_take (i := 10) (v := .bool false) rfl (by kernel_rfl) (by kernel_rfl) (by kernel_rfl) (fun _ _ _ h => h) (Or.inl ⟨by rfl, ?_⟩) (by assumption) ?_
                  · intro wq hSq
                    obtain ⟨r0, r1, r2, r3, r4, r5, r6, r7⟩ := hSq
                    go_simp
                  simp only [List.getElem_toArray, List.getElem_cons_succ, List.getElem_cons_zero, Act.put, List.setIfInBounds_toArray, List.set_cons_zero, List.set_cons_succ]
                  refine wpAnyH_take (i := 11) (v := ?_) rfl (by kernel_rfl) (by kernel_rfl) (by kernel_rfl) (fun _ _ _ h => h) (Or.inl ⟨by rfl, ?_⟩) (by assumption) ?_
                  rotate_left
                  · intro wq hSq
                    obtain ⟨r0, r1, r2, r3, r4, r5, r6, r7⟩ := hSq
                    go_simp
                    try with_reducible rfl
                  simp only [List.getElem_toArray, List.getElem_cons_succ, List.getElem_cons_zero, Act.put, List.setIfInBounds_toArray, List.set_cons_zero, List.set_cons_succ]
                  refine wpAnyH_take (i := 12) (v := ?_) rfl (by kernel_rfl) (by kernel_rfl) (by kernel_rfl) (fun _ _ _ h => h) (Or.inl ⟨by rfl, ?_⟩) (by assumption) ?_
                  rotate_left
                  · intro wq hSq
                    obtain ⟨r0, r1, r2, r3, r4, r5, r6, r7⟩ := hSq
                    go_simp
                    try with_reducible rfl
                  simp only [List.getElem_toArray, List.getElem_cons_succ, List.getElem_cons_zero, Act.put, List.setIfInBounds_toArray, List.set_cons_zero, List.set_cons_succ]
                  refine wpAnyH_take (i := 13) (v := ?_) rfl (by kernel_rfl) (by kernel_rfl) (by kernel_rfl) (fun _ _ _ h => h) (Or.inl ⟨by rfl, ?_⟩) (by assumption) ?_
                  rotate_left
                  · intro wq hSq
                    obtain ⟨r0, r1, r2, r3, r4, r5, r6, r7⟩ := hSq
                    go_simp
                    try with_reducible rfl
                  simp only [List.getElem_toArray, List.getElem_cons_succ, List.getElem_cons_zero, Act.put, List.setIfInBounds_toArray, List.set_cons_zero, List.set_cons_succ]
                  refine wpAnyH_take (i := 14) (v := ?_) rfl (by kernel_rfl) (by kernel_rfl) (by kernel_rfl) (fun _ _ _ h => h) (Or.inl ⟨by rfl, ?_⟩) (by assumption) ?_
                  rotate_left
                  · intro wq hSq
                    obtain ⟨r0, r1, r2, r3, r4, r5, r6, r7⟩ := hSq
                    go_simp
                    try with_reducible rfl
                  simp only [List.getElem_toArray, List.getElem_cons_succ, List.getElem_cons_zero, Act.put, List.setIfInBounds_toArray, List.set_cons_zero, List.set_cons_succ]
                  refine wpAnyH_take (i := 15) (v := ?_) rfl (by kernel_rfl) (by kernel_rfl) (by kernel_rfl) (fun _ _ _ h => h) (Or.inl ⟨by rfl, ?_⟩) (by assumption) ?_
                  rotate_left
                  · intro wq hSq
                    obtain ⟨r0, r1, r2, r3, r4, r5, r6, r7⟩ := hSq
                    go_simp
                    try with_reducible rfl
                  simp only [List.getElem_toArray, List.getElem_cons_succ, List.getElem_cons_zero, Act.put, List.setIfInBounds_toArray, List.set_cons_zero, List.set_cons_succ]
                  refine wpAnyH_take (i := 16) (v := ?_) rfl (by kernel_rfl) (by kernel_rfl) (by kernel_rfl) (fun _ _ _ h => h) (Or.inl ⟨by rfl, ?_⟩) (by assumption) ?_
                  rotate_left
                  · intro wq hSq
                    obtain ⟨r0, r1, r2, r3, r4, r5, r6, r7⟩ := hSq
                    go_simp
                    try with_reducible rfl
                  simp only [List.getElem_toArray, List.getElem_cons_succ, List.getElem_cons_zero, Act.put, List.setIfInBounds_toArray, List.set_cons_zero, List.set_cons_succ]
                  refine wpAnyH_take (i := 17) (v := ?_) rfl (by kernel_rfl) (by kernel_rfl) (by kernel_rfl) (fun _ _ _ h => h) (Or.inl ⟨by rfl, ?_⟩) (by assumption) ?_
                  rotate_left
                  · intro wq hSq
                    obtain ⟨r0, r1, r2, r3, r4, r5, r6, r7⟩ := hSq
                    go_simp
                    try with_reducible rfl
                  simp only [List.getElem_toArray, List.getElem_cons_succ, List.getElem_cons_zero, Act.put, List.setIfInBounds_toArray, List.set_cons_zero, List.set_cons_succ]
                  refine wpAnyH_ready (rs := [18]) (by kernel_rfl) (by simp) ?_
                  refine AllReadyH.cons rfl (fun Kq hKq => ?_) AllReadyH.nil
                  go_simp
                  refine (same_true t _ _ _ _ _ _ zs _ ?_ ?_).mono ?_
                  · exact (OwnB.toSrc oX.out hxb.out).heap rfl
                  · exact (OwnB.toSrc OW.out hxb.out).heap rfl
                  rintro e w9 ⟨rfl, B9⟩
                  have hS9 := hSt.below B9
                  have B9' : Below W11.heap.size W11 w9 := ⟨B9.os, B9.tape, B9.output, B9.size, B9.block⟩
                  refine hKq.out _ _ hS9 (fun hHeld => ?_)
                  clear hKq Kq hSt
                  refine wpAnyH_take (i := 19) (v := ?_) rfl (by kernel_rfl) (by kernel_rfl) (by kernel_rfl) (fun _ _ _ h => h) (Or.inl ⟨by rfl, ?_⟩) (by assumption) ?_
                  rotate_left
                  · intro wq hSq
                    obtain ⟨r0, r1, r2, r3, r4, r5, r6, r7⟩ := hSq
                    go_simp
                    try with_reducible rfl
                  simp only [List.getElem_toArray, List.getElem_cons_succ, List.getElem_cons_zero, Act.put, List.setIfInBounds_toArray, List.set_cons_zero, List.set_cons_succ]
                  refine wpAnyH_take (i := 20) (v := ?_) rfl (by kernel_rfl) (by kernel_rfl) (by kernel_rfl) (fun _ _ _ h => h) (Or.inl ⟨by rfl, ?_⟩) (by assumption) ?_
                  rotate_left
                  · intro wq hSq
                    obtain ⟨r0, r1, r2, r3, r4, r5, r6, r7⟩ := hSq
                    go_simp
                    try with_reducible rfl
                  simp only [List.getElem_toArray, List.getElem_cons_succ, List.getElem_cons_zero, Act.put, List.setIfInBounds_toArray, List.set_cons_zero, List.set_cons_succ]
                  refine wpAnyH_done (by kernel_rfl) ?_ _
                  have lW : V6.heap.size + 1 < W11.heap.size := (Array.getElem?_eq_some_iff.1 HI.out.loop).1
                  have HI9 := hide (HI.out.kept (B9'.mono (by omega)))
                  have GG9 := hide (GG.out.belowA B9')
                  have oX9 := hide (row_below oX.out B9')
                  have SP := hide (spoil_any (V6.heap.size + 1 + 1) (.slice av mv cv) zs w9 oX9.out (by have := hxl.out; omega) (by have := B9'.size; omega))
                  obtain ⟨r0, r1, r2, r3, r4, r5, r6, r7⟩ := hHeld
                  have H10 : Hid (∀ w10, w9.grownBy w10 (Value.slice av mv cv).ownBlock → RL wr (V6.heap.size + 1) [V6.heap.size, D] (r .busy none) (m : Int) w10 ∧ GB (RS wr (V6.heap.size + 1) (.slice av mv cv)) W1 w10) := fun w10 g10 =>
                    ⟨HI9.out.kept (((GB.refl (fun q => (Value.slice av mv cv).ownBlock = some q) w9).step g10 (fun _ h => h) (fun q hq => hq)).toBelow (by have := B9'.size; omega) (fun q hq => (OwnB.lt oX9.out q hq).1)), GG9.out.step g10 (fun _ h => h) (fun q hq => .inr (.inr hq))⟩
                  clear HI GG oX OW B9 B9' hS9 r1 r2 r3 r4 r5 r6
                  gi_wp2_with (refine ⟨trivial, ?_⟩; gi_at_call 9; refine (CallsIn.inRound _ (callsIn_wide.2 SP.out)).mono ?_; rintro e w10 ⟨rfl, g10⟩; have h10 := hide (H10.out w10 g10); have cN := h10.out.1.ra.nb.cell; have fN := h10.out.1.ra.nb.frozen)
                  have z := h10.out.1.setN ((m : Int) + 1)
                  exact ⟨z.loop, .inl ⟨rfl, by rw [PL.out]; exact z.put _, KOF.out _ h10.out.2.setN.put⟩⟩
              · rintro e W' ⟨⟨v, rfl⟩, ⟨ys, hys, hI⟩ | ⟨pre, _, hI⟩⟩
                · have hl := hI.loop
                  rw [← hrec] at hl
                  refine range_done hl ?_
                  rw [hrec]
                  have h2 := hide (hI.put (r .exhausted none))
                  have yl : ys.length = K := by rw [HK.out, ← hys, List.length_map]
                  rw [yl] at h2
                  clear hl hI hrec i8
                  generalize W'.putObj (V6.heap.size + 1) (.loop (r .exhausted none)) = V9 at h2 ⊢
                  have cN := h2.out.ra.nb.cell
                  have cW := ((h2.out.ra.bel.block _ bW8.out.lt).trans bW8.out |> fun h : Boxed V9 _ _ _ => h.cell)
                  have bR9 := hide ((h2.out.ra.bel.block _ bR8.out.lt).trans bR8.out |> fun h : Boxed V9 _ _ _ => h)
                  have cR := bR9.out.cell
                  have fR := bR9.out.frozen
                  have kk : ((K : Int) == (K : Int)) = true := by simp
                  go_wp2_with (go_at_call 11; refine (namesA _).mono ?_; rintro e w9 ⟨rfl, rfl⟩)
                  show LeavesInM _ _ _ _ _ _ _ _ _
                  have o1 := h2.out.od V6.heap.size (by simp)
                  have rlt := bR8.out.lt
                  exact alls_leave w _ V6.heap.size D _ rfl (bR9.out.set _) ((L8.out.trans (h2.out.ra.bel.mono L8.out.size)).setCell (by simp) _) (by rw [Below.heap_setCell _ _ _ _ (by simp; omega)]; exact h2.out.dfr _ (by simp)) (by rw [Below.heap_setCell _ _ _ _ (by simp; omega)]; exact h2.out.dfr _ (by simp)) (by omega) (by omega) (by omega)
                · exact hI.elim
            subst hA
            refine each_enter rfl ?_
            intro fn hfn
            generalize hrec : recOf fn _ _ _ _ _ = r
            have i10 := RL.enter (Ds := []) i9 (by simp) (r .ready none)
            have z10 : ((W9.alloc (.deferred (some []))).alloc (.loop (r .ready none))).heap.size = W9.heap.size + 1 + 1 := by simp
            generalize (W9.alloc (.deferred (some []))).alloc (.loop (r .ready none)) = W10 at i10 z10 ⊢
            refine (each1_in (W9.heap.size + 1) B aK n cK xs (by omega) (fun pre A => RL wr (W9.heap.size + 1) [W9.heap.size] (r .ready none) (pre.length : Int) A) (fun _ A => ∃ k, RL wr (W9.heap.size + 1) [W9.heap.size] (r .done (some (.exit 4))) k A) wr W10 sK8.out i10.ra.bel bB8.out ?_ ?_ ?_ i10).mono ?_
            · intro pre A C h hb
              rw [z10] at hb
              exact h.kept hb
            · rintro pre A C ⟨k, h⟩ hb
              rw [z10] at hb
              exact ⟨k, h.kept hb⟩
            · rintro pre x W1 v hJ hbel hsz ho hlen _
              rw [z10] at ho ⊢
              have hl := hJ.loop
              have KOF : Hid (∀ W', GB (RS wr (W9.heap.size + 1) v) W1 W' → KO wr (W9.heap.size + 1 + 1) v W1 W') := fun W' hW => KO.of hW hJ.ra.nb hl hJ.ol ho
              rw [← hrec] at hl
              refine range_round (a₁ := ?A2K) hfn hl rfl ?_ ?_
              rotate_left
              · intro K hK
                gi_wp2
                exact hK
              · rw [hrec]
                have HI := hide (hJ.put (r .busy none))
                have cN := HI.out.ra.nb.cell
                have fN := HI.out.ra.nb.frozen
                have cL : (W1.putObj (W9.heap.size + 1) (.loop (r .busy none))).cell? ⟨w.heap.size, 0, none⟩ = some (.int .i64 lv) := ((HI.out.ra.bel.block _ bL8.out.lt).trans bL8.out |> fun h : Boxed _ _ _ _ => h.cell)
                have GG : Hid (GB (RS wr (W9.heap.size + 1) v) W1 (W1.putObj (W9.heap.size + 1) (.loop (r .busy none)))) := (GB.refl _ _).put
                have hpl : (pre.length : Int) ≤ 1048576 := by have := nlx.out; omega
                have hpl2 : Hid ((pre ++ [x]).length = pre.length + 1) := by unfold Hid; simp
                clear hl hJ hbel hsz ho hlen hrec HKC hKc
                generalize W1.putObj (W9.heap.size + 1) (.loop (r .busy none)) = W11 at HI cN fN cL GG ⊢
                obtain ⟨P, hP⟩ : ∃ P : Int, (pre.length : Int) = P := ⟨_, rfl⟩
                rw [hP] at cN HI hpl
                have HP := hide hP
                clear hP
                have hP0 : Hid (0 ≤ P) := by unfold Hid; have := HP.out; omega
                by_cases hkl : P = lv
                · have hb : (P == lv) = true := by simpa using hkl
                  clear hkl
                  gi_wp2
                  exact ⟨HI.out.loop, .inr ⟨rfl, ⟨P, HI.out.put _⟩, KOF.out _ GG.out.put⟩⟩
                · have hb : (P == lv) = false := by simpa using hkl
                  have wP : IntKind.i64.wrap (P + 1) = P + 1 := i64_in _ (by have := hP0.out; omega)
                  clear hkl
                  gi_wp2
                  have z := HI.out.setN (P + 1)
                  have e1 : (((pre ++ [x]).length : Nat) : Int) = P + 1 := by rw [hpl2.out]; have := HP.out; omega
                  exact ⟨z.loop, .inl ⟨rfl, by rw [e1]; exact z.put _, KOF.out _ GG.out.setN.put⟩⟩
            · rintro e W' ⟨⟨v, rfl⟩, ⟨ys, _, hI⟩ | ⟨pre, _, k, hI⟩⟩
              · have hl := hI.loop
                rw [← hrec] at hl
                refine range_done hl ?_
                rw [hrec]
                have h2 := hI.put (r .exhausted none)
                exact HKC _ _ _ h2.ra (h2.dfr _ (by simp)) (h2.od _ (by simp)).1
              · have hl := hI.loop
                rw [← hrec] at hl
                refine range_left hl ?_
                rw [hrec]
                have h2 := hI.put (r .exhausted (some (.exit 4)))
                have h3 := hide (HKC k W9.heap.size _ h2.ra (h2.dfr _ (by simp)) (h2.od _ (by simp)).1)
                clear hrec HKC hKc
                generalize (Act.mk _ _ : Act) = A2 at h3 ⊢
                gi_wp2
                exact h3.out

end Go.Proofs.Ytdjlaaflmbdomaa
