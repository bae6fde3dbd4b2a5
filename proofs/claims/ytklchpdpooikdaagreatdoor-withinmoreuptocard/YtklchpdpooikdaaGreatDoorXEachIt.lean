/-
  The function that der.Each answers: it tells the elements that stand one behind the other, each with its place, its content in new memory.
-/
import Derived.Test.YtklchpdpooikdaaGreatDoorXElemToEach
import Derived.Test.YtklchpdpooikdaaGreatDoorXOSizeToRangeP
import Derived.Test.YtklchpdpooikdaaGreatDoorXNumbersToQRound
namespace Go.Proofs.YtklchpdpooikdaaGreatDoor
open Go.RowKit Go.Shelf Go.IntWalk
attribute [local go_sem] Oper.semAt_some

/-- What the outer loop's body leaves as it lay: what lay below the base, and what lies at or above N0 but the content that it was handed. -/
structure KO (wb : World) (N0 : Nat) (v : Value) (A B : World) : Prop where
  below : Below wb.heap.size A B
  span : ∀ (k : Nat) (c : Array Value), A.heap[k]? = some (Obj.cells c 165 (0, 0)) → B.heap[k]? = some (Obj.cells c 165 (0, 0))
  rest : ∀ k, N0 ≤ k → k < A.heap.size → v.ownBlock ≠ some k → B.heap[k]? = A.heap[k]?

/-- A round whose beginning lays memory of its own. -/
theorem range_roundA {F : Fence} {n : Nat} {P : Program} {fn : FuncId} {l D : Nat} {tmps args : Array Value} {ps : Array Tmp} {assign body : Code} {W W₁ : World} {a₁ : Act} {R : Ending → World → Prop} (hfn : F.fn fn)
    (hl : W.heap[l]? = some (.loop (recOf fn tmps ps assign body D .ready none))) (hs : args.size = ps.size) (hl1 : W₁.heap[l]? = some (.loop (recOf fn tmps ps assign body D .ready none)))
    (hassign : ∀ K : Act → World → Prop, K a₁ W₁ → assign.wpIn (F.inRound l) n P (Exit.then K (fun _ _ _ => False)) { tmps := (ps.zip args).foldl (fun t (p, v) => t.setIfInBounds p v) tmps, defers := [] } W)
    (hbody : body.wpIn (F.inRound l) n P (rEnd l (recOf fn tmps ps assign body D) R) a₁ (W₁.putObj l (.loop (recOf fn tmps ps assign body D .busy none)))) :
    YieldAt F n P l args W R := by
  refine ⟨fn, _, assign, body, run_yield (P := P) (args := args) hl hs, roundIn_of_wpIn hfn (hassign _ ⟨_, run_beginRound hl1 rfl, ?_⟩)⟩
  refine wpIn_mono hbody ?_
  rintro e a' W3 h
  cases e with
  | normal => exact ⟨_, _, run_endRound none h.1, h.2⟩
  | ret => exact ⟨_, _, run_endRound (some .ret) h.1, h.2⟩
  | exit id => exact ⟨_, _, run_endRound (some (.exit id)) h.1, h.2⟩
  | goto t => exact h.elim
  | panic c => exact h.elim
  | outgrown => exact h.elim

theorem ndE_of (ops : List Oper) (h : ops.all noDefer = true) : ∀ (i : Nat) o, ops.toArray[i]? = some o → ∀ c, o.op ≠ .defer c := by
  intro i o ho c hc
  have h1 := List.all_eq_true.1 h o (by simp at ho; exact List.mem_of_getElem? ho)
  simp [noDefer, hc] at h1

/-- What der.Each's function keeps while it runs. -/
structure EI (wb : World) (N l : Nat) (ao : Option Addr) (len cap : Nat) (lp : Loop) (A : World) : Prop where
  yb : Boxed A N 170 (.func (.yield l) #[] #[])
  sb : Boxed A (N + 1) 64 (.slice ao len cap)
  dfr : A.heap[N + 2]? = some (.deferred (some []))
  loop : A.heap[N + 3]? = some (.loop lp)
  bel : Below wb.heap.size wb A

theorem EI.kept {wb : World} {N l : Nat} {ao : Option Addr} {len cap : Nat} {lp : Loop} {A C : World} (h : EI wb N l ao len cap lp A) (hb : Below wb.heap.size A C) (hk : ∀ k, N ≤ k → k < N + 4 → C.heap[k]? = A.heap[k]?) : EI wb N l ao len cap lp C :=
  ⟨(hk N (by omega) (by omega)).trans h.yb, (hk (N + 1) (by omega) (by omega)).trans h.sb, (hk (N + 2) (by omega) (by omega)).trans h.dfr, (hk (N + 3) (by omega) (by omega)).trans h.loop, h.bel.trans hb⟩

theorem EI.size {wb : World} {N l : Nat} {ao : Option Addr} {len cap : Nat} {lp : Loop} {A : World} (h : EI wb N l ao len cap lp A) : N + 4 ≤ A.heap.size := (Array.getElem?_eq_some_iff.1 h.loop).1

theorem EI.put {wb : World} {N l : Nat} {ao : Option Addr} {len cap : Nat} {lp : Loop} {A : World} (h : EI wb N l ao len cap lp A) (hN : wb.heap.size ≤ N) (lp' : Loop) : EI wb N l ao len cap lp' (A.putObj (N + 3) (.loop lp')) := by
  have hlt : N + 3 < A.heap.size := h.size
  exact ⟨(World.putObj_heap_other (by omega)).trans h.yb, (World.putObj_heap_other (by omega)).trans h.sb, (World.putObj_heap_other (by omega)).trans h.dfr, World.putObj_heap_same hlt, h.bel.grown (grownBy_putObj' A (N + 3) (.loop lp')) h.bel.size (by intro k hk; cases hk; omega)⟩

theorem belowPut {N k : Nat} {A : World} {o : Obj} (hk : N ≤ k) : Below N A (A.putObj k o) := by
  have g := grownBy_putObj' A k o
  exact ⟨g.os, g.tape, g.output, g.size, fun j hj => World.putObj_heap_other (by omega)⟩

set_option maxRecDepth 100000 in
set_option maxHeartbeats 4000000 in
theorem each1_in (l B : Nat) (ao : Option Addr) (len cap : Nat) (xs : List Int) (hN : (len : Int) ≤ 4398046511104) (J Jx : List (Pl xs) → World → Prop) (wb W : World)
    (hs : Src wb ao len cap xs) (hW : Below wb.heap.size wb W) (hbx : Boxed wb B 64 (.slice ao len cap))
    (hK : ∀ pre A C, J pre A → Below W.heap.size A C → J pre C) (hKx : ∀ pre A C, Jx pre A → Below W.heap.size A C → Jx pre C)
    (hY : ∀ pre x W1 v, J pre W1 → Below wb.heap.size wb W1 → W.heap.size ≤ W1.heap.size → OwnB W1 W.heap.size v (contS (xs.drop x.1)) → pre.length < xs.length → (pre ++ [x]).map (·.1) <+: placesS xs 0 →
      YieldAt Fence.wide 4 Tryz.prog l #[.int .i64 (x.1 : Int), .agg #[.int .i64 (findS (xs.drop x.1)).1, v]] W1 fun e W' =>
        (e = .returned (.bool true) ∧ J (pre ++ [x]) W' ∧ KO wb W.heap.size v W1 W') ∨ (e = .returned (.bool false) ∧ Jx (pre ++ [x]) W' ∧ KO wb W.heap.size v W1 W'))
    (h0 : J [] W) :
    CallsIn Fence.wide 7 Tryz.prog 147 #[.func (.yield l) #[] #[], .pointer (some ⟨B, 0, none⟩)] W fun e W' => (∃ v, e = .returned v) ∧
      ((∃ ys : List (Pl xs), ys.map (·.1) = placesS xs 0 ∧ J ys W') ∨ (∃ pre : List (Pl xs), pre.map (·.1) <+: placesS xs 0 ∧ Jx pre W')) := by
  refine callsIn_of_wp_marks Tryz.func147 rfl trivial ?_ rfl
  simp only [Tryz.ntmps147, List.size_toArray, List.length_cons, List.length_nil, Nat.reduceAdd, Nat.reduceSub, Array.replicate_succ, Array.replicate_zero, List.push_toArray, List.append_toArray, List.nil_append, List.cons_append]
  have hbW : Boxed W B 64 (.slice ao len cap) := (hW.block B hbx.lt).trans hbx
  have cB := (hbW.alloc (.cells #[.func (.yield l) #[] #[]] 170)).cell
  gi_wp2_with (refine ⟨trivial, ?_⟩; gi_at_call 148; refine (spans_in _ _ _ _ _).mono ?_; rintro e w' ⟨rfl, rfl⟩)
  have bY := (Boxed.new W 170 (.func (.yield l) #[] #[])).alloc (.cells #[.slice ao len cap] 64)
  have bS := Boxed.new (W.alloc (.cells #[.func (.yield l) #[] #[]] 170)) 64 (.slice ao len cap)
  have bB := (hbW.alloc (.cells #[.func (.yield l) #[] #[]] 170)).alloc (.cells #[.slice ao len cap] 64)
  have z2 : ((W.alloc (.cells #[.func (.yield l) #[] #[]] 170)).alloc (.cells #[.slice ao len cap] 64)).heap.size = W.heap.size + 2 := by simp
  have B2 : Below W.heap.size W ((W.alloc (.cells #[.func (.yield l) #[] #[]] 170)).alloc (.cells #[.slice ao len cap] 64)) := ((Below.refl _ _).alloc (Nat.le_refl _) _).alloc (by simp) _
  rw [World.size_alloc] at bS
  generalize (W.alloc (.cells #[.func (.yield l) #[] #[]] 170)).alloc (.cells #[.slice ao len cap] 64) = W2 at bY bS bB z2 B2 ⊢
  refine range_enter rfl (by decide) (gf := 167) (lb := #[.pointer (some ⟨W.heap.size + 1, 0, none⟩)]) rfl trivial (enters_of Tryz.func167 (by kernel_rfl) rfl) ?_
  intro fn hfn
  generalize hrec : recOf fn _ _ _ _ _ = r
  have hNw : wb.heap.size ≤ W.heap.size := hW.size
  obtain ⟨N, hNe⟩ : ∃ N, W.heap.size = N := ⟨_, rfl⟩
  have W8e : EI wb N l ao len cap (r .ready none) ((W2.alloc (.deferred (some []))).alloc (.loop (r .ready none))) := by
    rw [← hNe]
    refine ⟨(bY.alloc _).alloc _, (bS.alloc _).alloc _, ?_, ?_, ?_⟩
    · rw [← z2, Below.heap_alloc _ _ _ (by simp)]; exact World.alloc_heap_new W2 _
    · have := World.alloc_heap_new (W2.alloc (.deferred (some []))) (.loop (r .ready none)); rw [World.size_alloc, z2] at this; exact this
    · have h3 := hW.trans (B2.mono hNw)
      exact (h3.alloc h3.size _).alloc (by have := h3.size; simp; omega) _
  have B8 : Below N W ((W2.alloc (.deferred (some []))).alloc (.loop (r .ready none))) := by
    rw [← hNe]
    exact (B2.alloc (by omega) _).alloc (by simp; omega) _
  rw [hNe] at z2 hK hKx hY hNw
  rw [z2] at hrec ⊢
  have z8 : ((W2.alloc (.deferred (some []))).alloc (.loop (r .ready none))).heap.size = N + 4 := by simp [z2]
  rw [hNe] at hrec ⊢
  clear hNe bY bS bB B2
  generalize (W2.alloc (.deferred (some []))).alloc (.loop (r .ready none)) = W8 at W8e B8 z8 ⊢
  clear z2
  have jab : ∀ {A C : World} {row : Option Nat}, N ≤ A.heap.size → A.grownBy C row → (∀ q, row = some q → N ≤ q) → Below N A C := fun {A C row} hA hg hr =>
    ⟨hg.os, hg.tape, hg.output, hg.size, fun k hk => hg.block k (by omega) (fun e => by have := hr k e.symm; omega)⟩
  refine (spans1_pre 6 (by decide) (N + 3) (N + 1) ao len cap xs (by omega) (fun pre A => J pre A ∧ EI wb N l ao len cap (r .ready none) A) (fun pre A => Jx pre A ∧ EI wb N l ao len cap (r .done (some .ret)) A) wb W8 ?_ hs W8e.bel ?_ W8e.sb.cell ⟨hK _ _ _ h0 B8, W8e⟩).mono ?_
  · rintro pre x W1 ⟨hJ, hE⟩ hpre hpfx
    have hl := hE.loop
    have hx := x.2
    have hYx := fun (V : World) v => hY pre x V v
    obtain ⟨p, hp⟩ : ∃ p, x.val = p := ⟨_, rfl⟩
    have hEnc : encP xs x = #[.int .i64 (p : Int), .agg #[.int .i64 (findS (xs.drop p)).1, .int .i64 (findS (xs.drop p)).2.1, .int .i64 (findS (xs.drop p)).2.2.1]] := by simp only [encP, hp]
    rw [hEnc]
    clear hEnc
    simp only [hp] at hYx
    rw [hp] at hx
    obtain ⟨hp1, hp2⟩ := hx
    have hnc := hs.hcap
    have hlen := hs.hlen
    have ed : (xs.take len).drop p = xs.drop p := by rw [List.take_of_length_le (by omega)]
    have hsA : ∀ V : World, Below wb.heap.size wb V → Src V (cutA ao cap p) (len - p) (cap - p) (xs.drop p) := fun V hV => by
      have h := (hs.below hV).cut p len (by omega) (Nat.le_refl _)
      rwa [ed] at h
    have hs1 := hsA W1 hE.bel
    have sl := fun X => slice_lo X ao len cap p p rfl (by omega)
    generalize cutA ao cap p = A at hs1 sl hsA
    rcases findS_cases (xs.drop p) hs1.hbyt with ⟨err, h1, h2, h3, he⟩ | ⟨a, b, he, h1, h2, h3, h4, h5⟩
    · rw [he] at hp2; exact (h1 hp2).elim
    have hcont : contS (xs.drop p) = ((xs.drop p).take b).drop a := by unfold contS; rw [he]; simp
    rw [hcont] at hYx
    rw [he] at hYx ⊢
    obtain ⟨t, ht⟩ : ∃ t, (xs.drop p).getD 0 0 = t := ⟨_, rfl⟩
    rw [ht] at hYx ⊢
    simp only at hYx ⊢
    have hbl : b ≤ len - p := by simp [hlen] at h4; omega
    have hz := hE.size
    have hl1 : (W1.alloc (.cells #[.int .i64 t, .int .i64 a, .int .i64 b] 165)).heap[N + 3]? = some (.loop (r .ready none)) := (Below.heap_alloc _ _ _ (by omega)).trans hl
    rw [← hrec] at hl hl1
    refine range_roundA (a₁ := ?A2) hfn hl rfl hl1 ?_ ?_
    rotate_left
    · intro K hK
      gi_wp2
      exact hK
    · rw [hrec]
      clear hl hl1
      have E9 : EI wb N l ao len cap (r .busy none) ((W1.alloc (.cells #[.int .i64 t, .int .i64 a, .int .i64 b] 165)).putObj (N + 3) (.loop (r .busy none))) :=
        (hE.kept ((Below.refl _ _).alloc (by omega) _) (fun k k1 k2 => Below.heap_alloc _ _ _ (by omega))).put hNw _
      have B9 : Below N W1 ((W1.alloc (.cells #[.int .i64 t, .int .i64 a, .int .i64 b] 165)).putObj (N + 3) (.loop (r .busy none))) := ((Below.refl _ _).alloc (by omega) _).trans (belowPut (by omega))
      have X9 : ((W1.alloc (.cells #[.int .i64 t, .int .i64 a, .int .i64 b] 165)).putObj (N + 3) (.loop (r .busy none))).heap[W1.heap.size]? = some (Obj.cells #[.int .i64 t, .int .i64 a, .int .i64 b] 165 (0, 0)) := (World.putObj_heap_other (by omega)).trans (World.alloc_heap_new _ _)
      have S9 : ∀ (k : Nat) (c : Array Value), W1.heap[k]? = some (Obj.cells c 165 (0, 0)) → ((W1.alloc (.cells #[.int .i64 t, .int .i64 a, .int .i64 b] 165)).putObj (N + 3) (.loop (r .busy none))).heap[k]? = some (Obj.cells c 165 (0, 0)) := by
        intro k c h
        have hk : k ≠ N + 3 := by intro e; subst e; rw [hE.loop] at h; cases h
        exact (World.putObj_heap_other hk).trans ((Below.heap_alloc _ _ _ (Array.getElem?_eq_some_iff.1 h).1).trans h)
      gi_wp2
      rename_i K hK
      have HK2 := hide hK
      clear hK
      generalize (W1.alloc (.cells #[.int .i64 t, .int .i64 a, .int .i64 b] 165)).putObj (N + 3) (.loop (r .busy none)) = W9 at E9 B9 X9 S9 ⊢
      have cy := E9.yb.cell
      have c0 : W9.cell? ⟨W1.heap.size, 0, none⟩ = some (.int .i64 t) := by simp [World.cell?, X9]
      have c1 : W9.cell? ⟨W1.heap.size, 1, none⟩ = some (.int .i64 a) := by simp [World.cell?, X9]
      have c2 : W9.cell? ⟨W1.heap.size, 2, none⟩ = some (.int .i64 b) := by simp [World.cell?, X9]
      have ck : W9.cell? ⟨B, 0, none⟩ = some (.slice ao len cap) := ((E9.bel.block B hbx.lt).trans hbx |> fun h : Boxed W9 B _ _ => h.cell)
      have HS9 : Hid (Src W9.drew A (len - p) (cap - p) (xs.drop p)) := (hsA W9 E9.bel).drewN 1
      have z9 := E9.size
      have toB : ∀ {w1 : World}, Below W9.drew.heap.size W9.drew w1 → Below W9.heap.size W9 w1 := fun h => ⟨h.os, h.tape, h.output, h.size, h.block⟩
      have HB1 : Hid (∀ w1 : World, Below W9.drew.heap.size W9.drew w1 → w1.cell? ⟨N, 0, none⟩ = some (.func (.yield l) #[] #[])) := fun w1 B1 => ((toB B1).cell (p := ⟨N, 0, none⟩) (by simp; omega)).trans cy
      have HE1 : ∀ w1 : World, Below W9.drew.heap.size W9.drew w1 → EI wb N l ao len cap (r .busy none) w1 := fun w1 B1 => E9.kept ((toB B1).mono (by omega)) (fun k k1 k2 => (toB B1).block k (by omega))
      have HYW : Hid (∀ (w1 : World) (v : Value), Below W9.drew.heap.size W9.drew w1 → OwnB w1 W9.drew.heap.size v (((xs.drop p).take b).drop a) → YieldAt Fence.wide 4 Tryz.prog l #[.int .i64 (p : Int), .agg #[.int .i64 t, v]] w1 fun e W' => (e = .returned (.bool true) ∧ J (pre ++ [x]) W' ∧ KO wb N v w1 W') ∨ (e = .returned (.bool false) ∧ Jx (pre ++ [x]) W' ∧ KO wb N v w1 W')) := fun w1 v B1 ho =>
        hYx w1 v (hK _ _ _ hJ (B9.trans ((toB B1).mono (by omega)))) (HE1 w1 B1).bel (by have := (HE1 w1 B1).size; omega) (ho.rebase (by show N ≤ W9.heap.size; omega)) hpre hpfx
      have HE3 : ∀ (w1 W3 : World) (v : Value), Below W9.drew.heap.size W9.drew w1 → OwnB w1 W9.drew.heap.size v (((xs.drop p).take b).drop a) → KO wb N v w1 W3 → EI wb N l ao len cap (r .busy none) W3 := fun w1 W3 v B1 ho hk =>
        (HE1 w1 B1).kept hk.below (fun k k1 k2 => hk.rest k k1 (by have := (HE1 w1 B1).size; omega) (fun e => by have h9 : W9.heap.size ≤ k := (ho.lt k e).1; omega))
      have HFIN : Hid (∀ (w1 W3 : World) (v : Value), Below W9.drew.heap.size W9.drew w1 → OwnB w1 W9.drew.heap.size v (((xs.drop p).take b).drop a) → J (pre ++ [x]) W3 → KO wb N v w1 W3 → W3.heap[N + 3]? = some (.loop (r .busy none)) ∧ (J (pre ++ [x]) (W3.putObj (N + 3) (.loop (r .ready none))) ∧ EI wb N l ao len cap (r .ready none) (W3.putObj (N + 3) (.loop (r .ready none)))) ∧ KpB wb.heap.size (N + 1) W1 (W3.putObj (N + 3) (.loop (r .ready none)))) := fun w1 W3 v B1 ho hJ3 hk => by
        have E3 := HE3 w1 W3 v B1 ho hk
        have E4 := E3.put hNw (r .ready none)
        refine ⟨E3.loop, ⟨hK _ _ _ hJ3 (belowPut (by omega)), E4⟩, ⟨(((B9.mono hNw).trans ((toB B1).mono (by omega))).trans hk.below).trans (belowPut (by omega)), fun u hu => ?_, fun k c hc => ?_⟩⟩
        · rw [hE.sb.cell] at hu; cases hu; exact E4.sb.cell
        · have h5 := hk.span k c (((toB B1).block k (Array.getElem?_eq_some_iff.1 (S9 k c hc)).1).trans (S9 k c hc))
          have hk3 : k ≠ N + 3 := by intro e; subst e; rw [E3.loop] at h5; cases h5
          exact (World.putObj_heap_other hk3).trans h5
      have HFIX : Hid (∀ (w1 W3 : World) (v : Value), Below W9.drew.heap.size W9.drew w1 → OwnB w1 W9.drew.heap.size v (((xs.drop p).take b).drop a) → Jx (pre ++ [x]) W3 → KO wb N v w1 W3 → W3.heap[N + 3]? = some (.loop (r .busy none)) ∧ Jx (pre ++ [x]) (W3.putObj (N + 3) (.loop (r .done (some .ret)))) ∧ EI wb N l ao len cap (r .done (some .ret)) (W3.putObj (N + 3) (.loop (r .done (some .ret))))) := fun w1 W3 v B1 ho hJ3 hk => by
        have E3 := HE3 w1 W3 v B1 ho hk
        exact ⟨E3.loop, hKx _ _ _ hJ3 (belowPut (by omega)), E3.put hNw _⟩
      clear HE1 HE3 toB hsA
      clear E9 B9 X9 S9
      refine wpIn_region_any (by kernel_rfl) (wpAnyIn_inRound (F := Fence.wide) _ rfl (ndE_of _ (by kernel_rfl)) _ _ _ _ ?_)
      change wpAnyIn _ _ _ _ _ _ _ _ _ (World.drew _)
      refine wpAnyIn_take (i := 1) (v := ?_) rfl rfl (by kernel_rfl) (by kernel_rfl) (by kernel_rfl) (fun _ _ _ h => h) ⟨Or.inl ⟨by rfl, ?_⟩, fun _ => rfl⟩ ?_
      rotate_left
      · intro wq
        go_simp
        try with_reducible rfl
      simp only [List.getElem_toArray, List.getElem_cons_succ, List.getElem_cons_zero, Act.put, List.setIfInBounds_toArray, List.set_cons_zero, List.set_cons_succ]
      refine wpAnyIn_take (i := 4) (v := ?_) rfl rfl (by kernel_rfl) (by kernel_rfl) (by kernel_rfl) (fun _ _ _ h => h) ⟨Or.inl ⟨by rfl, ?_⟩, fun _ => rfl⟩ ?_
      rotate_left
      · intro wq
        go_simp
        try with_reducible rfl
      simp only [List.getElem_toArray, List.getElem_cons_succ, List.getElem_cons_zero, Act.put, List.setIfInBounds_toArray, List.set_cons_zero, List.set_cons_succ]
      refine wpAnyIn_ready (rs := [0, 2, 3]) (by kernel_rfl) (by simp) ?_
      refine AllReadyIn.cons rfl (fun K hK => ?_) (AllReadyIn.cons rfl (fun K hK => ?_) (AllReadyIn.cons rfl (fun K hK => ?_) AllReadyIn.nil))
      · go_simp
        refine hK _ _ ?_
        clear hK K
        refine wpAnyIn_ready (rs := [2, 3]) (by kernel_rfl) (by simp) ?_
        refine AllReadyIn.cons rfl (fun K hK => ?_) (AllReadyIn.cons rfl (fun K hK => ?_) AllReadyIn.nil)
        · go_simp
          refine hK _ _ ?_
          clear hK K
          refine wpAnyIn_ready (rs := [3]) (by kernel_rfl) (by simp) ?_
          refine AllReadyIn.cons rfl (fun K hK => ?_) AllReadyIn.nil
          go_simp
          refine hK _ _ ?_
          clear hK K
          refine wpAnyIn_take (i := 5) (v := ?_) rfl rfl (by kernel_rfl) (by kernel_rfl) (by kernel_rfl) (fun _ _ _ h => h) ⟨Or.inl ⟨by rfl, ?_⟩, fun _ => rfl⟩ ?_
          rotate_left
          · intro wq
            go_simp
            try with_reducible rfl
          simp only [List.getElem_toArray, List.getElem_cons_succ, List.getElem_cons_zero, Act.put, List.setIfInBounds_toArray, List.set_cons_zero, List.set_cons_succ]
          refine wpAnyIn_ready (rs := [6]) (by kernel_rfl) (by simp) ?_
          refine AllReadyIn.cons rfl (fun K hK => ?_) AllReadyIn.nil
          go_simp
          refine ⟨trivial, ?_⟩
          refine (callsIn_wide.2 (element_any t a b A (len - p) (cap - p) (xs.drop p) _ HS9.out (by omega) h3 hbl)).mono ?_
          rintro e w1 ⟨ao', c', rfl, ho, B1⟩
          have cy1 := HB1.out w1 B1
          refine hK _ _ ?_
          clear hK K
          refine wpAnyIn_ready (rs := [7]) (by kernel_rfl) (by simp) ?_
          refine AllReadyIn.cons rfl (fun K hK => ?_) AllReadyIn.nil
          obtain ⟨fn', tmps', assign', body', hy, hR⟩ := HYW.out w1 (.slice ao' (b - a) c') B1 ho
          go_simp
          refine hR.mono ?_
          rintro e W3 (⟨rfl, hJ3, hk3⟩ | ⟨rfl, hJx3, hk3⟩)
          · refine hK _ _ ?_
            clear hK K hy hR
            refine wpAnyIn_ready (rs := [8]) (by kernel_rfl) (by simp) ?_
            refine AllReadyIn.cons rfl (fun K hK => ?_) AllReadyIn.nil
            go_simp
            refine hK _ _ ?_
            clear hK K
            refine wpAnyIn_done (by kernel_rfl) ?_ _
            refine HK2.out _ _ ?_
            have FIN := hide (HFIN.out w1 W3 (.slice ao' (b - a) c') B1 ho hJ3 hk3)
            clear hJ3 hk3 B1 ho cy1
            gi_wp2
            exact ⟨FIN.out.1, .inl ⟨rfl, FIN.out.2.1, FIN.out.2.2⟩⟩
          · refine hK _ _ ?_
            clear hK K hy hR
            refine wpAnyIn_ready (rs := [8]) (by kernel_rfl) (by simp) ?_
            refine AllReadyIn.cons rfl (fun K hK => ?_) AllReadyIn.nil
            go_simp
            refine hK _ _ ?_
            clear hK K
            refine wpAnyIn_done (by kernel_rfl) ?_ _
            refine HK2.out _ _ ?_
            have FIN := hide (HFIX.out w1 W3 (.slice ao' (b - a) c') B1 ho hJx3 hk3)
            clear hJx3 hk3 B1 ho cy1
            gi_wp2
            exact ⟨FIN.out.1, .inr ⟨rfl, FIN.out.2.1, FIN.out.2.2⟩⟩
        · go_simp
          refine hK _ _ ?_
          clear hK K
          refine wpAnyIn_take (i := 5) (v := ?_) rfl rfl (by kernel_rfl) (by kernel_rfl) (by kernel_rfl) (fun _ _ _ h => h) ⟨Or.inl ⟨by rfl, ?_⟩, fun _ => rfl⟩ ?_
          rotate_left
          · intro wq
            go_simp
            try with_reducible rfl
          simp only [List.getElem_toArray, List.getElem_cons_succ, List.getElem_cons_zero, Act.put, List.setIfInBounds_toArray, List.set_cons_zero, List.set_cons_succ]
          refine wpAnyIn_ready (rs := [2]) (by kernel_rfl) (by simp) ?_
          refine AllReadyIn.cons rfl (fun K hK => ?_) AllReadyIn.nil
          go_simp
          refine hK _ _ ?_
          clear hK K
          refine wpAnyIn_ready (rs := [6]) (by kernel_rfl) (by simp) ?_
          refine AllReadyIn.cons rfl (fun K hK => ?_) AllReadyIn.nil
          go_simp
          refine ⟨trivial, ?_⟩
          refine (callsIn_wide.2 (element_any t a b A (len - p) (cap - p) (xs.drop p) _ HS9.out (by omega) h3 hbl)).mono ?_
          rintro e w1 ⟨ao', c', rfl, ho, B1⟩
          have cy1 := HB1.out w1 B1
          refine hK _ _ ?_
          clear hK K
          refine wpAnyIn_ready (rs := [7]) (by kernel_rfl) (by simp) ?_
          refine AllReadyIn.cons rfl (fun K hK => ?_) AllReadyIn.nil
          obtain ⟨fn', tmps', assign', body', hy, hR⟩ := HYW.out w1 (.slice ao' (b - a) c') B1 ho
          go_simp
          refine hR.mono ?_
          rintro e W3 (⟨rfl, hJ3, hk3⟩ | ⟨rfl, hJx3, hk3⟩)
          · refine hK _ _ ?_
            clear hK K hy hR
            refine wpAnyIn_ready (rs := [8]) (by kernel_rfl) (by simp) ?_
            refine AllReadyIn.cons rfl (fun K hK => ?_) AllReadyIn.nil
            go_simp
            refine hK _ _ ?_
            clear hK K
            refine wpAnyIn_done (by kernel_rfl) ?_ _
            refine HK2.out _ _ ?_
            have FIN := hide (HFIN.out w1 W3 (.slice ao' (b - a) c') B1 ho hJ3 hk3)
            clear hJ3 hk3 B1 ho cy1
            gi_wp2
            exact ⟨FIN.out.1, .inl ⟨rfl, FIN.out.2.1, FIN.out.2.2⟩⟩
          · refine hK _ _ ?_
            clear hK K hy hR
            refine wpAnyIn_ready (rs := [8]) (by kernel_rfl) (by simp) ?_
            refine AllReadyIn.cons rfl (fun K hK => ?_) AllReadyIn.nil
            go_simp
            refine hK _ _ ?_
            clear hK K
            refine wpAnyIn_done (by kernel_rfl) ?_ _
            refine HK2.out _ _ ?_
            have FIN := hide (HFIX.out w1 W3 (.slice ao' (b - a) c') B1 ho hJx3 hk3)
            clear hJx3 hk3 B1 ho cy1
            gi_wp2
            exact ⟨FIN.out.1, .inr ⟨rfl, FIN.out.2.1, FIN.out.2.2⟩⟩
      · go_simp
        refine hK _ _ ?_
        clear hK K
        refine wpAnyIn_ready (rs := [0, 3]) (by kernel_rfl) (by simp) ?_
        refine AllReadyIn.cons rfl (fun K hK => ?_) (AllReadyIn.cons rfl (fun K hK => ?_) AllReadyIn.nil)
        · go_simp
          refine hK _ _ ?_
          clear hK K
          refine wpAnyIn_ready (rs := [3]) (by kernel_rfl) (by simp) ?_
          refine AllReadyIn.cons rfl (fun K hK => ?_) AllReadyIn.nil
          go_simp
          refine hK _ _ ?_
          clear hK K
          refine wpAnyIn_take (i := 5) (v := ?_) rfl rfl (by kernel_rfl) (by kernel_rfl) (by kernel_rfl) (fun _ _ _ h => h) ⟨Or.inl ⟨by rfl, ?_⟩, fun _ => rfl⟩ ?_
          rotate_left
          · intro wq
            go_simp
            try with_reducible rfl
          simp only [List.getElem_toArray, List.getElem_cons_succ, List.getElem_cons_zero, Act.put, List.setIfInBounds_toArray, List.set_cons_zero, List.set_cons_succ]
          refine wpAnyIn_ready (rs := [6]) (by kernel_rfl) (by simp) ?_
          refine AllReadyIn.cons rfl (fun K hK => ?_) AllReadyIn.nil
          go_simp
          refine ⟨trivial, ?_⟩
          refine (callsIn_wide.2 (element_any t a b A (len - p) (cap - p) (xs.drop p) _ HS9.out (by omega) h3 hbl)).mono ?_
          rintro e w1 ⟨ao', c', rfl, ho, B1⟩
          have cy1 := HB1.out w1 B1
          refine hK _ _ ?_
          clear hK K
          refine wpAnyIn_ready (rs := [7]) (by kernel_rfl) (by simp) ?_
          refine AllReadyIn.cons rfl (fun K hK => ?_) AllReadyIn.nil
          obtain ⟨fn', tmps', assign', body', hy, hR⟩ := HYW.out w1 (.slice ao' (b - a) c') B1 ho
          go_simp
          refine hR.mono ?_
          rintro e W3 (⟨rfl, hJ3, hk3⟩ | ⟨rfl, hJx3, hk3⟩)
          · refine hK _ _ ?_
            clear hK K hy hR
            refine wpAnyIn_ready (rs := [8]) (by kernel_rfl) (by simp) ?_
            refine AllReadyIn.cons rfl (fun K hK => ?_) AllReadyIn.nil
            go_simp
            refine hK _ _ ?_
            clear hK K
            refine wpAnyIn_done (by kernel_rfl) ?_ _
            refine HK2.out _ _ ?_
            have FIN := hide (HFIN.out w1 W3 (.slice ao' (b - a) c') B1 ho hJ3 hk3)
            clear hJ3 hk3 B1 ho cy1
            gi_wp2
            exact ⟨FIN.out.1, .inl ⟨rfl, FIN.out.2.1, FIN.out.2.2⟩⟩
          · refine hK _ _ ?_
            clear hK K hy hR
            refine wpAnyIn_ready (rs := [8]) (by kernel_rfl) (by simp) ?_
            refine AllReadyIn.cons rfl (fun K hK => ?_) AllReadyIn.nil
            go_simp
            refine hK _ _ ?_
            clear hK K
            refine wpAnyIn_done (by kernel_rfl) ?_ _
            refine HK2.out _ _ ?_
            have FIN := hide (HFIX.out w1 W3 (.slice ao' (b - a) c') B1 ho hJx3 hk3)
            clear hJx3 hk3 B1 ho cy1
            gi_wp2
            exact ⟨FIN.out.1, .inr ⟨rfl, FIN.out.2.1, FIN.out.2.2⟩⟩
        · go_simp
          refine hK _ _ ?_
          clear hK K
          refine wpAnyIn_take (i := 5) (v := ?_) rfl rfl (by kernel_rfl) (by kernel_rfl) (by kernel_rfl) (fun _ _ _ h => h) ⟨Or.inl ⟨by rfl, ?_⟩, fun _ => rfl⟩ ?_
          rotate_left
          · intro wq
            go_simp
            try with_reducible rfl
          simp only [List.getElem_toArray, List.getElem_cons_succ, List.getElem_cons_zero, Act.put, List.setIfInBounds_toArray, List.set_cons_zero, List.set_cons_succ]
          refine wpAnyIn_ready (rs := [0, 6]) (by kernel_rfl) (by simp) ?_
          refine AllReadyIn.cons rfl (fun K hK => ?_) (AllReadyIn.cons rfl (fun K hK => ?_) AllReadyIn.nil)
          · go_simp
            refine hK _ _ ?_
            clear hK K
            refine wpAnyIn_ready (rs := [6]) (by kernel_rfl) (by simp) ?_
            refine AllReadyIn.cons rfl (fun K hK => ?_) AllReadyIn.nil
            go_simp
            refine ⟨trivial, ?_⟩
            refine (callsIn_wide.2 (element_any t a b A (len - p) (cap - p) (xs.drop p) _ HS9.out (by omega) h3 hbl)).mono ?_
            rintro e w1 ⟨ao', c', rfl, ho, B1⟩
            have cy1 := HB1.out w1 B1
            refine hK _ _ ?_
            clear hK K
            refine wpAnyIn_ready (rs := [7]) (by kernel_rfl) (by simp) ?_
            refine AllReadyIn.cons rfl (fun K hK => ?_) AllReadyIn.nil
            obtain ⟨fn', tmps', assign', body', hy, hR⟩ := HYW.out w1 (.slice ao' (b - a) c') B1 ho
            go_simp
            refine hR.mono ?_
            rintro e W3 (⟨rfl, hJ3, hk3⟩ | ⟨rfl, hJx3, hk3⟩)
            · refine hK _ _ ?_
              clear hK K hy hR
              refine wpAnyIn_ready (rs := [8]) (by kernel_rfl) (by simp) ?_
              refine AllReadyIn.cons rfl (fun K hK => ?_) AllReadyIn.nil
              go_simp
              refine hK _ _ ?_
              clear hK K
              refine wpAnyIn_done (by kernel_rfl) ?_ _
              refine HK2.out _ _ ?_
              have FIN := hide (HFIN.out w1 W3 (.slice ao' (b - a) c') B1 ho hJ3 hk3)
              clear hJ3 hk3 B1 ho cy1
              gi_wp2
              exact ⟨FIN.out.1, .inl ⟨rfl, FIN.out.2.1, FIN.out.2.2⟩⟩
            · refine hK _ _ ?_
              clear hK K hy hR
              refine wpAnyIn_ready (rs := [8]) (by kernel_rfl) (by simp) ?_
              refine AllReadyIn.cons rfl (fun K hK => ?_) AllReadyIn.nil
              go_simp
              refine hK _ _ ?_
              clear hK K
              refine wpAnyIn_done (by kernel_rfl) ?_ _
              refine HK2.out _ _ ?_
              have FIN := hide (HFIX.out w1 W3 (.slice ao' (b - a) c') B1 ho hJx3 hk3)
              clear hJx3 hk3 B1 ho cy1
              gi_wp2
              exact ⟨FIN.out.1, .inr ⟨rfl, FIN.out.2.1, FIN.out.2.2⟩⟩
          · go_simp
            refine ⟨trivial, ?_⟩
            refine (callsIn_wide.2 (element_any t a b A (len - p) (cap - p) (xs.drop p) _ HS9.out (by omega) h3 hbl)).mono ?_
            rintro e w1 ⟨ao', c', rfl, ho, B1⟩
            have cy1 := HB1.out w1 B1
            refine hK _ _ ?_
            clear hK K
            refine wpAnyIn_ready (rs := [0]) (by kernel_rfl) (by simp) ?_
            refine AllReadyIn.cons rfl (fun K hK => ?_) AllReadyIn.nil
            go_simp
            refine hK _ _ ?_
            clear hK K
            refine wpAnyIn_ready (rs := [7]) (by kernel_rfl) (by simp) ?_
            refine AllReadyIn.cons rfl (fun K hK => ?_) AllReadyIn.nil
            obtain ⟨fn', tmps', assign', body', hy, hR⟩ := HYW.out w1 (.slice ao' (b - a) c') B1 ho
            go_simp
            refine hR.mono ?_
            rintro e W3 (⟨rfl, hJ3, hk3⟩ | ⟨rfl, hJx3, hk3⟩)
            · refine hK _ _ ?_
              clear hK K hy hR
              refine wpAnyIn_ready (rs := [8]) (by kernel_rfl) (by simp) ?_
              refine AllReadyIn.cons rfl (fun K hK => ?_) AllReadyIn.nil
              go_simp
              refine hK _ _ ?_
              clear hK K
              refine wpAnyIn_done (by kernel_rfl) ?_ _
              refine HK2.out _ _ ?_
              have FIN := hide (HFIN.out w1 W3 (.slice ao' (b - a) c') B1 ho hJ3 hk3)
              clear hJ3 hk3 B1 ho cy1
              gi_wp2
              exact ⟨FIN.out.1, .inl ⟨rfl, FIN.out.2.1, FIN.out.2.2⟩⟩
            · refine hK _ _ ?_
              clear hK K hy hR
              refine wpAnyIn_ready (rs := [8]) (by kernel_rfl) (by simp) ?_
              refine AllReadyIn.cons rfl (fun K hK => ?_) AllReadyIn.nil
              go_simp
              refine hK _ _ ?_
              clear hK K
              refine wpAnyIn_done (by kernel_rfl) ?_ _
              refine HK2.out _ _ ?_
              have FIN := hide (HFIX.out w1 W3 (.slice ao' (b - a) c') B1 ho hJx3 hk3)
              clear hJx3 hk3 B1 ho cy1
              gi_wp2
              exact ⟨FIN.out.1, .inr ⟨rfl, FIN.out.2.1, FIN.out.2.2⟩⟩
      · go_simp
        refine hK _ _ ?_
        clear hK K
        refine wpAnyIn_take (i := 5) (v := ?_) rfl rfl (by kernel_rfl) (by kernel_rfl) (by kernel_rfl) (fun _ _ _ h => h) ⟨Or.inl ⟨by rfl, ?_⟩, fun _ => rfl⟩ ?_
        rotate_left
        · intro wq
          go_simp
          try with_reducible rfl
        simp only [List.getElem_toArray, List.getElem_cons_succ, List.getElem_cons_zero, Act.put, List.setIfInBounds_toArray, List.set_cons_zero, List.set_cons_succ]
        refine wpAnyIn_ready (rs := [0, 2]) (by kernel_rfl) (by simp) ?_
        refine AllReadyIn.cons rfl (fun K hK => ?_) (AllReadyIn.cons rfl (fun K hK => ?_) AllReadyIn.nil)
        · go_simp
          refine hK _ _ ?_
          clear hK K
          refine wpAnyIn_ready (rs := [2]) (by kernel_rfl) (by simp) ?_
          refine AllReadyIn.cons rfl (fun K hK => ?_) AllReadyIn.nil
          go_simp
          refine hK _ _ ?_
          clear hK K
          refine wpAnyIn_ready (rs := [6]) (by kernel_rfl) (by simp) ?_
          refine AllReadyIn.cons rfl (fun K hK => ?_) AllReadyIn.nil
          go_simp
          refine ⟨trivial, ?_⟩
          refine (callsIn_wide.2 (element_any t a b A (len - p) (cap - p) (xs.drop p) _ HS9.out (by omega) h3 hbl)).mono ?_
          rintro e w1 ⟨ao', c', rfl, ho, B1⟩
          have cy1 := HB1.out w1 B1
          refine hK _ _ ?_
          clear hK K
          refine wpAnyIn_ready (rs := [7]) (by kernel_rfl) (by simp) ?_
          refine AllReadyIn.cons rfl (fun K hK => ?_) AllReadyIn.nil
          obtain ⟨fn', tmps', assign', body', hy, hR⟩ := HYW.out w1 (.slice ao' (b - a) c') B1 ho
          go_simp
          refine hR.mono ?_
          rintro e W3 (⟨rfl, hJ3, hk3⟩ | ⟨rfl, hJx3, hk3⟩)
          · refine hK _ _ ?_
            clear hK K hy hR
            refine wpAnyIn_ready (rs := [8]) (by kernel_rfl) (by simp) ?_
            refine AllReadyIn.cons rfl (fun K hK => ?_) AllReadyIn.nil
            go_simp
            refine hK _ _ ?_
            clear hK K
            refine wpAnyIn_done (by kernel_rfl) ?_ _
            refine HK2.out _ _ ?_
            have FIN := hide (HFIN.out w1 W3 (.slice ao' (b - a) c') B1 ho hJ3 hk3)
            clear hJ3 hk3 B1 ho cy1
            gi_wp2
            exact ⟨FIN.out.1, .inl ⟨rfl, FIN.out.2.1, FIN.out.2.2⟩⟩
          · refine hK _ _ ?_
            clear hK K hy hR
            refine wpAnyIn_ready (rs := [8]) (by kernel_rfl) (by simp) ?_
            refine AllReadyIn.cons rfl (fun K hK => ?_) AllReadyIn.nil
            go_simp
            refine hK _ _ ?_
            clear hK K
            refine wpAnyIn_done (by kernel_rfl) ?_ _
            refine HK2.out _ _ ?_
            have FIN := hide (HFIX.out w1 W3 (.slice ao' (b - a) c') B1 ho hJx3 hk3)
            clear hJx3 hk3 B1 ho cy1
            gi_wp2
            exact ⟨FIN.out.1, .inr ⟨rfl, FIN.out.2.1, FIN.out.2.2⟩⟩
        · go_simp
          refine hK _ _ ?_
          clear hK K
          refine wpAnyIn_ready (rs := [0, 6]) (by kernel_rfl) (by simp) ?_
          refine AllReadyIn.cons rfl (fun K hK => ?_) (AllReadyIn.cons rfl (fun K hK => ?_) AllReadyIn.nil)
          · go_simp
            refine hK _ _ ?_
            clear hK K
            refine wpAnyIn_ready (rs := [6]) (by kernel_rfl) (by simp) ?_
            refine AllReadyIn.cons rfl (fun K hK => ?_) AllReadyIn.nil
            go_simp
            refine ⟨trivial, ?_⟩
            refine (callsIn_wide.2 (element_any t a b A (len - p) (cap - p) (xs.drop p) _ HS9.out (by omega) h3 hbl)).mono ?_
            rintro e w1 ⟨ao', c', rfl, ho, B1⟩
            have cy1 := HB1.out w1 B1
            refine hK _ _ ?_
            clear hK K
            refine wpAnyIn_ready (rs := [7]) (by kernel_rfl) (by simp) ?_
            refine AllReadyIn.cons rfl (fun K hK => ?_) AllReadyIn.nil
            obtain ⟨fn', tmps', assign', body', hy, hR⟩ := HYW.out w1 (.slice ao' (b - a) c') B1 ho
            go_simp
            refine hR.mono ?_
            rintro e W3 (⟨rfl, hJ3, hk3⟩ | ⟨rfl, hJx3, hk3⟩)
            · refine hK _ _ ?_
              clear hK K hy hR
              refine wpAnyIn_ready (rs := [8]) (by kernel_rfl) (by simp) ?_
              refine AllReadyIn.cons rfl (fun K hK => ?_) AllReadyIn.nil
              go_simp
              refine hK _ _ ?_
              clear hK K
              refine wpAnyIn_done (by kernel_rfl) ?_ _
              refine HK2.out _ _ ?_
              have FIN := hide (HFIN.out w1 W3 (.slice ao' (b - a) c') B1 ho hJ3 hk3)
              clear hJ3 hk3 B1 ho cy1
              gi_wp2
              exact ⟨FIN.out.1, .inl ⟨rfl, FIN.out.2.1, FIN.out.2.2⟩⟩
            · refine hK _ _ ?_
              clear hK K hy hR
              refine wpAnyIn_ready (rs := [8]) (by kernel_rfl) (by simp) ?_
              refine AllReadyIn.cons rfl (fun K hK => ?_) AllReadyIn.nil
              go_simp
              refine hK _ _ ?_
              clear hK K
              refine wpAnyIn_done (by kernel_rfl) ?_ _
              refine HK2.out _ _ ?_
              have FIN := hide (HFIX.out w1 W3 (.slice ao' (b - a) c') B1 ho hJx3 hk3)
              clear hJx3 hk3 B1 ho cy1
              gi_wp2
              exact ⟨FIN.out.1, .inr ⟨rfl, FIN.out.2.1, FIN.out.2.2⟩⟩
          · go_simp
            refine ⟨trivial, ?_⟩
            refine (callsIn_wide.2 (element_any t a b A (len - p) (cap - p) (xs.drop p) _ HS9.out (by omega) h3 hbl)).mono ?_
            rintro e w1 ⟨ao', c', rfl, ho, B1⟩
            have cy1 := HB1.out w1 B1
            refine hK _ _ ?_
            clear hK K
            refine wpAnyIn_ready (rs := [0]) (by kernel_rfl) (by simp) ?_
            refine AllReadyIn.cons rfl (fun K hK => ?_) AllReadyIn.nil
            go_simp
            refine hK _ _ ?_
            clear hK K
            refine wpAnyIn_ready (rs := [7]) (by kernel_rfl) (by simp) ?_
            refine AllReadyIn.cons rfl (fun K hK => ?_) AllReadyIn.nil
            obtain ⟨fn', tmps', assign', body', hy, hR⟩ := HYW.out w1 (.slice ao' (b - a) c') B1 ho
            go_simp
            refine hR.mono ?_
            rintro e W3 (⟨rfl, hJ3, hk3⟩ | ⟨rfl, hJx3, hk3⟩)
            · refine hK _ _ ?_
              clear hK K hy hR
              refine wpAnyIn_ready (rs := [8]) (by kernel_rfl) (by simp) ?_
              refine AllReadyIn.cons rfl (fun K hK => ?_) AllReadyIn.nil
              go_simp
              refine hK _ _ ?_
              clear hK K
              refine wpAnyIn_done (by kernel_rfl) ?_ _
              refine HK2.out _ _ ?_
              have FIN := hide (HFIN.out w1 W3 (.slice ao' (b - a) c') B1 ho hJ3 hk3)
              clear hJ3 hk3 B1 ho cy1
              gi_wp2
              exact ⟨FIN.out.1, .inl ⟨rfl, FIN.out.2.1, FIN.out.2.2⟩⟩
            · refine hK _ _ ?_
              clear hK K hy hR
              refine wpAnyIn_ready (rs := [8]) (by kernel_rfl) (by simp) ?_
              refine AllReadyIn.cons rfl (fun K hK => ?_) AllReadyIn.nil
              go_simp
              refine hK _ _ ?_
              clear hK K
              refine wpAnyIn_done (by kernel_rfl) ?_ _
              refine HK2.out _ _ ?_
              have FIN := hide (HFIX.out w1 W3 (.slice ao' (b - a) c') B1 ho hJx3 hk3)
              clear hJx3 hk3 B1 ho cy1
              gi_wp2
              exact ⟨FIN.out.1, .inr ⟨rfl, FIN.out.2.1, FIN.out.2.2⟩⟩
  · rintro s A C row ⟨h1, h2⟩ hg hr
    have hz := h2.size
    have hr2 : ∀ q, row = some q → N + 4 ≤ q := fun q e => by have := (hr q e).1; omega
    exact ⟨hK _ _ _ h1 (jab (by omega) hg (fun q e => by have := hr2 q e; omega)), h2.kept ((jab (by omega) hg (fun q e => by have := hr2 q e; omega)).mono hNw) (fun k k1 k2 => hg.block k (by omega) (fun e => by have := hr2 k e.symm; omega))⟩
  · rintro e W' ⟨⟨v, rfl⟩, ⟨ys, hys, hJ, hE⟩ | ⟨pre, hpre, hJ, hE⟩⟩
    · have hl := hE.loop
      rw [← hrec] at hl
      refine range_done hl ?_
      rw [hrec]
      have hE2 := hE.put hNw (r .exhausted none)
      have hJ2 := hK _ _ _ hJ (belowPut (A := W') (o := .loop (r .exhausted none)) (show N ≤ N + 3 by omega))
      generalize W'.putObj (N + 3) (.loop (r .exhausted none)) = W9 at hE2 hJ2 ⊢
      have hd := hE2.dfr
      show LeavesInM _ _ _ _ _ _ _ _ _
      refine ⟨by simp, .inl ⟨_, _, rfl, run_takeDeferred hd, ?_⟩⟩
      exact ⟨.tuple #[], results_none rfl _ _ _, ⟨_, rfl⟩, .inl ⟨ys, hys, hK _ _ _ hJ2 (belowPut (by omega))⟩⟩
    · have hl := hE.loop
      rw [← hrec] at hl
      refine range_left hl ?_
      rw [hrec]
      have hE2 := hE.put hNw (r .exhausted (some .ret))
      have hJ2 := hKx _ _ _ hJ (belowPut (A := W') (o := .loop (r .exhausted (some .ret))) (show N ≤ N + 3 by omega))
      generalize W'.putObj (N + 3) (.loop (r .exhausted (some .ret))) = W9 at hE2 hJ2 ⊢
      have hd := hE2.dfr
      clear hl hE hJ
      gi_wp2
      show LeavesInM _ _ _ _ _ _ _ _ _
      refine ⟨by simp, .inl ⟨_, _, rfl, run_takeDeferred hd, ?_⟩⟩
      exact ⟨.tuple #[], results_none rfl _ _ _, ⟨_, rfl⟩, .inr ⟨pre, hpre, hKx _ _ _ hJ2 (belowPut (by omega))⟩⟩

end Go.Proofs.YtklchpdpooikdaaGreatDoor
