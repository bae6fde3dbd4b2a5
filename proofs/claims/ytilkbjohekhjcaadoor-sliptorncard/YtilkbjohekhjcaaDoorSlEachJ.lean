/-
  slip.Each's function, told by what the caller keeps: the bytes that are gone over may lie above what a round writes.
-/
import Derived.Test.YtilkbjohekhjcaaDoorSlEach
namespace Go.Proofs.YtilkbjohekhjcaaDoor
open Go.RowKit Go.Shelf Go.IntWalk
attribute [local go_sem] Oper.semAt_some

set_option maxRecDepth 100000 in
set_option maxHeartbeats 4000000 in
theorem spans1_J (n : Nat) (hn : 1 ≤ n) (l Bs : Nat) (ao : Option Addr) (len cap : Nat) (xs : List Int) (hN : (len : Int) ≤ 140737488355328) (J Jx : List (Pl xs) → World → Prop) (W : World)
    (hH : ∀ pre W1, J pre W1 → Tab W1 ∧ Src W1 ao len cap xs ∧ W1.cell? ⟨Bs, 0, none⟩ = some (.slice ao len cap))
    (hK : ∀ pre A C, J pre A → Below A.heap.size A C → J pre C)
    (hY : ∀ pre x W1, J pre W1 → pre.length < xs.length → (pre ++ [x]).map (·.1) <+: placesS xs 0 → YieldAt Fence.wide (n - 1) Tryd.prog l (encP xs x) W1 fun e W' =>
      (e = .returned (.bool true) ∧ J (pre ++ [x]) W') ∨ (e = .returned (.bool false) ∧ Jx (pre ++ [x]) W'))
    (h0 : J [] W) :
    CallsIn Fence.wide n Tryd.prog 18 #[.func (.yield l) #[] #[], .pointer (some ⟨Bs, 0, none⟩)] W fun e W' => (∃ v, e = .returned v) ∧
      ((∃ ys : List (Pl xs), ys.map (·.1) = placesS xs 0 ∧ J ys W') ∨ (∃ pre : List (Pl xs), pre.map (·.1) <+: placesS xs 0 ∧ Jx pre W')) := by
  have hs := (hH _ _ h0).2.1
  have hBs := (hH _ _ h0).2.2
  have hl := hs.hlen
  have hnc := hs.hcap
  refine callsIn_of_wp Tryd.func18 rfl trivial ?_ rfl
  simp only [Tryd.ntmps18, List.size_toArray, List.length_cons, List.length_nil, Nat.reduceAdd, Nat.reduceSub, Array.replicate_succ, Array.replicate_zero, List.push_toArray, List.append_toArray, List.nil_append, List.cons_append]
  gi_wp2
  gi_loopw [3] (fun i wr => ∃ (p : Nat) (pre : List (Pl xs)), i = .int .i64 p ∧ p ≤ len ∧ pre.map (·.1) ++ placesS xs p = placesS xs 0 ∧ pre.length ≤ p ∧ J pre wr)
    (fun i _ => len - (intOf i).toNat)
  case atStart => exact ⟨0, [], rfl, Nat.zero_le _, by simp, by simp, h0⟩
  case round =>
    obtain ⟨p, pre, rfl, hp, hpl, hpn, hJs⟩ := hrel
    obtain ⟨hTr, hsr, hc⟩ := hH _ _ hJs
    clear hs hBs
    by_cases hlt : p < len
    · have hs1 := hsr.cut p len hp (Nat.le_refl _)
      have ed : (xs.take len).drop p = xs.drop p := by rw [List.take_of_length_le (by omega)]
      rw [ed] at hs1
      have sl := fun X => slice_lo X ao len cap p p rfl hp
      generalize cutA ao cap p = A at hs1 sl
      have hltI : (p : Int) < (len : Int) := by omega
      rcases findS_cases (xs.drop p) hs1.hbyt with ⟨err, h1, h2, he⟩ | ⟨D, h1, h2, h3, h4, he⟩
      · have HE := hide he
        have HP := hide hpl
        have h1' : (err != 0) = true := by simpa using h1
        clear he h1 h2 hl hpl ed
        gi_wp2_with (refine ⟨trivial, ?_⟩; gi_at_call 13; refine (callsIn_wide.2 (find_any _ _ _ (xs.drop p) _ hTr (by exact hs1))).mono ?_; rintro e w1 ⟨rfl, B1⟩; rw [HE.out]; have J1 := hK _ _ _ hJs B1)
        refine ⟨fun _ h => (by cases h), ?_⟩
        gi_wp2
        refine bodyPost_ret (results_none rfl _ _ _) rfl ?_
        exact ⟨⟨_, rfl⟩, .inl ⟨pre, by rw [← HP.out, places_bad xs p err HE.out, List.append_nil], J1⟩⟩
      · have hb : p + (D + 7) ≤ len := by simp [hl] at h3; omega
        have he' : findS (xs.drop p) = (((D + 7 : Nat) : Int), 0) := by rw [he]; congr 1
        have hx : (findS (xs.drop p)).2 = 0 := by rw [he]
        obtain ⟨x, hxp⟩ : ∃ x : Pl xs, x.1 = p := ⟨⟨p, by omega, hx⟩, rfl⟩
        have hpl' : (pre ++ [x]).map (·.1) ++ placesS xs (p + (D + 7)) = placesS xs 0 := by
          rw [← hpl, places_ok xs p (D + 7) (by omega) he' (by omega)]; simp [hxp]
        have hE : encP xs x = #[.int .i64 (p : Int), .int .i64 ((p : Int) + ((D : Int) + 7))] := by simp only [encP, hxp, he]
        have hY' := fun W1 (h : J pre W1) => hY pre x W1 h (by omega) ⟨_, hpl'⟩
        rw [hE] at hY'
        have hw1 : IntKind.i64.wrap ((p : Int) + ((D : Int) + 7)) = (p : Int) + ((D : Int) + 7) := i64_in _ (by omega)
        have HY := hide hY'
        have HE := hide he
        have HP := hide hpl'
        clear he he' hx hl hpl hpl' ed hY hY' hE hxp h2 h3 h4
        gi_wp2_with (refine ⟨trivial, ?_⟩; gi_at_call 13; refine (callsIn_wide.2 (find_any _ _ _ (xs.drop p) _ hTr (by exact hs1))).mono ?_; rintro e w1 ⟨rfl, B1⟩; rw [HE.out]; have J1 := hK _ _ _ hJs B1; obtain ⟨fn, tmps, assign, body, hy, hR⟩ := HY.out w1 J1)
        refine hR.mono ?_
        rintro e W3 (⟨rfl, hJ3⟩ | ⟨rfl, hJx3⟩)
        · have hd3 := (hH _ _ hJ3).2.2
          gi_wp2
          go_roundw
          case rel => exact ⟨p + (D + 7), pre ++ [x], by simp, hb, HP.out, by simp; omega, hJ3⟩
          case measure => simp [intOf]; omega
        · gi_wp2
          refine bodyPost_ret (results_none rfl _ _ _) rfl ?_
          exact ⟨⟨_, rfl⟩, .inr ⟨pre ++ [x], ⟨_, HP.out⟩, hJx3⟩⟩
    · obtain rfl : p = len := by omega
      gi_wp2
      go_end0
      exact ⟨⟨_, rfl⟩, .inl ⟨pre, by rw [← hpl, places_end xs p (by omega), List.append_nil], hJs⟩⟩

/-- What the outer loop's body leaves as it lay: what lies at or above N but the content that it was handed. -/
structure KN (N : Nat) (v : Value) (A B : World) : Prop where
  size : A.heap.size ≤ B.heap.size
  rest : ∀ k, N ≤ k → k < A.heap.size → v.ownBlock ≠ some k → B.heap[k]? = A.heap[k]?

/-- What slip.Each's function keeps while it runs. -/
structure EJ (N l : Nat) (ao : Option Addr) (len cap : Nat) (lp : Loop) (A : World) : Prop where
  yb : Boxed A N 48 (.func (.yield l) #[] #[])
  sb : Boxed A (N + 1) 24 (.slice ao len cap)
  dfr : A.heap[N + 2]? = some (.deferred (some []))
  loop : A.heap[N + 3]? = some (.loop lp)
theorem EJ.kept {N l : Nat} {ao : Option Addr} {len cap : Nat} {lp : Loop} {A C : World} (h : EJ N l ao len cap lp A) (hk : ∀ k, N ≤ k → k < N + 4 → C.heap[k]? = A.heap[k]?) : EJ N l ao len cap lp C :=
  ⟨(hk N (by omega) (by omega)).trans h.yb, (hk (N + 1) (by omega) (by omega)).trans h.sb, (hk (N + 2) (by omega) (by omega)).trans h.dfr, (hk (N + 3) (by omega) (by omega)).trans h.loop⟩
theorem EJ.size {N l : Nat} {ao : Option Addr} {len cap : Nat} {lp : Loop} {A : World} (h : EJ N l ao len cap lp A) : N + 4 ≤ A.heap.size := (Array.getElem?_eq_some_iff.1 h.loop).1
theorem EJ.put {N l : Nat} {ao : Option Addr} {len cap : Nat} {lp : Loop} {A : World} (h : EJ N l ao len cap lp A) (lp' : Loop) : EJ N l ao len cap lp' (A.putObj (N + 3) (.loop lp')) := by
  have hlt : N + 3 < A.heap.size := h.size
  exact ⟨(World.putObj_heap_other (by omega)).trans h.yb, (World.putObj_heap_other (by omega)).trans h.sb, (World.putObj_heap_other (by omega)).trans h.dfr, World.putObj_heap_same hlt⟩

set_option maxRecDepth 100000 in
set_option maxHeartbeats 4000000 in
theorem each1_J (l B : Nat) (ao : Option Addr) (len cap : Nat) (xs : List Int) (hN : (len : Int) ≤ 140737488355328) (J Jx : List (Pl xs) → World → Prop) (W : World)
    (hH : ∀ pre W1, J pre W1 → Tab W1 ∧ Src W1 ao len cap xs ∧ Boxed W1 B 24 (.slice ao len cap))
    (hK : ∀ pre A C, J pre A → Below W.heap.size A C → J pre C) (hKx : ∀ pre A C, Jx pre A → Below W.heap.size A C → Jx pre C)
    (hY : ∀ pre x W1 v, J pre W1 → W.heap.size ≤ W1.heap.size → OwnB W1 W.heap.size v (slipD (xs.drop x.1)) → pre.length < xs.length → (pre ++ [x]).map (·.1) <+: placesS xs 0 →
      YieldAt Fence.wide 4 Tryd.prog l #[.int .i64 (x.1 : Int), .agg #[.int .i64 (slipK (xs.drop x.1)), v]] W1 fun e W' =>
        (e = .returned (.bool true) ∧ J (pre ++ [x]) W' ∧ KN W.heap.size v W1 W') ∨ (e = .returned (.bool false) ∧ Jx (pre ++ [x]) W' ∧ KN W.heap.size v W1 W'))
    (h0 : J [] W) :
    CallsIn Fence.wide 7 Tryd.prog 15 #[.func (.yield l) #[] #[], .pointer (some ⟨B, 0, none⟩)] W fun e W' => (∃ v, e = .returned v) ∧
      ((∃ ys : List (Pl xs), ys.map (·.1) = placesS xs 0 ∧ J ys W') ∨ (∃ pre : List (Pl xs), pre.map (·.1) <+: placesS xs 0 ∧ Jx pre W')) := by
  refine callsIn_of_wp_marks Tryd.func15 rfl trivial ?_ rfl
  simp only [Tryd.ntmps15, List.size_toArray, List.length_cons, List.length_nil, Nat.reduceAdd, Nat.reduceSub, Array.replicate_succ, Array.replicate_zero, List.push_toArray, List.append_toArray, List.nil_append, List.cons_append]
  have hbW : Boxed W B 24 (.slice ao len cap) := (hH _ _ h0).2.2
  have hs := (hH _ _ h0).2.1
  have cB := (hbW.alloc (.cells #[.func (.yield l) #[] #[]] 48)).cell
  gi_wp2_with (refine ⟨trivial, ?_⟩; gi_at_call 12; refine (spans_in _ _ _ _ _).mono ?_; rintro e w' ⟨rfl, rfl⟩)
  have bY := (Boxed.new W 48 (.func (.yield l) #[] #[])).alloc (.cells #[.slice ao len cap] 24)
  have bS := Boxed.new (W.alloc (.cells #[.func (.yield l) #[] #[]] 48)) 24 (.slice ao len cap)
  have bB := (hbW.alloc (.cells #[.func (.yield l) #[] #[]] 48)).alloc (.cells #[.slice ao len cap] 24)
  have z2 : ((W.alloc (.cells #[.func (.yield l) #[] #[]] 48)).alloc (.cells #[.slice ao len cap] 24)).heap.size = W.heap.size + 2 := by simp
  have B2 : Below W.heap.size W ((W.alloc (.cells #[.func (.yield l) #[] #[]] 48)).alloc (.cells #[.slice ao len cap] 24)) := ((Below.refl _ _).alloc (Nat.le_refl _) _).alloc (by simp) _
  rw [World.size_alloc] at bS
  generalize (W.alloc (.cells #[.func (.yield l) #[] #[]] 48)).alloc (.cells #[.slice ao len cap] 24) = W2 at bY bS bB z2 B2 ⊢
  refine range_enter rfl (by decide) (gf := 18) (lb := #[.pointer (some ⟨W.heap.size + 1, 0, none⟩)]) rfl trivial (enters_of Tryd.func18 (by kernel_rfl) rfl) ?_
  intro fn hfn
  generalize hrec : recOf fn _ _ _ _ _ = r
  obtain ⟨N, hNe⟩ : ∃ N, W.heap.size = N := ⟨_, rfl⟩
  have W8e : EJ N l ao len cap (r .ready none) ((W2.alloc (.deferred (some []))).alloc (.loop (r .ready none))) := by
    rw [← hNe]
    refine ⟨(bY.alloc _).alloc _, (bS.alloc _).alloc _, ?_, ?_⟩
    · rw [← z2, Below.heap_alloc _ _ _ (by simp)]; exact World.alloc_heap_new W2 _
    · have := World.alloc_heap_new (W2.alloc (.deferred (some []))) (.loop (r .ready none)); rw [World.size_alloc, z2] at this; exact this
  have B8 : Below N W ((W2.alloc (.deferred (some []))).alloc (.loop (r .ready none))) := by
    rw [← hNe]
    exact (B2.alloc (by omega) _).alloc (by simp; omega) _
  rw [hNe] at z2 hK hKx hY
  rw [z2] at hrec ⊢
  have z8 : ((W2.alloc (.deferred (some []))).alloc (.loop (r .ready none))).heap.size = N + 4 := by simp [z2]
  rw [hNe] at hrec ⊢
  clear hNe bY bS bB B2
  generalize (W2.alloc (.deferred (some []))).alloc (.loop (r .ready none)) = W8 at W8e B8 z8 ⊢
  clear z2
  refine (spans1_J 6 (by decide) (N + 3) (N + 1) ao len cap xs (by omega) (fun pre A => J pre A ∧ EJ N l ao len cap (r .ready none) A) (fun pre A => Jx pre A ∧ EJ N l ao len cap (r .done (some .ret)) A) W8 (fun pre A h => ⟨(hH _ _ h.1).1, (hH _ _ h.1).2.1, h.2.sb.cell⟩) ?_ ?_ ⟨hK _ _ _ h0 B8, W8e⟩).mono ?_
  · rintro pre A C ⟨h1, h2⟩ hb
    have hz := h2.size
    exact ⟨hK _ _ _ h1 (hb.mono (by omega)), h2.kept (fun k k1 k2 => hb.block k (by omega))⟩
  · rintro pre x W1 ⟨hJ, hE⟩ hpre hpfx
    have hl := hE.loop
    have hx := x.2
    have hYx := fun (V : World) v => hY pre x V v
    obtain ⟨p, hp⟩ : ∃ p, x.val = p := ⟨_, rfl⟩
    have hEnc : encP xs x = #[.int .i64 (p : Int), .int .i64 ((p : Int) + (findS (xs.drop p)).1)] := by simp only [encP, hp]
    rw [hEnc]
    clear hEnc
    simp only [hp] at hYx
    rw [hp] at hx
    obtain ⟨hp1, hp2⟩ := hx
    have hnc := hs.hcap
    have hlen := hs.hlen
    rcases findS_cases (xs.drop p) (fun x hx => hs.hbyt x (List.mem_of_mem_drop hx)) with ⟨err, h1, h2, he⟩ | ⟨D, h1, h2, h3, h4, he⟩
    · rw [he] at hp2; exact (h1 hp2).elim
    have hDl : p + (D + 7) ≤ len := by simp [hlen] at h3; omega
    have ed : (xs.take (p + (D + 7))).drop p = (xs.drop p).take (D + 7) := by rw [List.drop_take]; congr 1; omega
    have hsA : ∀ V : World, Src V ao len cap xs → Src V (cutA ao cap p) (D + 7) (cap - p) ((xs.drop p).take (D + 7)) := fun V hV => by
      have h := hV.cut p (p + (D + 7)) (by omega) hDl
      rwa [ed, show p + (D + 7) - p = D + 7 by omega] at h
    have sl : ∀ X : World, (Instr.slice 24 (.slice ao len cap) (some (.int .i64 (p : Int))) (some (.int .i64 ((p : Int) + ((D : Int) + 7)))) none).run Tryd.prog X = .ok (.slice (cutA ao cap p) (D + 7) (cap - p)) X := fun X => by
      rw [slice_lh X ao len cap _ _ p (p + (D + 7)) rfl (by omega) (by omega) (by omega), show p + (D + 7) - p = D + 7 by omega]
    generalize cutA ao cap p = A at sl hsA
    have hcont : slipD (xs.drop p) = dataOf ((xs.drop p).take (D + 7)) := by unfold slipD; rw [he, if_pos rfl]; congr 2
    have hkind : slipK (xs.drop p) = (xs.drop p).getD 0 0 := by unfold slipK; rw [he]; simp
    have HK0 : Hid (((xs.drop p).take (D + 7)).getD 0 0 = (xs.drop p).getD 0 0) := by unfold Hid; simp [List.getD]
    rw [hcont, hkind] at hYx
    rw [he]
    obtain ⟨t, ht⟩ : ∃ t, (xs.drop p).getD 0 0 = t := ⟨_, rfl⟩
    rw [ht] at hYx HK0
    simp only at hYx ⊢
    have hz := hE.size
    rw [← hrec] at hl
    refine range_roundA (a₁ := ?A2) hfn hl rfl hl ?_ ?_
    rotate_left
    · intro K hK
      gi_wp2
      exact hK
    · rw [hrec]
      clear hl
      have E9 : EJ N l ao len cap (r .busy none) (W1.putObj (N + 3) (.loop (r .busy none))) := hE.put _
      have B9 : Below N W1 (W1.putObj (N + 3) (.loop (r .busy none))) := belowPut (by omega)
      have J9 := hK _ _ _ hJ B9
      gi_wp2
      rename_i K hK
      have HK2 := hide hK
      clear hK
      generalize W1.putObj (N + 3) (.loop (r .busy none)) = W9 at E9 B9 J9 ⊢
      have cy := E9.yb.cell
      have ck : W9.cell? ⟨B, 0, none⟩ = some (.slice ao len cap) := (hH _ _ J9).2.2.cell
      have HS9 : Hid (Src W9.drew A (D + 7) (cap - p) ((xs.drop p).take (D + 7))) := (hsA W9 (hH _ _ J9).2.1).drewN 1
      have z9 := E9.size
      have toB : ∀ {w1 : World}, Below W9.drew.heap.size W9.drew w1 → Below W9.heap.size W9 w1 := fun h => ⟨h.os, h.tape, h.output, h.size, h.block⟩
      have HB1 : Hid (∀ w1 : World, Below W9.drew.heap.size W9.drew w1 → w1.cell? ⟨N, 0, none⟩ = some (.func (.yield l) #[] #[])) := fun w1 B1 => ((toB B1).cell (p := ⟨N, 0, none⟩) (by simp; omega)).trans cy
      have HE1 : ∀ w1 : World, Below W9.drew.heap.size W9.drew w1 → EJ N l ao len cap (r .busy none) w1 := fun w1 B1 => E9.kept (fun k k1 k2 => (toB B1).block k (by omega))
      have HYW : Hid (∀ (w1 : World) (v : Value), Below W9.drew.heap.size W9.drew w1 → OwnB w1 W9.drew.heap.size v (dataOf ((xs.drop p).take (D + 7))) → YieldAt Fence.wide 4 Tryd.prog l #[.int .i64 (p : Int), .agg #[.int .i64 t, v]] w1 fun e W' => (e = .returned (.bool true) ∧ J (pre ++ [x]) W' ∧ KN N v w1 W') ∨ (e = .returned (.bool false) ∧ Jx (pre ++ [x]) W' ∧ KN N v w1 W')) := fun w1 v B1 ho =>
        hYx w1 v (hK _ _ _ J9 ((toB B1).mono (by omega))) (by have := (HE1 w1 B1).size; omega) (ho.rebase (by show N ≤ W9.heap.size; omega)) hpre hpfx
      have HE3 : ∀ (w1 W3 : World) (v : Value), Below W9.drew.heap.size W9.drew w1 → OwnB w1 W9.drew.heap.size v (dataOf ((xs.drop p).take (D + 7))) → KN N v w1 W3 → EJ N l ao len cap (r .busy none) W3 := fun w1 W3 v B1 ho hk =>
        (HE1 w1 B1).kept (fun k k1 k2 => hk.rest k k1 (by have := (HE1 w1 B1).size; omega) (fun e => by have h9 : W9.heap.size ≤ k := (ho.lt k e).1; omega))
      have HFIN : Hid (∀ (w1 W3 : World) (v : Value), Below W9.drew.heap.size W9.drew w1 → OwnB w1 W9.drew.heap.size v (dataOf ((xs.drop p).take (D + 7))) → J (pre ++ [x]) W3 → KN N v w1 W3 → W3.heap[N + 3]? = some (.loop (r .busy none)) ∧ (J (pre ++ [x]) (W3.putObj (N + 3) (.loop (r .ready none))) ∧ EJ N l ao len cap (r .ready none) (W3.putObj (N + 3) (.loop (r .ready none))))) := fun w1 W3 v B1 ho hJ3 hk => by
        have E3 := HE3 w1 W3 v B1 ho hk
        have E4 := E3.put (r .ready none)
        exact ⟨E3.loop, hK _ _ _ hJ3 (belowPut (by omega)), E4⟩
      have HFIX : Hid (∀ (w1 W3 : World) (v : Value), Below W9.drew.heap.size W9.drew w1 → OwnB w1 W9.drew.heap.size v (dataOf ((xs.drop p).take (D + 7))) → Jx (pre ++ [x]) W3 → KN N v w1 W3 → W3.heap[N + 3]? = some (.loop (r .busy none)) ∧ Jx (pre ++ [x]) (W3.putObj (N + 3) (.loop (r .done (some .ret)))) ∧ EJ N l ao len cap (r .done (some .ret)) (W3.putObj (N + 3) (.loop (r .done (some .ret))))) := fun w1 W3 v B1 ho hJ3 hk => by
        have E3 := HE3 w1 W3 v B1 ho hk
        exact ⟨E3.loop, hKx _ _ _ hJ3 (belowPut (by omega)), E3.put _⟩
      clear HE1 HE3 toB hsA
      clear E9 B9
      refine wpIn_region_any (by kernel_rfl) (wpAnyIn_inRound (F := Fence.wide) _ rfl (nd_of _ (by kernel_rfl)) _ _ _ _ ?_)
      change wpAnyIn _ _ _ _ _ _ _ _ _ (World.drew _)
      refine wpAnyIn_take (i := 1) (v := ?_) rfl rfl (by kernel_rfl) (by kernel_rfl) (by kernel_rfl) (fun _ _ _ h => h) ⟨Or.inl ⟨by rfl, ?_⟩, fun _ => rfl⟩ ?_
      rotate_left
      · intro wq
        go_simp
        try with_reducible rfl
      simp only [List.getElem_toArray, List.getElem_cons_succ, List.getElem_cons_zero, Act.put, List.setIfInBounds_toArray, List.set_cons_zero, List.set_cons_succ]
      refine wpAnyIn_take (i := 3) (v := ?_) rfl rfl (by kernel_rfl) (by kernel_rfl) (by kernel_rfl) (fun _ _ _ h => h) ⟨Or.inl ⟨by rfl, ?_⟩, fun _ => rfl⟩ ?_
      rotate_left
      · intro wq
        go_simp
        try with_reducible rfl
      simp only [List.getElem_toArray, List.getElem_cons_succ, List.getElem_cons_zero, Act.put, List.setIfInBounds_toArray, List.set_cons_zero, List.set_cons_succ]
      refine wpAnyIn_take (i := 4) (v := ?_) rfl rfl (by kernel_rfl) (by kernel_rfl) (by kernel_rfl) (fun _ _ _ h => h) ⟨Or.inl ⟨by rfl, ?_⟩, fun _ => rfl⟩ ?_
      rotate_left
      · intro wq
        go_simp
        try with_reducible rfl
      simp only [List.getElem_toArray, List.getElem_cons_succ, List.getElem_cons_zero, Act.put, List.setIfInBounds_toArray, List.set_cons_zero, List.set_cons_succ]
      refine wpAnyIn_ready (rs := [0, 2]) (by kernel_rfl) (by simp) ?_
      refine AllReadyIn.cons rfl (fun K hK => ?_) (AllReadyIn.cons rfl (fun K hK => ?_) AllReadyIn.nil)
      · go_simp
        refine hK _ _ ?_
        clear hK K
        refine wpAnyIn_ready (rs := [2]) (by kernel_rfl) (by simp) ?_
        refine AllReadyIn.cons rfl (fun K hK => ?_) AllReadyIn.nil
        go_simp
        refine hK _ _ ?_
        clear hK K
        refine wpAnyIn_take (i := 5) (v := ?_) rfl rfl (by kernel_rfl) (by kernel_rfl) (by kernel_rfl) (fun _ _ _ h => h) ⟨Or.inl ⟨by rfl, ?_⟩, fun _ => rfl⟩ ?_
        rotate_left
        · intro wq
          go_simp
          try with_reducible rfl
        simp only [List.getElem_toArray, List.getElem_cons_succ, List.getElem_cons_zero, Act.put, List.setIfInBounds_toArray, List.set_cons_zero, List.set_cons_succ]
        refine wpAnyIn_ready (rs := [6]) (by kernel_rfl) (by simp) ?_
        refine AllReadyIn.cons rfl (fun K hK => ?_) AllReadyIn.nil
        go_simp
        refine ⟨trivial, ?_⟩
        refine (callsIn_wide.2 (read_any A (D + 7) (cap - p) ((xs.drop p).take (D + 7)) _ HS9.out (by omega) (by omega))).mono ?_
        rintro e w1 ⟨ao', c', rfl, ho, B1⟩
        rw [HK0.out, show D + 7 - 7 = D by omega]
        rw [show D + 7 - 7 = D by omega] at ho
        have cy1 := HB1.out w1 B1
        refine hK _ _ ?_
        clear hK K
        refine wpAnyIn_ready (rs := [7]) (by kernel_rfl) (by simp) ?_
        refine AllReadyIn.cons rfl (fun K hK => ?_) AllReadyIn.nil
        obtain ⟨fn', tmps', assign', body', hy, hR⟩ := HYW.out w1 (.slice ao' D c') B1 ho
        go_simp
        refine hR.mono ?_
        rintro e W3 (⟨rfl, hJ3, hk3⟩ | ⟨rfl, hJx3, hk3⟩)
        · refine hK _ _ ?_
          clear hK K hy hR
          refine wpAnyIn_ready (rs := [8]) (by kernel_rfl) (by simp) ?_
          refine AllReadyIn.cons rfl (fun K hK => ?_) AllReadyIn.nil
          go_simp
          refine hK _ _ ?_
          clear hK K
          refine wpAnyIn_done (by kernel_rfl) ?_ _
          refine HK2.out _ _ ?_
          have FIN := hide (HFIN.out w1 W3 (.slice ao' D c') B1 ho hJ3 hk3)
          clear hJ3 hk3 B1 ho cy1
          gi_wp2
          exact ⟨FIN.out.1, .inl ⟨rfl, FIN.out.2⟩⟩
        · refine hK _ _ ?_
          clear hK K hy hR
          refine wpAnyIn_ready (rs := [8]) (by kernel_rfl) (by simp) ?_
          refine AllReadyIn.cons rfl (fun K hK => ?_) AllReadyIn.nil
          go_simp
          refine hK _ _ ?_
          clear hK K
          refine wpAnyIn_done (by kernel_rfl) ?_ _
          refine HK2.out _ _ ?_
          have FIN := hide (HFIX.out w1 W3 (.slice ao' D c') B1 ho hJx3 hk3)
          clear hJx3 hk3 B1 ho cy1
          gi_wp2
          exact ⟨FIN.out.1, .inr ⟨rfl, FIN.out.2⟩⟩
      · go_simp
        refine hK _ _ ?_
        clear hK K
        refine wpAnyIn_take (i := 5) (v := ?_) rfl rfl (by kernel_rfl) (by kernel_rfl) (by kernel_rfl) (fun _ _ _ h => h) ⟨Or.inl ⟨by rfl, ?_⟩, fun _ => rfl⟩ ?_
        rotate_left
        · intro wq
          go_simp
          try with_reducible rfl
        simp only [List.getElem_toArray, List.getElem_cons_succ, List.getElem_cons_zero, Act.put, List.setIfInBounds_toArray, List.set_cons_zero, List.set_cons_succ]
        refine wpAnyIn_ready (rs := [0, 6]) (by kernel_rfl) (by simp) ?_
        refine AllReadyIn.cons rfl (fun K hK => ?_) (AllReadyIn.cons rfl (fun K hK => ?_) AllReadyIn.nil)
        · go_simp
          refine hK _ _ ?_
          clear hK K
          refine wpAnyIn_ready (rs := [6]) (by kernel_rfl) (by simp) ?_
          refine AllReadyIn.cons rfl (fun K hK => ?_) AllReadyIn.nil
          go_simp
          refine ⟨trivial, ?_⟩
          refine (callsIn_wide.2 (read_any A (D + 7) (cap - p) ((xs.drop p).take (D + 7)) _ HS9.out (by omega) (by omega))).mono ?_
          rintro e w1 ⟨ao', c', rfl, ho, B1⟩
          rw [HK0.out, show D + 7 - 7 = D by omega]
          rw [show D + 7 - 7 = D by omega] at ho
          have cy1 := HB1.out w1 B1
          refine hK _ _ ?_
          clear hK K
          refine wpAnyIn_ready (rs := [7]) (by kernel_rfl) (by simp) ?_
          refine AllReadyIn.cons rfl (fun K hK => ?_) AllReadyIn.nil
          obtain ⟨fn', tmps', assign', body', hy, hR⟩ := HYW.out w1 (.slice ao' D c') B1 ho
          go_simp
          refine hR.mono ?_
          rintro e W3 (⟨rfl, hJ3, hk3⟩ | ⟨rfl, hJx3, hk3⟩)
          · refine hK _ _ ?_
            clear hK K hy hR
            refine wpAnyIn_ready (rs := [8]) (by kernel_rfl) (by simp) ?_
            refine AllReadyIn.cons rfl (fun K hK => ?_) AllReadyIn.nil
            go_simp
            refine hK _ _ ?_
            clear hK K
            refine wpAnyIn_done (by kernel_rfl) ?_ _
            refine HK2.out _ _ ?_
            have FIN := hide (HFIN.out w1 W3 (.slice ao' D c') B1 ho hJ3 hk3)
            clear hJ3 hk3 B1 ho cy1
            gi_wp2
            exact ⟨FIN.out.1, .inl ⟨rfl, FIN.out.2⟩⟩
          · refine hK _ _ ?_
            clear hK K hy hR
            refine wpAnyIn_ready (rs := [8]) (by kernel_rfl) (by simp) ?_
            refine AllReadyIn.cons rfl (fun K hK => ?_) AllReadyIn.nil
            go_simp
            refine hK _ _ ?_
            clear hK K
            refine wpAnyIn_done (by kernel_rfl) ?_ _
            refine HK2.out _ _ ?_
            have FIN := hide (HFIX.out w1 W3 (.slice ao' D c') B1 ho hJx3 hk3)
            clear hJx3 hk3 B1 ho cy1
            gi_wp2
            exact ⟨FIN.out.1, .inr ⟨rfl, FIN.out.2⟩⟩
        · go_simp
          refine ⟨trivial, ?_⟩
          refine (callsIn_wide.2 (read_any A (D + 7) (cap - p) ((xs.drop p).take (D + 7)) _ HS9.out (by omega) (by omega))).mono ?_
          rintro e w1 ⟨ao', c', rfl, ho, B1⟩
          rw [HK0.out, show D + 7 - 7 = D by omega]
          rw [show D + 7 - 7 = D by omega] at ho
          have cy1 := HB1.out w1 B1
          refine hK _ _ ?_
          clear hK K
          refine wpAnyIn_ready (rs := [0]) (by kernel_rfl) (by simp) ?_
          refine AllReadyIn.cons rfl (fun K hK => ?_) AllReadyIn.nil
          go_simp
          refine hK _ _ ?_
          clear hK K
          refine wpAnyIn_ready (rs := [7]) (by kernel_rfl) (by simp) ?_
          refine AllReadyIn.cons rfl (fun K hK => ?_) AllReadyIn.nil
          obtain ⟨fn', tmps', assign', body', hy, hR⟩ := HYW.out w1 (.slice ao' D c') B1 ho
          go_simp
          refine hR.mono ?_
          rintro e W3 (⟨rfl, hJ3, hk3⟩ | ⟨rfl, hJx3, hk3⟩)
          · refine hK _ _ ?_
            clear hK K hy hR
            refine wpAnyIn_ready (rs := [8]) (by kernel_rfl) (by simp) ?_
            refine AllReadyIn.cons rfl (fun K hK => ?_) AllReadyIn.nil
            go_simp
            refine hK _ _ ?_
            clear hK K
            refine wpAnyIn_done (by kernel_rfl) ?_ _
            refine HK2.out _ _ ?_
            have FIN := hide (HFIN.out w1 W3 (.slice ao' D c') B1 ho hJ3 hk3)
            clear hJ3 hk3 B1 ho cy1
            gi_wp2
            exact ⟨FIN.out.1, .inl ⟨rfl, FIN.out.2⟩⟩
          · refine hK _ _ ?_
            clear hK K hy hR
            refine wpAnyIn_ready (rs := [8]) (by kernel_rfl) (by simp) ?_
            refine AllReadyIn.cons rfl (fun K hK => ?_) AllReadyIn.nil
            go_simp
            refine hK _ _ ?_
            clear hK K
            refine wpAnyIn_done (by kernel_rfl) ?_ _
            refine HK2.out _ _ ?_
            have FIN := hide (HFIX.out w1 W3 (.slice ao' D c') B1 ho hJx3 hk3)
            clear hJx3 hk3 B1 ho cy1
            gi_wp2
            exact ⟨FIN.out.1, .inr ⟨rfl, FIN.out.2⟩⟩
  · rintro e W' ⟨⟨v, rfl⟩, ⟨ys, hys, hJ, hE⟩ | ⟨pre, hpre, hJ, hE⟩⟩
    · have hl := hE.loop
      rw [← hrec] at hl
      refine range_done hl ?_
      rw [hrec]
      have hE2 := hE.put (r .exhausted none)
      have hJ2 := hK _ _ _ hJ (belowPut (A := W') (o := .loop (r .exhausted none)) (show N ≤ N + 3 by omega))
      generalize W'.putObj (N + 3) (.loop (r .exhausted none)) = W9 at hE2 hJ2 ⊢
      have hd := hE2.dfr
      show LeavesInM _ _ _ _ _ _ _ _ _
      refine ⟨by simp, .inl ⟨_, _, rfl, run_takeDeferred hd, ?_⟩⟩
      exact ⟨.tuple #[], results_none rfl _ _ _, ⟨_, rfl⟩, .inl ⟨ys, hys, hK _ _ _ hJ2 (belowPut (by omega))⟩⟩
    · have hl := hE.loop
      rw [← hrec] at hl
      refine range_left hl ?_
      rw [hrec]
      have hE2 := hE.put (r .exhausted (some .ret))
      have hJ2 := hKx _ _ _ hJ (belowPut (A := W') (o := .loop (r .exhausted (some .ret))) (show N ≤ N + 3 by omega))
      generalize W'.putObj (N + 3) (.loop (r .exhausted (some .ret))) = W9 at hE2 hJ2 ⊢
      have hd := hE2.dfr
      clear hl hE hJ
      gi_wp2
      show LeavesInM _ _ _ _ _ _ _ _ _
      refine ⟨by simp, .inl ⟨_, _, rfl, run_takeDeferred hd, ?_⟩⟩
      exact ⟨.tuple #[], results_none rfl _ _ _, ⟨_, rfl⟩, .inr ⟨pre, hpre, hKx _ _ _ hJ2 (belowPut (by omega))⟩⟩

end Go.Proofs.YtilkbjohekhjcaaDoor
