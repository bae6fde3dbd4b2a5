/-
  The function that der.Each answers, told by what the caller keeps: rounds may write rows of their own that lie above the call.
-/
import Derived.Test.YtklchpdpooikdaaGreatDoorXEachIt
namespace Go.Proofs.YtklchpdpooikdaaGreatDoor
open Go.RowKit Go.Shelf Go.IntWalk
attribute [local go_sem] Oper.semAt_some

theorem nbelowE (W : World) (o : Obj) : Below W.heap.size W (W.alloc o) := (Below.refl _ _).alloc (Nat.le_refl _) _

/-- Each span stays. -/
def SpK (A B : World) : Prop := ∀ (k : Nat) (c : Array Value), A.heap[k]? = some (Obj.cells c 165 (0, 0)) → B.heap[k]? = some (Obj.cells c 165 (0, 0))
/-- What a round keeps: each span, and the four blocks that the function laid. -/
structure KJe (N0 : Nat) (A B : World) : Prop where
  span : SpK A B
  rest : ∀ k, N0 ≤ k → k < N0 + 4 → B.heap[k]? = A.heap[k]?
/-- What der.Each's function keeps while it runs. -/
structure EJe (N l : Nat) (ao : Option Addr) (len cap : Nat) (lp : Loop) (A : World) : Prop where
  yb : Boxed A N 170 (.func (.yield l) #[] #[])
  sb : Boxed A (N + 1) 64 (.slice ao len cap)
  dfr : A.heap[N + 2]? = some (.deferred (some []))
  loop : A.heap[N + 3]? = some (.loop lp)
theorem EJe.kept {N l : Nat} {ao : Option Addr} {len cap : Nat} {lp : Loop} {A C : World} (h : EJe N l ao len cap lp A) (hk : ∀ k, N ≤ k → k < N + 4 → C.heap[k]? = A.heap[k]?) : EJe N l ao len cap lp C :=
  ⟨(hk N (by omega) (by omega)).trans h.yb, (hk (N + 1) (by omega) (by omega)).trans h.sb, (hk (N + 2) (by omega) (by omega)).trans h.dfr, (hk (N + 3) (by omega) (by omega)).trans h.loop⟩
theorem EJe.size {N l : Nat} {ao : Option Addr} {len cap : Nat} {lp : Loop} {A : World} (h : EJe N l ao len cap lp A) : N + 4 ≤ A.heap.size := (Array.getElem?_eq_some_iff.1 h.loop).1
theorem EJe.put {N l : Nat} {ao : Option Addr} {len cap : Nat} {lp : Loop} {A : World} (h : EJe N l ao len cap lp A) (lp' : Loop) : EJe N l ao len cap lp' (A.putObj (N + 3) (.loop lp')) := by
  have hlt : N + 3 < A.heap.size := h.size
  exact ⟨(World.putObj_heap_other (by omega)).trans h.yb, (World.putObj_heap_other (by omega)).trans h.sb, (World.putObj_heap_other (by omega)).trans h.dfr, World.putObj_heap_same hlt⟩

set_option maxRecDepth 100000 in
set_option maxHeartbeats 4000000 in
theorem spansE_J (n : Nat) (hn : 1 ≤ n) (l Bs : Nat) (ao : Option Addr) (len cap : Nat) (xs : List Int) (hN : (len : Int) ≤ 140737488355328) (J Jx : List (Pl xs) → World → Prop) (W : World)
    (hH : ∀ pre W1, J pre W1 → Src W1 ao len cap xs ∧ W1.cell? ⟨Bs, 0, none⟩ = some (.slice ao len cap))
    (hK : ∀ pre A C, J pre A → Below A.heap.size A C → J pre C)
    (hY : ∀ pre x W1, J pre W1 → pre.length < xs.length → (pre ++ [x]).map (·.1) <+: placesS xs 0 → YieldAt Fence.wide (n - 1) Tryz.prog l (encP xs x) W1 fun e W' =>
      (e = .returned (.bool true) ∧ J (pre ++ [x]) W' ∧ SpK W1 W') ∨ (e = .returned (.bool false) ∧ Jx (pre ++ [x]) W'))
    (h0 : J [] W) :
    CallsIn Fence.wide n Tryz.prog 167 #[.func (.yield l) #[] #[], .pointer (some ⟨Bs, 0, none⟩)] W fun e W' => (∃ v, e = .returned v) ∧
      ((∃ ys : List (Pl xs), ys.map (·.1) = placesS xs 0 ∧ J ys W') ∨ (∃ pre : List (Pl xs), pre.map (·.1) <+: placesS xs 0 ∧ Jx pre W')) := by
  have hs := (hH _ _ h0).1
  have hl := hs.hlen
  have hnc := hs.hcap
  refine callsIn_of_wp Tryz.func167 rfl trivial ?_ rfl
  simp only [Tryz.ntmps167, List.size_toArray, List.length_cons, List.length_nil, Nat.reduceAdd, Nat.reduceSub, Array.replicate_succ, Array.replicate_zero, List.push_toArray, List.append_toArray, List.nil_append, List.cons_append]
  gi_wp2
  gi_loopw [3] (fun i wr => ∃ (p : Nat) (pre : List (Pl xs)), i = .int .i64 p ∧ p ≤ len ∧ pre.map (·.1) ++ placesS xs p = placesS xs 0 ∧ pre.length ≤ p ∧ J pre wr)
    (fun i _ => len - (intOf i).toNat)
  case atStart => exact ⟨0, [], rfl, Nat.zero_le _, by simp, by simp, h0⟩
  case round =>
    obtain ⟨p, pre, rfl, hp, hpl, hpn, hJs⟩ := hrel
    obtain ⟨hsr, hc⟩ := hH _ _ hJs
    clear hs
    by_cases hlt : p < len
    · have hs1 := hsr.cut p len hp (Nat.le_refl _)
      have ed : (xs.take len).drop p = xs.drop p := by rw [List.take_of_length_le (by omega)]
      rw [ed] at hs1
      have sl := fun X => slice_lo X ao len cap p p rfl hp
      generalize cutA ao cap p = A at hs1 sl
      have hltI : (p : Int) < (len : Int) := by omega
      rcases findS_cases (xs.drop p) hs1.hbyt with ⟨err, h1, h2, h3, he⟩ | ⟨a, b, he, h1, h2, h3, h4, h5⟩
      · have HE := hide he
        have HP := hide hpl
        have h1' : (err != 0) = true := by simpa using h1
        clear he h1 hl hpl ed
        gi_wp2_with (refine ⟨trivial, ?_⟩; gi_at_call 144; refine (callsIn_wide.2 (find_any _ _ _ (xs.drop p) _ (by exact hs1) (by omega))).mono ?_; rintro e w1 ⟨rfl, B1⟩; rw [HE.out]; unfold spanV; have J1 := hK _ _ _ hJs B1)
        refine ⟨fun _ h => (by cases h), ?_⟩
        gi_wp2
        refine bodyPost_ret (results_none rfl _ _ _) rfl ?_
        exact ⟨⟨_, rfl⟩, .inl ⟨pre, by rw [← HP.out, places_bad xs p err HE.out, List.append_nil], hK _ _ _ J1 (nbelowE _ _)⟩⟩
      · have hb : p + b ≤ len := by simp [hl] at h4; omega
        have hx : (findS (xs.drop p)).2.2.2 = 0 := by rw [he]
        obtain ⟨x, hxp⟩ : ∃ x : Pl xs, x.1 = p := ⟨⟨p, by omega, hx⟩, rfl⟩
        have hpl' : (pre ++ [x]).map (·.1) ++ placesS xs (p + b) = placesS xs 0 := by
          rw [← hpl, places_ok xs p _ a b (by omega) he (by omega)]; simp [hxp]
        obtain ⟨t, ht⟩ : ∃ t, (xs.drop p).getD 0 0 = t := ⟨_, rfl⟩
        rw [ht] at he
        have hE : encP xs x = #[.int .i64 (p : Int), .agg #[.int .i64 t, .int .i64 (a : Int), .int .i64 (b : Int)]] := by simp only [encP, hxp, he]
        have hY' := fun W1 (h : J pre W1) => hY pre x W1 h (by omega) ⟨_, hpl'⟩
        rw [hE] at hY'
        have HY := hide hY'
        have HE := hide he
        have HP := hide hpl'
        clear he hx hl hpl hpl' ed ht hY hY' hE hxp h4
        gi_wp2_with (refine ⟨trivial, ?_⟩; gi_at_call 144; refine (callsIn_wide.2 (find_any _ _ _ (xs.drop p) _ (by exact hs1) (by omega))).mono ?_; rintro e w1 ⟨rfl, B1⟩; rw [HE.out]; unfold spanV; have J1 := hK _ _ _ hJs B1; obtain ⟨fn, tmps, assign, body, hy, hR⟩ := HY.out (w1.alloc (.cells #[.int .i64 t, .int .i64 a, .int .i64 b] 165)) (hK _ _ _ J1 (nbelowE _ _)))
        refine hR.mono ?_
        rintro e W3 (⟨rfl, hJ3, hk3⟩ | ⟨rfl, hJx3⟩)
        · have hb3 := hk3 w1.heap.size #[.int .i64 t, .int .i64 a, .int .i64 b] (World.alloc_heap_new _ _)
          have hc3 : W3.cell? ⟨w1.heap.size, 2, none⟩ = some (.int .i64 b) := by simp [World.cell?, hb3]
          have hd3 := (hH _ _ hJ3).2
          clear hb3
          gi_wp2
          go_roundw
          case rel => exact ⟨p + b, pre ++ [x], by simp, hb, HP.out, by simp; omega, hJ3⟩
          case measure => simp [intOf]; omega
        · gi_wp2
          refine bodyPost_ret (results_none rfl _ _ _) rfl ?_
          exact ⟨⟨_, rfl⟩, .inr ⟨pre ++ [x], ⟨_, HP.out⟩, hJx3⟩⟩
    · obtain rfl : p = len := by omega
      gi_wp2
      go_end0
      exact ⟨⟨_, rfl⟩, .inl ⟨pre, by rw [← hpl, places_end xs p (by omega), List.append_nil], hJs⟩⟩


set_option maxRecDepth 100000 in
set_option maxHeartbeats 4000000 in
theorem eachE_J (l B : Nat) (ao : Option Addr) (len cap : Nat) (xs : List Int) (hN : (len : Int) ≤ 4398046511104) (J Jx : List (Pl xs) → World → Prop) (W : World)
    (hH : ∀ pre W1, J pre W1 → Src W1 ao len cap xs ∧ Boxed W1 B 64 (.slice ao len cap))
    (hG : ∀ pre A C, J pre A → Below A.heap.size A C → J pre C)
    (hP : ∀ pre A k o x, J pre A → W.heap.size ≤ k → A.heap[k]? = some x → x.isCells = false → J pre (A.putObj k o))
    (hPx : ∀ pre A k o x, Jx pre A → W.heap.size ≤ k → A.heap[k]? = some x → x.isCells = false → Jx pre (A.putObj k o))
    (hY : ∀ pre x W1 v, J pre W1 → W.heap.size + 4 ≤ W1.heap.size → OwnB W1 (W.heap.size + 4) v (contS (xs.drop x.1)) → pre.length < xs.length → (pre ++ [x]).map (·.1) <+: placesS xs 0 →
      YieldAt Fence.wide 4 Tryz.prog l #[.int .i64 (x.1 : Int), .agg #[.int .i64 (findS (xs.drop x.1)).1, v]] W1 fun e W' =>
        (e = .returned (.bool true) ∧ J (pre ++ [x]) W' ∧ KJe W.heap.size W1 W') ∨ (e = .returned (.bool false) ∧ Jx (pre ++ [x]) W' ∧ KJe W.heap.size W1 W'))
    (h0 : J [] W) :
    CallsIn Fence.wide 7 Tryz.prog 147 #[.func (.yield l) #[] #[], .pointer (some ⟨B, 0, none⟩)] W fun e W' => (∃ v, e = .returned v) ∧
      ((∃ ys : List (Pl xs), ys.map (·.1) = placesS xs 0 ∧ J ys W') ∨ (∃ pre : List (Pl xs), pre.map (·.1) <+: placesS xs 0 ∧ Jx pre W')) := by
  refine callsIn_of_wp_marks Tryz.func147 rfl trivial ?_ rfl
  simp only [Tryz.ntmps147, List.size_toArray, List.length_cons, List.length_nil, Nat.reduceAdd, Nat.reduceSub, Array.replicate_succ, Array.replicate_zero, List.push_toArray, List.append_toArray, List.nil_append, List.cons_append]
  have hbW : Boxed W B 64 (.slice ao len cap) := (hH _ _ h0).2
  have hs := (hH _ _ h0).1
  have cB := (hbW.alloc (.cells #[.func (.yield l) #[] #[]] 170)).cell
  gi_wp2_with (refine ⟨trivial, ?_⟩; gi_at_call 148; refine (spans_in _ _ _ _ _).mono ?_; rintro e w' ⟨rfl, rfl⟩)
  have bY := (Boxed.new W 170 (.func (.yield l) #[] #[])).alloc (.cells #[.slice ao len cap] 64)
  have bS := Boxed.new (W.alloc (.cells #[.func (.yield l) #[] #[]] 170)) 64 (.slice ao len cap)
  have bB := (hbW.alloc (.cells #[.func (.yield l) #[] #[]] 170)).alloc (.cells #[.slice ao len cap] 64)
  have z2 : ((W.alloc (.cells #[.func (.yield l) #[] #[]] 170)).alloc (.cells #[.slice ao len cap] 64)).heap.size = W.heap.size + 2 := by simp
  have B2 : Below W.heap.size W ((W.alloc (.cells #[.func (.yield l) #[] #[]] 170)).alloc (.cells #[.slice ao len cap] 64)) := ((Below.refl _ _).alloc (Nat.le_refl _) _).alloc (by simp) _
  rw [World.size_alloc] at bS
  generalize (W.alloc (.cells #[.func (.yield l) #[] #[]] 170)).alloc (.cells #[.slice ao len cap] 64) = W2 at bY bS bB z2 B2 ⊢
  refine range_enter rfl (by decide) (gf := 167) (lb := #[.pointer (some ⟨W.heap.size + 1, 0, none⟩)]) rfl trivial (enters_of Tryz.func167 (by kernel_rfl) rfl) ?_
  intro fn hfn
  generalize hrec : recOf fn _ _ _ _ _ = r
  obtain ⟨N, hNe⟩ : ∃ N, W.heap.size = N := ⟨_, rfl⟩
  have W8e : EJe N l ao len cap (r .ready none) ((W2.alloc (.deferred (some []))).alloc (.loop (r .ready none))) := by
    rw [← hNe]
    refine ⟨(bY.alloc _).alloc _, (bS.alloc _).alloc _, ?_, ?_⟩
    · rw [← z2, Below.heap_alloc _ _ _ (by simp)]; exact World.alloc_heap_new W2 _
    · have := World.alloc_heap_new (W2.alloc (.deferred (some []))) (.loop (r .ready none)); rw [World.size_alloc, z2] at this; exact this
  have B8 : Below N W ((W2.alloc (.deferred (some []))).alloc (.loop (r .ready none))) := by
    rw [← hNe]
    exact (B2.alloc (by omega) _).alloc (by simp; omega) _
  have J8 := hG _ _ _ h0 (show Below W.heap.size W _ by rw [hNe]; exact B8)
  rw [hNe] at z2 hP hPx hY
  rw [z2] at hrec ⊢
  have z8 : ((W2.alloc (.deferred (some []))).alloc (.loop (r .ready none))).heap.size = N + 4 := by simp [z2]
  rw [hNe] at hrec ⊢
  clear hNe bY bS bB B2
  generalize (W2.alloc (.deferred (some []))).alloc (.loop (r .ready none)) = W8 at W8e B8 z8 J8 ⊢
  clear z2
  refine (spansE_J 6 (by decide) (N + 3) (N + 1) ao len cap xs (by omega) (fun pre A => J pre A ∧ EJe N l ao len cap (r .ready none) A) (fun pre A => Jx pre A ∧ EJe N l ao len cap (r .done (some .ret)) A) W8 (fun pre A h => ⟨(hH _ _ h.1).1, h.2.sb.cell⟩) ?_ ?_ ⟨J8, W8e⟩).mono ?_
  · rintro pre A C ⟨h1, h2⟩ hb
    have hz := h2.size
    exact ⟨hG _ _ _ h1 hb, h2.kept (fun k k1 k2 => hb.block k (by omega))⟩
  · rintro pre x W1 ⟨hJ, hE⟩ hpre hpfx
    have hl := hE.loop
    have hx := x.2
    have hYx := fun (V : World) v => hY pre x V v
    obtain ⟨p, hp⟩ : ∃ p, x.val = p := ⟨_, rfl⟩
    have hEnc : encP xs x = #[.int .i64 (p : Int), .agg #[.int .i64 (findS (xs.drop p)).1, .int .i64 (findS (xs.drop p)).2.1, .int .i64 (findS (xs.drop p)).2.2.1]] := by simp only [encP, hp]
    rw [hEnc]
    clear hEnc
    simp only [hp] at hYx
    rw [hp] at hx
    obtain ⟨hp1, hp2⟩ := hx
    have hnc := hs.hcap
    have hlen := hs.hlen
    have ed : (xs.take len).drop p = xs.drop p := by rw [List.take_of_length_le (by omega)]
    have hsA : ∀ V : World, Src V ao len cap xs → Src V (cutA ao cap p) (len - p) (cap - p) (xs.drop p) := fun V hV => by
      have h := hV.cut p len (by omega) (Nat.le_refl _)
      rwa [ed] at h
    have hs1 := hsA W1 (hH _ _ hJ).1
    have sl := fun X => slice_lo X ao len cap p p rfl (by omega)
    generalize cutA ao cap p = A at hs1 sl hsA
    rcases findS_cases (xs.drop p) hs1.hbyt with ⟨err, h1, h2, h3, he⟩ | ⟨a, b, he, h1, h2, h3, h4, h5⟩
    · rw [he] at hp2; exact (h1 hp2).elim
    have hcont : contS (xs.drop p) = ((xs.drop p).take b).drop a := by unfold contS; rw [he]; simp
    rw [hcont] at hYx
    rw [he] at hYx ⊢
    obtain ⟨t, ht⟩ : ∃ t, (xs.drop p).getD 0 0 = t := ⟨_, rfl⟩
    rw [ht] at hYx ⊢
    simp only at hYx ⊢
    have hbl : b ≤ len - p := by simp [hlen] at h4; omega
    have hz := hE.size
    have hl1 : (W1.alloc (.cells #[.int .i64 t, .int .i64 a, .int .i64 b] 165)).heap[N + 3]? = some (.loop (r .ready none)) := (Below.heap_alloc _ _ _ (by omega)).trans hl
    have J9 := hP pre _ (N + 3) (.loop (r .busy none)) _ (hG _ _ _ hJ (nbelowE W1 (.cells #[.int .i64 t, .int .i64 a, .int .i64 b] 165))) (by omega) hl1 rfl
    rw [← hrec] at hl hl1
    refine range_roundA (a₁ := ?A2) hfn hl rfl hl1 ?_ ?_
    rotate_left
    · intro K hK
      gi_wp2
      exact hK
    · rw [hrec]
      clear hl hl1
      have E9 : EJe N l ao len cap (r .busy none) ((W1.alloc (.cells #[.int .i64 t, .int .i64 a, .int .i64 b] 165)).putObj (N + 3) (.loop (r .busy none))) :=
        (hE.kept (fun k k1 k2 => Below.heap_alloc _ _ _ (by omega))).put _
      have B9 : Below N W1 ((W1.alloc (.cells #[.int .i64 t, .int .i64 a, .int .i64 b] 165)).putObj (N + 3) (.loop (r .busy none))) := ((Below.refl _ _).alloc (by omega) _).trans (belowPut (by omega))
      have X9 : ((W1.alloc (.cells #[.int .i64 t, .int .i64 a, .int .i64 b] 165)).putObj (N + 3) (.loop (r .busy none))).heap[W1.heap.size]? = some (Obj.cells #[.int .i64 t, .int .i64 a, .int .i64 b] 165 (0, 0)) := (World.putObj_heap_other (by omega)).trans (World.alloc_heap_new _ _)
      have S9 : ∀ (k : Nat) (c : Array Value), W1.heap[k]? = some (Obj.cells c 165 (0, 0)) → ((W1.alloc (.cells #[.int .i64 t, .int .i64 a, .int .i64 b] 165)).putObj (N + 3) (.loop (r .busy none))).heap[k]? = some (Obj.cells c 165 (0, 0)) := by
        intro k c h
        have hk : k ≠ N + 3 := by intro e; subst e; rw [hE.loop] at h; cases h
        exact (World.putObj_heap_other hk).trans ((Below.heap_alloc _ _ _ (Array.getElem?_eq_some_iff.1 h).1).trans h)
      gi_wp2
      rename_i K hK
      have HK2 := hide hK
      clear hK
      generalize (W1.alloc (.cells #[.int .i64 t, .int .i64 a, .int .i64 b] 165)).putObj (N + 3) (.loop (r .busy none)) = W9 at E9 B9 X9 S9 J9 ⊢
      have cy := E9.yb.cell
      have c0 : W9.cell? ⟨W1.heap.size, 0, none⟩ = some (.int .i64 t) := by simp [World.cell?, X9]
      have c1 : W9.cell? ⟨W1.heap.size, 1, none⟩ = some (.int .i64 a) := by simp [World.cell?, X9]
      have c2 : W9.cell? ⟨W1.heap.size, 2, none⟩ = some (.int .i64 b) := by simp [World.cell?, X9]
      have ck : W9.cell? ⟨B, 0, none⟩ = some (.slice ao len cap) := (hH _ _ J9).2.cell
      have HS9 : Hid (Src W9.drew A (len - p) (cap - p) (xs.drop p)) := (hsA W9 (hH _ _ J9).1).drewN 1
      have z9 := E9.size
      have toB : ∀ {w1 : World}, Below W9.drew.heap.size W9.drew w1 → Below W9.heap.size W9 w1 := fun h => ⟨h.os, h.tape, h.output, h.size, h.block⟩
      have HB1 : Hid (∀ w1 : World, Below W9.drew.heap.size W9.drew w1 → w1.cell? ⟨N, 0, none⟩ = some (.func (.yield l) #[] #[])) := fun w1 B1 => ((toB B1).cell (p := ⟨N, 0, none⟩) (by simp; omega)).trans cy
      have HE1 : ∀ w1 : World, Below W9.drew.heap.size W9.drew w1 → EJe N l ao len cap (r .busy none) w1 := fun w1 B1 => E9.kept (fun k k1 k2 => (toB B1).block k (by omega))
      have HYW : Hid (∀ (w1 : World) (v : Value), Below W9.drew.heap.size W9.drew w1 → OwnB w1 W9.drew.heap.size v (((xs.drop p).take b).drop a) → YieldAt Fence.wide 4 Tryz.prog l #[.int .i64 (p : Int), .agg #[.int .i64 t, v]] w1 fun e W' => (e = .returned (.bool true) ∧ J (pre ++ [x]) W' ∧ KJe N w1 W') ∨ (e = .returned (.bool false) ∧ Jx (pre ++ [x]) W' ∧ KJe N w1 W')) := fun w1 v B1 ho =>
        hYx w1 v (hG _ _ _ J9 (toB B1)) (HE1 w1 B1).size (ho.rebase (by show N + 4 ≤ W9.heap.size; omega)) hpre hpfx
      have HE3 : ∀ (w1 W3 : World) (v : Value), Below W9.drew.heap.size W9.drew w1 → OwnB w1 W9.drew.heap.size v (((xs.drop p).take b).drop a) → KJe N w1 W3 → EJe N l ao len cap (r .busy none) W3 := fun w1 W3 v B1 ho hk =>
        (HE1 w1 B1).kept (fun k k1 k2 => hk.rest k k1 k2)
      have HFIN : Hid (∀ (w1 W3 : World) (v : Value), Below W9.drew.heap.size W9.drew w1 → OwnB w1 W9.drew.heap.size v (((xs.drop p).take b).drop a) → J (pre ++ [x]) W3 → KJe N w1 W3 → W3.heap[N + 3]? = some (.loop (r .busy none)) ∧ (J (pre ++ [x]) (W3.putObj (N + 3) (.loop (r .ready none))) ∧ EJe N l ao len cap (r .ready none) (W3.putObj (N + 3) (.loop (r .ready none)))) ∧ SpK W1 (W3.putObj (N + 3) (.loop (r .ready none)))) := fun w1 W3 v B1 ho hJ3 hk => by
        have E3 := HE3 w1 W3 v B1 ho hk
        have E4 := E3.put (r .ready none)
        refine ⟨E3.loop, ⟨hP _ _ _ _ _ hJ3 (by omega) E3.loop rfl, E4⟩, fun k c hc => ?_⟩
        have h5 := hk.span k c (((toB B1).block k (Array.getElem?_eq_some_iff.1 (S9 k c hc)).1).trans (S9 k c hc))
        have hk3 : k ≠ N + 3 := by intro e; subst e; rw [E3.loop] at h5; cases h5
        exact (World.putObj_heap_other hk3).trans h5
      have HFIX : Hid (∀ (w1 W3 : World) (v : Value), Below W9.drew.heap.size W9.drew w1 → OwnB w1 W9.drew.heap.size v (((xs.drop p).take b).drop a) → Jx (pre ++ [x]) W3 → KJe N w1 W3 → W3.heap[N + 3]? = some (.loop (r .busy none)) ∧ Jx (pre ++ [x]) (W3.putObj (N + 3) (.loop (r .done (some .ret)))) ∧ EJe N l ao len cap (r .done (some .ret)) (W3.putObj (N + 3) (.loop (r .done (some .ret))))) := fun w1 W3 v B1 ho hJ3 hk => by
        have E3 := HE3 w1 W3 v B1 ho hk
        exact ⟨E3.loop, hPx _ _ _ _ _ hJ3 (by omega) E3.loop rfl, E3.put _⟩
      clear HE1 HE3 toB hsA
      clear E9 B9 X9 S9
      refine wpIn_region_any (by kernel_rfl) (wpAnyIn_inRound (F := Fence.wide) _ rfl (ndE_of _ (by kernel_rfl)) _ _ _ _ ?_)
      change wpAnyIn _ _ _ _ _ _ _ _ _ (World.drew _)
      refine wpAnyIn_take (i := 1) (v := ?_) rfl rfl (by kernel_rfl) (by kernel_rfl) (by kernel_rfl) (fun _ _ _ h => h) ⟨Or.inl ⟨by rfl, ?_⟩, fun _ => rfl⟩ ?_
      rotate_left
      · intro wq
        go_simp
        try with_reducible rfl
      simp only [List.getElem_toArray, List.getElem_cons_succ, List.getElem_cons_zero, Act.put, List.setIfInBounds_toArray, List.set_cons_zero, List.set_cons_succ]
      refine wpAnyIn_take (i := 4) (v := ?_) rfl rfl (by kernel_rfl) (by kernel_rfl) (by kernel_rfl) (fun _ _ _ h => h) ⟨Or.inl ⟨by rfl, ?_⟩, fun _ => rfl⟩ ?_
      rotate_left
      · intro wq
        go_simp
        try with_reducible rfl
      simp only [List.getElem_toArray, List.getElem_cons_succ, List.getElem_cons_zero, Act.put, List.setIfInBounds_toArray, List.set_cons_zero, List.set_cons_succ]
      refine wpAnyIn_ready (rs := [0, 2, 3]) (by kernel_rfl) (by simp) ?_
      refine AllReadyIn.cons rfl (fun K hK => ?_) (AllReadyIn.cons rfl (fun K hK => ?_) (AllReadyIn.cons rfl (fun K hK => ?_) AllReadyIn.nil))
      · go_simp
        refine hK _ _ ?_
        clear hK K
        refine wpAnyIn_ready (rs := [2, 3]) (by kernel_rfl) (by simp) ?_
        refine AllReadyIn.cons rfl (fun K hK => ?_) (AllReadyIn.cons rfl (fun K hK => ?_) AllReadyIn.nil)
        · go_simp
          refine hK _ _ ?_
          clear hK K
          refine wpAnyIn_ready (rs := [3]) (by kernel_rfl) (by simp) ?_
          refine AllReadyIn.cons rfl (fun K hK => ?_) AllReadyIn.nil
          go_simp
          refine hK _ _ ?_
          clear hK K
          refine wpAnyIn_take (i := 5) (v := ?_) rfl rfl (by kernel_rfl) (by kernel_rfl) (by kernel_rfl) (fun _ _ _ h => h) ⟨Or.inl ⟨by rfl, ?_⟩, fun _ => rfl⟩ ?_
          rotate_left
          · intro wq
            go_simp
            try with_reducible rfl
          simp only [List.getElem_toArray, List.getElem_cons_succ, List.getElem_cons_zero, Act.put, List.setIfInBounds_toArray, List.set_cons_zero, List.set_cons_succ]
          refine wpAnyIn_ready (rs := [6]) (by kernel_rfl) (by simp) ?_
          refine AllReadyIn.cons rfl (fun K hK => ?_) AllReadyIn.nil
          go_simp
          refine ⟨trivial, ?_⟩
          refine (callsIn_wide.2 (element_any t a b A (len - p) (cap - p) (xs.drop p) _ HS9.out (by omega) h3 hbl)).mono ?_
          rintro e w1 ⟨ao', c', rfl, ho, B1⟩
          have cy1 := HB1.out w1 B1
          refine hK _ _ ?_
          clear hK K
          refine wpAnyIn_ready (rs := [7]) (by kernel_rfl) (by simp) ?_
          refine AllReadyIn.cons rfl (fun K hK => ?_) AllReadyIn.nil
          obtain ⟨fn', tmps', assign', body', hy, hR⟩ := HYW.out w1 (.slice ao' (b - a) c') B1 ho
          go_simp
          refine hR.mono ?_
          rintro e W3 (⟨rfl, hJ3, hk3⟩ | ⟨rfl, hJx3, hk3⟩)
          · refine hK _ _ ?_
            clear hK K hy hR
            refine wpAnyIn_ready (rs := [8]) (by kernel_rfl) (by simp) ?_
            refine AllReadyIn.cons rfl (fun K hK => ?_) AllReadyIn.nil
            go_simp
            refine hK _ _ ?_
            clear hK K
            refine wpAnyIn_done (by kernel_rfl) ?_ _
            refine HK2.out _ _ ?_
            have FIN := hide (HFIN.out w1 W3 (.slice ao' (b - a) c') B1 ho hJ3 hk3)
            clear hJ3 hk3 B1 ho cy1
            gi_wp2
            exact ⟨FIN.out.1, .inl ⟨rfl, FIN.out.2.1, FIN.out.2.2⟩⟩
          · refine hK _ _ ?_
            clear hK K hy hR
            refine wpAnyIn_ready (rs := [8]) (by kernel_rfl) (by simp) ?_
            refine AllReadyIn.cons rfl (fun K hK => ?_) AllReadyIn.nil
            go_simp
            refine hK _ _ ?_
            clear hK K
            refine wpAnyIn_done (by kernel_rfl) ?_ _
            refine HK2.out _ _ ?_
            have FIN := hide (HFIX.out w1 W3 (.slice ao' (b - a) c') B1 ho hJx3 hk3)
            clear hJx3 hk3 B1 ho cy1
            gi_wp2
            exact ⟨FIN.out.1, .inr ⟨rfl, FIN.out.2.1, FIN.out.2.2⟩⟩
        · go_simp
          refine hK _ _ ?_
          clear hK K
          refine wpAnyIn_take (i := 5) (v := ?_) rfl rfl (by kernel_rfl) (by kernel_rfl) (by kernel_rfl) (fun _ _ _ h => h) ⟨Or.inl ⟨by rfl, ?_⟩, fun _ => rfl⟩ ?_
          rotate_left
          · intro wq
            go_simp
            try with_reducible rfl
          simp only [List.getElem_toArray, List.getElem_cons_succ, List.getElem_cons_zero, Act.put, List.setIfInBounds_toArray, List.set_cons_zero, List.set_cons_succ]
          refine wpAnyIn_ready (rs := [2]) (by kernel_rfl) (by simp) ?_
          refine AllReadyIn.cons rfl (fun K hK => ?_) AllReadyIn.nil
          go_simp
          refine hK _ _ ?_
          clear hK K
          refine wpAnyIn_ready (rs := [6]) (by kernel_rfl) (by simp) ?_
          refine AllReadyIn.cons rfl (fun K hK => ?_) AllReadyIn.nil
          go_simp
          refine ⟨trivial, ?_⟩
          refine (callsIn_wide.2 (element_any t a b A (len - p) (cap - p) (xs.drop p) _ HS9.out (by omega) h3 hbl)).mono ?_
          rintro e w1 ⟨ao', c', rfl, ho, B1⟩
          have cy1 := HB1.out w1 B1
          refine hK _ _ ?_
          clear hK K
          refine wpAnyIn_ready (rs := [7]) (by kernel_rfl) (by simp) ?_
          refine AllReadyIn.cons rfl (fun K hK => ?_) AllReadyIn.nil
          obtain ⟨fn', tmps', assign', body', hy, hR⟩ := HYW.out w1 (.slice ao' (b - a) c') B1 ho
          go_simp
          refine hR.mono ?_
          rintro e W3 (⟨rfl, hJ3, hk3⟩ | ⟨rfl, hJx3, hk3⟩)
          · refine hK _ _ ?_
            clear hK K hy hR
            refine wpAnyIn_ready (rs := [8]) (by kernel_rfl) (by simp) ?_
            refine AllReadyIn.cons rfl (fun K hK => ?_) AllReadyIn.nil
            go_simp
            refine hK _ _ ?_
            clear hK K
            refine wpAnyIn_done (by kernel_rfl) ?_ _
            refine HK2.out _ _ ?_
            have FIN := hide (HFIN.out w1 W3 (.slice ao' (b - a) c') B1 ho hJ3 hk3)
            clear hJ3 hk3 B1 ho cy1
            gi_wp2
            exact ⟨FIN.out.1, .inl ⟨rfl, FIN.out.2.1, FIN.out.2.2⟩⟩
          · refine hK _ _ ?_
            clear hK K hy hR
            refine wpAnyIn_ready (rs := [8]) (by kernel_rfl) (by simp) ?_
            refine AllReadyIn.cons rfl (fun K hK => ?_) AllReadyIn.nil
            go_simp
            refine hK _ _ ?_
            clear hK K
            refine wpAnyIn_done (by kernel_rfl) ?_ _
            refine HK2.out _ _ ?_
            have FIN := hide (HFIX.out w1 W3 (.slice ao' (b - a) c') B1 ho hJx3 hk3)
            clear hJx3 hk3 B1 ho cy1
            gi_wp2
            exact ⟨FIN.out.1, .inr ⟨rfl, FIN.out.2.1, FIN.out.2.2⟩⟩
      · go_simp
        refine hK _ _ ?_
        clear hK K
        refine wpAnyIn_ready (rs := [0, 3]) (by kernel_rfl) (by simp) ?_
        refine AllReadyIn.cons rfl (fun K hK => ?_) (AllReadyIn.cons rfl (fun K hK => ?_) AllReadyIn.nil)
        · go_simp
          refine hK _ _ ?_
          clear hK K
          refine wpAnyIn_ready (rs := [3]) (by kernel_rfl) (by simp) ?_
          refine AllReadyIn.cons rfl (fun K hK => ?_) AllReadyIn.nil
          go_simp
          refine hK _ _ ?_
          clear hK K
          refine wpAnyIn_take (i := 5) (v := ?_) rfl rfl (by kernel_rfl) (by kernel_rfl) (by kernel_rfl) (fun _ _ _ h => h) ⟨Or.inl ⟨by rfl, ?_⟩, fun _ => rfl⟩ ?_
          rotate_left
          · intro wq
            go_simp
            try with_reducible rfl
          simp only [List.getElem_toArray, List.getElem_cons_succ, List.getElem_cons_zero, Act.put, List.setIfInBounds_toArray, List.set_cons_zero, List.set_cons_succ]
          refine wpAnyIn_ready (rs := [6]) (by kernel_rfl) (by simp) ?_
          refine AllReadyIn.cons rfl (fun K hK => ?_) AllReadyIn.nil
          go_simp
          refine ⟨trivial, ?_⟩
          refine (callsIn_wide.2 (element_any t a b A (len - p) (cap - p) (xs.drop p) _ HS9.out (by omega) h3 hbl)).mono ?_
          rintro e w1 ⟨ao', c', rfl, ho, B1⟩
          have cy1 := HB1.out w1 B1
          refine hK _ _ ?_
          clear hK K
          refine wpAnyIn_ready (rs := [7]) (by kernel_rfl) (by simp) ?_
          refine AllReadyIn.cons rfl (fun K hK => ?_) AllReadyIn.nil
          obtain ⟨fn', tmps', assign', body', hy, hR⟩ := HYW.out w1 (.slice ao' (b - a) c') B1 ho
          go_simp
          refine hR.mono ?_
          rintro e W3 (⟨rfl, hJ3, hk3⟩ | ⟨rfl, hJx3, hk3⟩)
          · refine hK _ _ ?_
            clear hK K hy hR
            refine wpAnyIn_ready (rs := [8]) (by kernel_rfl) (by simp) ?_
            refine AllReadyIn.cons rfl (fun K hK => ?_) AllReadyIn.nil
            go_simp
            refine hK _ _ ?_
            clear hK K
            refine wpAnyIn_done (by kernel_rfl) ?_ _
            refine HK2.out _ _ ?_
            have FIN := hide (HFIN.out w1 W3 (.slice ao' (b - a) c') B1 ho hJ3 hk3)
            clear hJ3 hk3 B1 ho cy1
            gi_wp2
            exact ⟨FIN.out.1, .inl ⟨rfl, FIN.out.2.1, FIN.out.2.2⟩⟩
          · refine hK _ _ ?_
            clear hK K hy hR
            refine wpAnyIn_ready (rs := [8]) (by kernel_rfl) (by simp) ?_
            refine AllReadyIn.cons rfl (fun K hK => ?_) AllReadyIn.nil
            go_simp
            refine hK _ _ ?_
            clear hK K
            refine wpAnyIn_done (by kernel_rfl) ?_ _
            refine HK2.out _ _ ?_
            have FIN := hide (HFIX.out w1 W3 (.slice ao' (b - a) c') B1 ho hJx3 hk3)
            clear hJx3 hk3 B1 ho cy1
            gi_wp2
            exact ⟨FIN.out.1, .inr ⟨rfl, FIN.out.2.1, FIN.out.2.2⟩⟩
        · go_simp
          refine hK _ _ ?_
          clear hK K
          refine wpAnyIn_take (i := 5) (v := ?_) rfl rfl (by kernel_rfl) (by kernel_rfl) (by kernel_rfl) (fun _ _ _ h => h) ⟨Or.inl ⟨by rfl, ?_⟩, fun _ => rfl⟩ ?_
          rotate_left
          · intro wq
            go_simp
            try with_reducible rfl
          simp only [List.getElem_toArray, List.getElem_cons_succ, List.getElem_cons_zero, Act.put, List.setIfInBounds_toArray, List.set_cons_zero, List.set_cons_succ]
          refine wpAnyIn_ready (rs := [0, 6]) (by kernel_rfl) (by simp) ?_
          refine AllReadyIn.cons rfl (fun K hK => ?_) (AllReadyIn.cons rfl (fun K hK => ?_) AllReadyIn.nil)
          · go_simp
            refine hK _ _ ?_
            clear hK K
            refine wpAnyIn_ready (rs := [6]) (by kernel_rfl) (by simp) ?_
            refine AllReadyIn.cons rfl (fun K hK => ?_) AllReadyIn.nil
            go_simp
            refine ⟨trivial, ?_⟩
            refine (callsIn_wide.2 (element_any t a b A (len - p) (cap - p) (xs.drop p) _ HS9.out (by omega) h3 hbl)).mono ?_
            rintro e w1 ⟨ao', c', rfl, ho, B1⟩
            have cy1 := HB1.out w1 B1
            refine hK _ _ ?_
            clear hK K
            refine wpAnyIn_ready (rs := [7]) (by kernel_rfl) (by simp) ?_
            refine AllReadyIn.cons rfl (fun K hK => ?_) AllReadyIn.nil
            obtain ⟨fn', tmps', assign', body', hy, hR⟩ := HYW.out w1 (.slice ao' (b - a) c') B1 ho
            go_simp
            refine hR.mono ?_
            rintro e W3 (⟨rfl, hJ3, hk3⟩ | ⟨rfl, hJx3, hk3⟩)
            · refine hK _ _ ?_
              clear hK K hy hR
              refine wpAnyIn_ready (rs := [8]) (by kernel_rfl) (by simp) ?_
              refine AllReadyIn.cons rfl (fun K hK => ?_) AllReadyIn.nil
              go_simp
              refine hK _ _ ?_
              clear hK K
              refine wpAnyIn_done (by kernel_rfl) ?_ _
              refine HK2.out _ _ ?_
              have FIN := hide (HFIN.out w1 W3 (.slice ao' (b - a) c') B1 ho hJ3 hk3)
              clear hJ3 hk3 B1 ho cy1
              gi_wp2
              exact ⟨FIN.out.1, .inl ⟨rfl, FIN.out.2.1, FIN.out.2.2⟩⟩
            · refine hK _ _ ?_
              clear hK K hy hR
              refine wpAnyIn_ready (rs := [8]) (by kernel_rfl) (by simp) ?_
              refine AllReadyIn.cons rfl (fun K hK => ?_) AllReadyIn.nil
              go_simp
              refine hK _ _ ?_
              clear hK K
              refine wpAnyIn_done (by kernel_rfl) ?_ _
              refine HK2.out _ _ ?_
              have FIN := hide (HFIX.out w1 W3 (.slice ao' (b - a) c') B1 ho hJx3 hk3)
              clear hJx3 hk3 B1 ho cy1
              gi_wp2
              exact ⟨FIN.out.1, .inr ⟨rfl, FIN.out.2.1, FIN.out.2.2⟩⟩
          · go_simp
            refine ⟨trivial, ?_⟩
            refine (callsIn_wide.2 (element_any t a b A (len - p) (cap - p) (xs.drop p) _ HS9.out (by omega) h3 hbl)).mono ?_
            rintro e w1 ⟨ao', c', rfl, ho, B1⟩
            have cy1 := HB1.out w1 B1
            refine hK _ _ ?_
            clear hK K
            refine wpAnyIn_ready (rs := [0]) (by kernel_rfl) (by simp) ?_
            refine AllReadyIn.cons rfl (fun K hK => ?_) AllReadyIn.nil
            go_simp
            refine hK _ _ ?_
            clear hK K
            refine wpAnyIn_ready (rs := [7]) (by kernel_rfl) (by simp) ?_
            refine AllReadyIn.cons rfl (fun K hK => ?_) AllReadyIn.nil
            obtain ⟨fn', tmps', assign', body', hy, hR⟩ := HYW.out w1 (.slice ao' (b - a) c') B1 ho
            go_simp
            refine hR.mono ?_
            rintro e W3 (⟨rfl, hJ3, hk3⟩ | ⟨rfl, hJx3, hk3⟩)
            · refine hK _ _ ?_
              clear hK K hy hR
              refine wpAnyIn_ready (rs := [8]) (by kernel_rfl) (by simp) ?_
              refine AllReadyIn.cons rfl (fun K hK => ?_) AllReadyIn.nil
              go_simp
              refine hK _ _ ?_
              clear hK K
              refine wpAnyIn_done (by kernel_rfl) ?_ _
              refine HK2.out _ _ ?_
              have FIN := hide (HFIN.out w1 W3 (.slice ao' (b - a) c') B1 ho hJ3 hk3)
              clear hJ3 hk3 B1 ho cy1
              gi_wp2
              exact ⟨FIN.out.1, .inl ⟨rfl, FIN.out.2.1, FIN.out.2.2⟩⟩
            · refine hK _ _ ?_
              clear hK K hy hR
              refine wpAnyIn_ready (rs := [8]) (by kernel_rfl) (by simp) ?_
              refine AllReadyIn.cons rfl (fun K hK => ?_) AllReadyIn.nil
              go_simp
              refine hK _ _ ?_
              clear hK K
              refine wpAnyIn_done (by kernel_rfl) ?_ _
              refine HK2.out _ _ ?_
              have FIN := hide (HFIX.out w1 W3 (.slice ao' (b - a) c') B1 ho hJx3 hk3)
              clear hJx3 hk3 B1 ho cy1
              gi_wp2
              exact ⟨FIN.out.1, .inr ⟨rfl, FIN.out.2.1, FIN.out.2.2⟩⟩
      · go_simp
        refine hK _ _ ?_
        clear hK K
        refine wpAnyIn_take (i := 5) (v := ?_) rfl rfl (by kernel_rfl) (by kernel_rfl) (by kernel_rfl) (fun _ _ _ h => h) ⟨Or.inl ⟨by rfl, ?_⟩, fun _ => rfl⟩ ?_
        rotate_left
        · intro wq
          go_simp
          try with_reducible rfl
        simp only [List.getElem_toArray, List.getElem_cons_succ, List.getElem_cons_zero, Act.put, List.setIfInBounds_toArray, List.set_cons_zero, List.set_cons_succ]
        refine wpAnyIn_ready (rs := [0, 2]) (by kernel_rfl) (by simp) ?_
        refine AllReadyIn.cons rfl (fun K hK => ?_) (AllReadyIn.cons rfl (fun K hK => ?_) AllReadyIn.nil)
        · go_simp
          refine hK _ _ ?_
          clear hK K
          refine wpAnyIn_ready (rs := [2]) (by kernel_rfl) (by simp) ?_
          refine AllReadyIn.cons rfl (fun K hK => ?_) AllReadyIn.nil
          go_simp
          refine hK _ _ ?_
          clear hK K
          refine wpAnyIn_ready (rs := [6]) (by kernel_rfl) (by simp) ?_
          refine AllReadyIn.cons rfl (fun K hK => ?_) AllReadyIn.nil
          go_simp
          refine ⟨trivial, ?_⟩
          refine (callsIn_wide.2 (element_any t a b A (len - p) (cap - p) (xs.drop p) _ HS9.out (by omega) h3 hbl)).mono ?_
          rintro e w1 ⟨ao', c', rfl, ho, B1⟩
          have cy1 := HB1.out w1 B1
          refine hK _ _ ?_
          clear hK K
          refine wpAnyIn_ready (rs := [7]) (by kernel_rfl) (by simp) ?_
          refine AllReadyIn.cons rfl (fun K hK => ?_) AllReadyIn.nil
          obtain ⟨fn', tmps', assign', body', hy, hR⟩ := HYW.out w1 (.slice ao' (b - a) c') B1 ho
          go_simp
          refine hR.mono ?_
          rintro e W3 (⟨rfl, hJ3, hk3⟩ | ⟨rfl, hJx3, hk3⟩)
          · refine hK _ _ ?_
            clear hK K hy hR
            refine wpAnyIn_ready (rs := [8]) (by kernel_rfl) (by simp) ?_
            refine AllReadyIn.cons rfl (fun K hK => ?_) AllReadyIn.nil
            go_simp
            refine hK _ _ ?_
            clear hK K
            refine wpAnyIn_done (by kernel_rfl) ?_ _
            refine HK2.out _ _ ?_
            have FIN := hide (HFIN.out w1 W3 (.slice ao' (b - a) c') B1 ho hJ3 hk3)
            clear hJ3 hk3 B1 ho cy1
            gi_wp2
            exact ⟨FIN.out.1, .inl ⟨rfl, FIN.out.2.1, FIN.out.2.2⟩⟩
          · refine hK _ _ ?_
            clear hK K hy hR
            refine wpAnyIn_ready (rs := [8]) (by kernel_rfl) (by simp) ?_
            refine AllReadyIn.cons rfl (fun K hK => ?_) AllReadyIn.nil
            go_simp
            refine hK _ _ ?_
            clear hK K
            refine wpAnyIn_done (by kernel_rfl) ?_ _
            refine HK2.out _ _ ?_
            have FIN := hide (HFIX.out w1 W3 (.slice ao' (b - a) c') B1 ho hJx3 hk3)
            clear hJx3 hk3 B1 ho cy1
            gi_wp2
            exact ⟨FIN.out.1, .inr ⟨rfl, FIN.out.2.1, FIN.out.2.2⟩⟩
        · go_simp
          refine hK _ _ ?_
          clear hK K
          refine wpAnyIn_ready (rs := [0, 6]) (by kernel_rfl) (by simp) ?_
          refine AllReadyIn.cons rfl (fun K hK => ?_) (AllReadyIn.cons rfl (fun K hK => ?_) AllReadyIn.nil)
          · go_simp
            refine hK _ _ ?_
            clear hK K
            refine wpAnyIn_ready (rs := [6]) (by kernel_rfl) (by simp) ?_
            refine AllReadyIn.cons rfl (fun K hK => ?_) AllReadyIn.nil
            go_simp
            refine ⟨trivial, ?_⟩
            refine (callsIn_wide.2 (element_any t a b A (len - p) (cap - p) (xs.drop p) _ HS9.out (by omega) h3 hbl)).mono ?_
            rintro e w1 ⟨ao', c', rfl, ho, B1⟩
            have cy1 := HB1.out w1 B1
            refine hK _ _ ?_
            clear hK K
            refine wpAnyIn_ready (rs := [7]) (by kernel_rfl) (by simp) ?_
            refine AllReadyIn.cons rfl (fun K hK => ?_) AllReadyIn.nil
            obtain ⟨fn', tmps', assign', body', hy, hR⟩ := HYW.out w1 (.slice ao' (b - a) c') B1 ho
            go_simp
            refine hR.mono ?_
            rintro e W3 (⟨rfl, hJ3, hk3⟩ | ⟨rfl, hJx3, hk3⟩)
            · refine hK _ _ ?_
              clear hK K hy hR
              refine wpAnyIn_ready (rs := [8]) (by kernel_rfl) (by simp) ?_
              refine AllReadyIn.cons rfl (fun K hK => ?_) AllReadyIn.nil
              go_simp
              refine hK _ _ ?_
              clear hK K
              refine wpAnyIn_done (by kernel_rfl) ?_ _
              refine HK2.out _ _ ?_
              have FIN := hide (HFIN.out w1 W3 (.slice ao' (b - a) c') B1 ho hJ3 hk3)
              clear hJ3 hk3 B1 ho cy1
              gi_wp2
              exact ⟨FIN.out.1, .inl ⟨rfl, FIN.out.2.1, FIN.out.2.2⟩⟩
            · refine hK _ _ ?_
              clear hK K hy hR
              refine wpAnyIn_ready (rs := [8]) (by kernel_rfl) (by simp) ?_
              refine AllReadyIn.cons rfl (fun K hK => ?_) AllReadyIn.nil
              go_simp
              refine hK _ _ ?_
              clear hK K
              refine wpAnyIn_done (by kernel_rfl) ?_ _
              refine HK2.out _ _ ?_
              have FIN := hide (HFIX.out w1 W3 (.slice ao' (b - a) c') B1 ho hJx3 hk3)
              clear hJx3 hk3 B1 ho cy1
              gi_wp2
              exact ⟨FIN.out.1, .inr ⟨rfl, FIN.out.2.1, FIN.out.2.2⟩⟩
          · go_simp
            refine ⟨trivial, ?_⟩
            refine (callsIn_wide.2 (element_any t a b A (len - p) (cap - p) (xs.drop p) _ HS9.out (by omega) h3 hbl)).mono ?_
            rintro e w1 ⟨ao', c', rfl, ho, B1⟩
            have cy1 := HB1.out w1 B1
            refine hK _ _ ?_
            clear hK K
            refine wpAnyIn_ready (rs := [0]) (by kernel_rfl) (by simp) ?_
            refine AllReadyIn.cons rfl (fun K hK => ?_) AllReadyIn.nil
            go_simp
            refine hK _ _ ?_
            clear hK K
            refine wpAnyIn_ready (rs := [7]) (by kernel_rfl) (by simp) ?_
            refine AllReadyIn.cons rfl (fun K hK => ?_) AllReadyIn.nil
            obtain ⟨fn', tmps', assign', body', hy, hR⟩ := HYW.out w1 (.slice ao' (b - a) c') B1 ho
            go_simp
            refine hR.mono ?_
            rintro e W3 (⟨rfl, hJ3, hk3⟩ | ⟨rfl, hJx3, hk3⟩)
            · refine hK _ _ ?_
              clear hK K hy hR
              refine wpAnyIn_ready (rs := [8]) (by kernel_rfl) (by simp) ?_
              refine AllReadyIn.cons rfl (fun K hK => ?_) AllReadyIn.nil
              go_simp
              refine hK _ _ ?_
              clear hK K
              refine wpAnyIn_done (by kernel_rfl) ?_ _
              refine HK2.out _ _ ?_
              have FIN := hide (HFIN.out w1 W3 (.slice ao' (b - a) c') B1 ho hJ3 hk3)
              clear hJ3 hk3 B1 ho cy1
              gi_wp2
              exact ⟨FIN.out.1, .inl ⟨rfl, FIN.out.2.1, FIN.out.2.2⟩⟩
            · refine hK _ _ ?_
              clear hK K hy hR
              refine wpAnyIn_ready (rs := [8]) (by kernel_rfl) (by simp) ?_
              refine AllReadyIn.cons rfl (fun K hK => ?_) AllReadyIn.nil
              go_simp
              refine hK _ _ ?_
              clear hK K
              refine wpAnyIn_done (by kernel_rfl) ?_ _
              refine HK2.out _ _ ?_
              have FIN := hide (HFIX.out w1 W3 (.slice ao' (b - a) c') B1 ho hJx3 hk3)
              clear hJx3 hk3 B1 ho cy1
              gi_wp2
              exact ⟨FIN.out.1, .inr ⟨rfl, FIN.out.2.1, FIN.out.2.2⟩⟩
  · rintro e W' ⟨⟨v, rfl⟩, ⟨ys, hys, hJ, hE⟩ | ⟨pre, hpre, hJ, hE⟩⟩
    · have hl := hE.loop
      rw [← hrec] at hl
      refine range_done hl ?_
      rw [hrec]
      have hE2 := hE.put (r .exhausted none)
      have hJ2 := hP _ W' (N + 3) (.loop (r .exhausted none)) _ hJ (by omega) hE.loop rfl
      generalize W'.putObj (N + 3) (.loop (r .exhausted none)) = W9 at hE2 hJ2 ⊢
      have hd := hE2.dfr
      show LeavesInM _ _ _ _ _ _ _ _ _
      refine ⟨by simp, .inl ⟨_, _, rfl, run_takeDeferred hd, ?_⟩⟩
      exact ⟨.tuple #[], results_none rfl _ _ _, ⟨_, rfl⟩, .inl ⟨ys, hys, hP _ _ _ _ _ hJ2 (by omega) hd rfl⟩⟩
    · have hl := hE.loop
      rw [← hrec] at hl
      refine range_left hl ?_
      rw [hrec]
      have hE2 := hE.put (r .exhausted (some .ret))
      have hJ2 := hPx _ W' (N + 3) (.loop (r .exhausted (some .ret))) _ hJ (by omega) hE.loop rfl
      generalize W'.putObj (N + 3) (.loop (r .exhausted (some .ret))) = W9 at hE2 hJ2 ⊢
      have hd := hE2.dfr
      clear hl hE hJ
      gi_wp2
      show LeavesInM _ _ _ _ _ _ _ _ _
      refine ⟨by simp, .inl ⟨_, _, rfl, run_takeDeferred hd, ?_⟩⟩
      exact ⟨.tuple #[], results_none rfl _ _ _, ⟨_, rfl⟩, .inr ⟨pre, hpre, hPx _ _ _ _ _ hJ2 (by omega) hd rfl⟩⟩

end Go.Proofs.YtklchpdpooikdaaGreatDoor
