/-
  slip.End: where the slips end, and why.
-/
import Derived.Test.YtilkbjohekhjcaaDoorSlSpan
namespace Go.Proofs.YtilkbjohekhjcaaDoor
open Go.RowKit Go.Shelf Go.IntWalk
attribute [local go_sem] Oper.semAt_some

/-- Where the last of these places' slip ends. -/
def endS (xs : List Int) (ps : List Nat) : Nat := match ps.getLast? with
  | none => 0
  | some p => p + (findS (xs.drop p)).1.toNat
theorem endS_snoc (xs : List Int) (ps : List Nat) (p : Nat) : endS xs (ps ++ [p]) = p + (findS (xs.drop p)).1.toNat := by simp [endS]

/-- What End answers. -/
def endE (xs : List Int) : Int := if endS xs (placesS xs 0) = xs.length then 0 else (findS (xs.drop (endS xs (placesS xs 0)))).2

structure NInv (w : World) (xs : List Int) (ao : Option Addr) (n cap : Nat) (ps : List Nat) (W : World) : Prop where
  fin : Boxed W w.heap.size 3 (.int .i64 (endS xs ps : Int))
  seq : Boxed W (w.heap.size + 1) 24 (.slice ao n cap)
  below : Below w.heap.size w W

theorem NInv.kept {w : World} {xs : List Int} {ao : Option Addr} {n cap : Nat} {ps : List Nat} {W W' : World} {row : Option Nat} (h : NInv w xs ao n cap ps W) (hg : W.grownBy W' row)
    (hr : ∀ r, row = some r → w.heap.size ≤ r ∧ ∃ o : Obj, W.heap[r]? = some o ∧ o.isCells = false) : NInv w xs ao n cap ps W' := by
  obtain ⟨b6, b8, b7⟩ := h
  have hc : ∀ r, row = some r → ∀ c e, W.heap[r]? ≠ some (Obj.cells c e (0, 0)) := by
    intro r e c t hh
    obtain ⟨_, o, ho, hf⟩ := hr r e
    rw [hh] at ho; cases ho; simp [Obj.isCells] at hf
  have hb : ∀ {B t v}, Boxed W B t v → Boxed W' B t v := fun {B t v} h => h.kept hg (fun e => hc B e.symm _ _ h)
  exact ⟨hb b6, hb b8, b7.grown hg b7.size (fun k e => (hr k e).1)⟩

theorem KpB.grown {n₀ Bs : Nat} {W W' : World} {row : Option Nat} (hg : W.grownBy W' row) (hn : n₀ ≤ W.heap.size)
    (hr : ∀ r, row = some r → n₀ ≤ r ∧ r ≠ Bs) : KpB n₀ Bs W W' := by
  refine ⟨(Below.refl n₀ W).grown hg hn (fun k e => (hr k e).1), fun v e => ?_⟩
  have hlt := lt_of_cell e
  unfold World.cell? at e ⊢
  rw [show W'.heap[Bs]? = W.heap[Bs]? from hg.block Bs hlt (fun e => (hr Bs e.symm).2 rfl)]
  exact e

theorem KeepsOthers.below {A B : World} (h : Below A.heap.size A B) : KeepsOthers A B := KeepsOthers.of_grownBy (grown_of_below (r := none) h) (by intro j o e; cases e)

theorem find_size {xs : List Int} (hb : ∀ x ∈ xs, 0 ≤ x ∧ x < 256) : 0 ≤ (findS xs).1 ∧ (findS xs).1 ≤ xs.length ∧ (findS xs).1 ≤ 65542 := by
  rcases findS_cases xs hb with ⟨err, h1, h2, he⟩ | ⟨D, h1, h2, h3, h4, he⟩
  · rw [he]; simp
  · rw [he]; simp; omega

/-- Where the slips stop that stand one behind the other from p on. -/
def stopS (xs : List Int) (p : Nat) : Nat := if placesS xs p = [] then p else endS xs (placesS xs p)
theorem end_stop (xs : List Int) : endS xs (placesS xs 0) = stopS xs 0 := by
  unfold stopS
  split
  · rename_i h; rw [h]; rfl
  · rfl
theorem stop_ok (xs : List Int) (p h : Nat) (hp : p < xs.length) (he : findS (xs.drop p) = ((h : Int), 0)) (h0 : 0 < h) : stopS xs p = stopS xs (p + h) := by
  have e := places_ok xs p h hp he h0
  unfold stopS
  rw [e, if_neg (by simp)]
  split
  · rename_i h1; rw [h1]; simp [endS, he]
  · rename_i h1
    obtain ⟨a, r, hr⟩ : ∃ a r, placesS xs (p + h) = a :: r := by
      cases hc : placesS xs (p + h) with
      | nil => exact absurd hc h1
      | cons a r => exact ⟨a, r, rfl⟩
    rw [hr]; simp [endS, List.getLast?_cons_cons]
theorem stop_bad (xs : List Int) (p : Nat) (err : Int) (h : findS (xs.drop p) = (0, err)) : stopS xs p = p := by unfold stopS; rw [if_pos (places_bad xs p err h)]
theorem stop_end (xs : List Int) (p : Nat) (h : xs.length ≤ p) : stopS xs p = p := by unfold stopS; rw [if_pos (places_end xs p h)]

theorem stop_le (xs : List Int) (hb : ∀ x ∈ xs, 0 ≤ x ∧ x < 256) : ∀ (f p : Nat), xs.length - p ≤ f → p ≤ xs.length → stopS xs p ≤ xs.length
  | 0, p, h1, h2 => by rw [stop_end xs p (by omega)]; exact h2
  | f + 1, p, h1, h2 => by
    by_cases hp : p < xs.length
    · rcases findS_cases (xs.drop p) (fun x hx => hb x (List.mem_of_mem_drop hx)) with ⟨err, _, _, he⟩ | ⟨D, k1, k2, k3, k4, he⟩
      · rw [stop_bad xs p err he]; exact h2
      · simp at k3
        rw [stop_ok xs p (D + 7) hp (by rw [he]; congr 1) (by omega)]
        exact stop_le xs hb f _ (by omega) (by omega)
    · rw [stop_end xs p (by omega)]; exact h2
theorem end_le (xs : List Int) (hb : ∀ x ∈ xs, 0 ≤ x ∧ x < 256) : endS xs (placesS xs 0) ≤ xs.length := by
  rw [end_stop]
  exact stop_le xs hb xs.length 0 (by omega) (by omega)

set_option maxRecDepth 100000 in
set_option maxHeartbeats 4000000 in
theorem end_in (ao : Option Addr) (n cap : Nat) (xs : List Int) (w : World) (hT : Tab w) (hs : Src w ao n cap xs) (hN : (n : Int) ≤ 140737488355328) :
    CallsIn Fence.wide 4 Tryd.prog 8 #[.slice ao n cap] w fun e w' => e = .returned (.tuple #[.int .i64 (endS xs (placesS xs 0) : Int), .int .i64 (endE xs)]) ∧ Below w.heap.size w w' := by
  refine callsIn_of_wp_marks Tryd.func8 rfl trivial ?_ rfl
  simp only [Tryd.ntmps8, List.size_toArray, List.length_cons, List.length_nil, Nat.reduceAdd, Nat.reduceSub, Array.replicate_succ, Array.replicate_zero, List.push_toArray, List.append_toArray, List.nil_append, List.cons_append]
  gi_wp2_with (refine ⟨trivial, ?_⟩; gi_at_call 12; refine (spans_in _ _ _ _ _).mono ?_; rintro e w' ⟨rfl, rfl⟩)
  have hnc := hs.hcap
  have hl := hs.hlen
  have b2 := (Boxed.new w 3 (.int .i64 0)).alloc (.cells #[.slice ao n cap] 24)
  have b3 := Boxed.new (w.alloc (.cells #[.int .i64 0] 3)) 24 (.slice ao n cap)
  simp only [World.size_alloc] at b3
  have hB0 : Below w.heap.size w ((w.alloc (.cells #[.int .i64 0] 3)).alloc (.cells #[.slice ao n cap] 24)) :=
    ((Below.refl _ w).alloc (Nat.le_refl _) _).alloc (by simp) _
  have hsz : ((w.alloc (.cells #[.int .i64 0] 3)).alloc (.cells #[.slice ao n cap] 24)).heap.size = w.heap.size + 2 := by simp
  obtain ⟨W0, hW0⟩ : ∃ W0, (w.alloc (.cells #[.int .i64 0] 3)).alloc (.cells #[.slice ao n cap] 24) = W0 := ⟨_, rfl⟩
  rw [hW0] at b2 b3 hB0 hsz ⊢
  clear hW0
  refine wpIn_rangeFunc_ownH rfl (by decide) (gf := 18) (lb := #[.pointer (some ⟨w.heap.size + 1, 0, none⟩)]) rfl trivial (enters_of Tryd.func18 (by kernel_rfl) rfl)
    (spans_stops 3 (by decide) (w.heap.size + 1) ao n cap xs (by omega) w W0 hT hs hB0 b3.cell) KpB.trans (KpB.put (by omega)) (Below.refl _ _) (fun _ => rfl)
    (fun (pre : List (Pl xs)) W => NInv w xs ao n cap (pre.map Subtype.val) W)
    (fun _ _ _ => False)
    (fun _ _ _ _ h hg hr => h.kept hg (fun r e => ⟨by have := (hr r e).1; omega, (hr r e).2⟩))
    (fun _ _ _ _ _ h _ _ => h)
    ⟨b2, b3, hB0⟩
    (fun x a' _ => a' = { tmps := #[.slice ao n cap, undef, .int .i64 0, .int .i64 0, .pointer (some ⟨w.heap.size, 0, none⟩), undef, .int .i64 ((x.1 : Int) + (findS (xs.drop x.1)).1), undef, undef, .slice ao n cap, .func (.func 18) #[] #[.pointer (some ⟨w.heap.size + 1, 0, none⟩)], .int .i64 (x.1 : Int), .int .i64 ((x.1 : Int) + (findS (xs.drop x.1)).1), undef, undef, undef, undef, undef, undef, undef, undef, undef, undef, undef, undef, undef, undef, undef], defers := [] })
    (fun x a' _ X Y row hx hg hr => hx)
    ?assign ?body ?done ?stop
  case assign =>
    rintro l pre x W K hI hK
    simp only [encP]
    gi_wp2
    exact hK _ _ ((KeepsOthers.below (Below.refl _ _)).from _) (KpB.refl _ _ _) hI rfl
  case body =>
    rintro l pre x a' W hl' ⟨r, hr⟩ hI rfl hlt
    obtain ⟨bE, bS, hB⟩ := hI
    have hx := x.2
    obtain ⟨p, hp⟩ : ∃ p, x.val = p := ⟨_, rfl⟩
    have HX := hide hp
    rw [hp] at hx ⊢
    obtain ⟨hp1, hp2⟩ := hx
    clear hp
    have cE := bE.cell
    have fE := bE.frozen
    have hfs := find_size (xs := xs.drop p) (fun x hx => hs.hbyt x (List.mem_of_mem_drop hx))
    have HPS := hide (show (pre ++ [x]).map Subtype.val = pre.map Subtype.val ++ [p] by rw [List.map_append]; simp [HX.out])
    have HEN := hide (show ((endS xs (pre.map Subtype.val ++ [p]) : Nat) : Int) = (p : Int) + (findS (xs.drop p)).1 by rw [endS_snoc]; omega)
    generalize (findS (xs.drop p)).1 = sz at *
    gi_wp2
    have gE := grownBy_setCell' W w.heap.size (.int .i64 ((p : Int) + sz))
    refine ⟨(KeepsOthers.setCell _ _ _).from _, KpB.grown gE hB.size (by intro r e; cases e; exact ⟨Nat.le_refl _, by omega⟩), ?_⟩
    show NInv w xs ao n cap ((pre ++ [x]).map Subtype.val) _
    rw [HPS.out]
    exact ⟨by rw [HEN.out]; exact bE.set _, bS.kept gE (by intro e; injection e; omega), hB.setCell (p := ⟨w.heap.size, 0, none⟩) (Nat.le_refl _) _⟩
  case done =>
    rintro D ys W hD hS hI hK
    have hI' : NInv w xs ao n cap (placesS xs 0) W := by have h := hI; rw [show ys.map Subtype.val = placesS xs 0 from hS] at h; exact h
    obtain ⟨bE, bS, hB⟩ := hI'
    clear hI hS
    obtain ⟨en, hen⟩ : ∃ en, endS xs (placesS xs 0) = en := ⟨_, rfl⟩
    have hee : endE xs = if en = xs.length then 0 else (findS (xs.drop en)).2 := by unfold endE; rw [hen]
    have hle : en ≤ xs.length := by rw [← hen]; exact end_le xs hs.hbyt
    rw [hen] at bE
    have HEN := hide hen
    have HEE := hide hee
    have cE := bE.cell
    clear hee hen
    by_cases hlt : en = n
    · subst hlt
      have HR := hide (show endE xs = 0 by rw [HEE.out, if_pos (by omega)])
      gi_wp2
      have hKf : W.heap[D]? = some (.deferred (some [])) := hK
      refine ⟨by simp, .inl ⟨_, _, rfl, run_takeDeferred hKf, ?_⟩⟩
      refine ⟨.tuple #[.int .i64 en, .int .i64 0], by simp [results, Tryd.results8, go_sem], by rw [HEN.out, HR.out], ?_⟩
      exact hB.trans (belowK_b (w := w) (Nat.le_refl _) _ D _ _ (by omega) hKf rfl rfl)
    · have hs1 := (hs.below hB).cut en n (by omega) (Nat.le_refl _)
      have ed : (xs.take n).drop en = xs.drop en := by rw [List.take_of_length_le (by omega)]
      rw [ed] at hs1
      have sl := fun X => slice_lo X ao n cap en en rfl (by omega)
      generalize cutA ao cap en = A at hs1 sl
      have hltI : ¬ (en : Int) = (n : Int) := by omega
      have HR := hide (show endE xs = (findS (xs.drop en)).2 by rw [HEE.out, if_neg (by omega)])
      obtain ⟨f, hf⟩ : ∃ f, findS (xs.drop en) = f := ⟨_, rfl⟩
      have HF := hide hf
      have hTr := hT.below hB hT.lt
      clear hf ed
      gi_wp2_with (refine ⟨trivial, ?_⟩; gi_at_call 13; refine (callsIn_wide.2 (find_any _ _ _ (xs.drop en) _ hTr (by exact hs1))).mono ?_; rintro e w1 ⟨rfl, B1⟩; rw [HF.out]; have cE1 : w1.cell? ⟨w.heap.size, 0, none⟩ = some (.int .i64 en) := (B1.cell (p := ⟨w.heap.size, 0, none⟩) bE.lt).trans cE; have hz := Nat.lt_of_lt_of_le bE.lt B1.size)
      have hKf : w1.heap[D]? = some (.deferred (some [])) := (B1.block D (Array.getElem?_eq_some_iff.1 hK).1).trans hK
      refine ⟨by simp, .inl ⟨_, _, rfl, run_takeDeferred hKf, ?_⟩⟩
      refine ⟨.tuple #[.int .i64 en, .int .i64 f.2], by simp [results, Tryd.results8, go_sem], by rw [HEN.out, HR.out, HF.out], ?_⟩
      exact (hB.trans (B1.mono hB.size)).trans (belowK_b (w := w) (Nat.le_refl _) _ D _ _ (by omega) hKf rfl rfl)
  case stop =>
    rintro D c pre W _ _ h _
    exact h.elim

end Go.Proofs.YtilkbjohekhjcaaDoor
