/-
  The document's guess: what name bytes may be.
  The document's Decode of a name.
  name.Decode: memory while it ranges.
-/
import Derived.Lib.ConvBytes
import Derived.Deep.RegionHeld3
import Derived.Test.YtgbbgfjamneioaaDoorXNmLentToNmRPut
import Derived.Test.YtgbbgfjamneioaaDoorXNmREnc
import Derived.Test.YtgbbgfjamneioaaDoorXEachJ
import Derived.Test.YtgbbgfjamneioaaDoorXNmEncNToBoxSt
import Derived.Test.YtgbbgfjamneioaaDoorXAllsMToTxV1
namespace Go.Proofs.YtgbbgfjamneioaaDoor
open Go.RowKit Go.IntWalk Go.Shelf
attribute [local go_sem ↓] appOf_of

theorem gsE_none {X : List Int} (h : insS X 48 = none) : gsE X = none := by unfold gsE; rw [h]
theorem gsE_two {X : List Int} {l : List (Int × List Int)} (h : insS X 48 = some l) (h2 : l.length ≠ 2) : gsE X = none := by
  unfold gsE
  rw [h]
  match l, h2 with
  | [], _ => rfl
  | [_], _ => rfl
  | [_, _], h2 => exact absurd rfl h2
  | _ :: _ :: _ :: _, _ => rfl
theorem gsE_three {X : List Int} {l : List (Int × List Int)} (h : insS X 48 = some l) (h2 : l.length = 2) (h3 : (l.getD 0 (0, [])).2.length ≠ 3) : gsE X = none := by
  unfold gsE
  rw [h]
  match l, h2 with
  | [a, b], _ => exact if_neg h3
theorem gsE_some {X : List Int} {l : List (Int × List Int)} (h : insS X 48 = some l) (h2 : l.length = 2) (h3 : (l.getD 0 (0, [])).2.length = 3) : gsE X = some ((l.getD 0 (0, [])).2.getD 2 0, strOfNums (l.getD 1 (0, [])).2) := by
  unfold gsE
  rw [h]
  match l, h2 with
  | [a, b], _ => exact if_pos h3
theorem one_src (W : World) (t : Int) (s : ByteArray) (hs : s.size ≤ 1048576) : Ats (W.alloc (.cells #[.int .i64 t, .string s] 52)) (some ⟨W.heap.size, 0, none⟩) 1 1 [(t, s)] := by
  refine ⟨rfl, Nat.le_refl _, by decide, by intro x hx; simp at hx; subst hx; simp only; omega, fun _ => ⟨W.heap.size, 0, rfl, fun i hi => ?_⟩⟩
  obtain rfl : i = 0 := by omega
  exact ⟨by simp, by simp⟩

/-- What the last steps of a round read. -/
def GAt (base b2 o2 bb oo : Nat) (q : Int) (a1 : Option Addr) (c1 : Nat) (a3 : Option Addr) (m3 c3 : Nat) (V : List Int) (W : World) : Prop :=
  W.cell? ⟨b2, o2 + 1, none⟩ = some (.slice a1 3 c1) ∧ W.cell? ⟨bb, oo + 2, none⟩ = some (.int .u8 q) ∧ W.cell? ⟨b2, o2 + 2 + 1, none⟩ = some (.slice a3 m3 c3) ∧ OwnB W base (.slice a3 m3 c3) V
theorem GAt.below {base b2 o2 bb oo : Nat} {q : Int} {a1 : Option Addr} {c1 : Nat} {a3 : Option Addr} {m3 c3 : Nat} {V : List Int} {A C : World} (h : GAt base b2 o2 bb oo q a1 c1 a3 m3 c3 V A) (hb : Below A.heap.size A C) : GAt base b2 o2 bb oo q a1 c1 a3 m3 c3 V C := by
  obtain ⟨r0, r1, r2, r3⟩ := h
  exact ⟨(hb.cell (lt_of_cell r0)).trans r0, (hb.cell (lt_of_cell r1)).trans r1, (hb.cell (lt_of_cell r2)).trans r2, row_below r3 hb⟩
theorem GAt.grown {base b2 o2 bb oo : Nat} {q : Int} {a1 : Option Addr} {c1 : Nat} {a3 : Option Addr} {m3 c3 : Nat} {V : List Int} {A C : World} (h : GAt base b2 o2 bb oo q a1 c1 a3 m3 c3 V A) {v : Value} {N : Nat} {xs : List (Int × ByteArray)} (ho : OwnA A N v xs) (hg : A.grownBy C v.ownBlock) (h2 : v.ownBlock ≠ some b2) (h3 : v.ownBlock ≠ some bb) : GAt base b2 o2 bb oo q a1 c1 a3 m3 c3 V C := by
  obtain ⟨r0, r1, r2, r3⟩ := h
  exact ⟨(grown_cell_old hg r0 (fun e => h2 e.symm)).trans r0, (grown_cell_old hg r1 (fun e => h3 e.symm)).trans r1, (grown_cell_old hg r2 (fun e => h2 e.symm)).trans r2, row_apart r3 ho (by decide) hg⟩

end Go.Proofs.YtgbbgfjamneioaaDoor

namespace Go.Proofs.YtgbbgfjamneioaaDoor
open Go.RowKit Go.IntWalk Go.Shelf

theorem encNE_ok (n : List (Int × ByteArray)) : encNE n = if nameL n = true then 0 else 120 := rfl
theorem okN_of {xs : List Int} {n : List (Int × ByteArray)} : okN xs n = (nameL n && decide (encNC n = xs)) := rfl

end Go.Proofs.YtgbbgfjamneioaaDoor

namespace Go.Proofs.YtgbbgfjamneioaaDoor
open Go.RowKit Go.Shelf Go.IntWalk
attribute [local go_sem] Oper.semAt_some

theorem eachN_enters : ∀ args w, (callFunc 65 args).run Tryd.prog w = .ok (.enter 65 args) w := enters_of Tryd.func65 (by kernel_rfl) rfl
/-- A range over der.Each's function. -/
theorem eachN_enter {g : Operand} {ps : Array Tmp} {assign body : Code} {Q : Exit → Act → World → Prop} {a : Act} {w : World} {B : Nat} (hg : a.eval g = .func (.func 65) #[] #[.pointer (some ⟨B, 0, none⟩)])
    (h : ∀ fn, Fence.wide.fn fn → CallsIn Fence.wide 7 Tryd.prog 65 #[.func (.yield (w.heap.size + 1)) #[] #[], .pointer (some ⟨B, 0, none⟩)] ((w.alloc (.deferred (some []))).alloc (.loop (recOf fn a.tmps ps assign body w.heap.size .ready none)))
      (rangePost Fence.wide 8 Tryd.prog (w.heap.size + 1) Q { a with defers := { target := .collected w.heap.size, args := #[] } :: a.defers })) :
    (Code.rangeFunc g ps assign body).wp Tryd.prog Q a w :=
  wpIn_wide.1 (range_enter (n := 8) rfl (by decide) hg trivial eachN_enters h)

theorem BSt.mk2 {w W : World} {a0 a1 : Nat} {t0 t1 : TypeId} {v0 v1 : Value} (h0 : Boxed W a0 t0 v0) (h1 : Boxed W a1 t1 v1) (o : w.heap.size ≤ a0 ∧ a0 < a1) (hb : Below w.heap.size w W) : BSt w [(a0, t0, v0), (a1, t1, v1)] [] W := by
  obtain ⟨o0, o1⟩ := o
  refine ⟨fun i x hx => ?_, fun i j x y hx hy he => ?_, fun D hD => (by cases hD), hb⟩
  · match i, hx with
    | 0, hx => cases hx; exact ⟨o0, h0⟩
    | 1, hx => cases hx; exact ⟨by simp only; omega, h1⟩
    | i + 2, hx => simp at hx
  · match i, j, hx, hy with
    | 0, 0, _, _ => rfl
    | 1, 1, _, _ => rfl
    | 0, 1, hx, hy | 1, 0, hx, hy => cases hx; cases hy; simp only at he; omega
    | i + 2, _, hx, _ => simp at hx
    | _, j + 2, _, hy => simp at hy

/-- A row of attributes stays as a block of another make turns. -/
theorem OwnA.put {W : World} {base : Nat} {v : Value} {xs : List (Int × ByteArray)} (h : OwnA W base v xs) {k : Nat} {x : Obj} (hk : W.heap[k]? = some x) (hx : x.isCells = false) (o : Obj) : OwnA (W.putObj k o) base v xs :=
  row_kept h (grownBy_putObj' W k o) (fun r e c hc => by cases e; rw [hk] at hc; cases hc; cases hx)
theorem OwnA.setBox {W : World} {base : Nat} {v : Value} {xs : List (Int × ByteArray)} (h : OwnA W base v xs) {k : Nat} {t : TypeId} {u : Value} (hk : Boxed W k t u) (ht : t ≠ 52) (y : Value) : OwnA (W.setCell ⟨k, 0, none⟩ y) base v xs :=
  row_kept h (grownBy_setCell' W k y) (fun r e c hc => by cases e; rw [show W.heap[k]? = _ from hk] at hc; cases hc; exact ht rfl)
theorem LSt.grownA {w A C : World} {bx : List (Nat × TypeId × Value)} {ds : List Nat} {l : Nat} {r : Loop} (h : LSt w bx ds l r A) {v : Value} {xs : List (Int × ByteArray)} (ho : OwnA A w.heap.size v xs) (hg : A.grownBy C v.ownBlock) (ht : ∀ x ∈ bx, x.2.1 ≠ 52) : LSt w bx ds l r C := by
  have key : ∀ (k : Nat) (o : Obj), A.heap[k]? = some o → (∀ c, o ≠ .cells c 52 (0, 0)) → C.heap[k]? = A.heap[k]? := fun k o hk hn =>
    hg.block k (Array.getElem?_eq_some_iff.1 hk).1 (fun e => by
      obtain ⟨c, hc⟩ := row_type ho k e.symm
      rw [hk] at hc
      cases hc
      exact hn c rfl)
  refine ⟨⟨fun i x hx => ?_, h.st.nd, fun D hD => ?_, h.st.bel.grown hg h.st.bel.size (fun k hk => (World.ownsRow.lt ho k hk).1)⟩, ?_, h.ol⟩
  · have h1 := h.st.box i x hx
    refine ⟨h1.1, (key x.1 _ h1.2 (fun c e => ?_)).trans h1.2⟩
    injection e with e1 e2 e3
    exact ht x (List.mem_of_getElem? hx) e2
  · have h1 := h.st.dfr D hD
    exact ⟨h1.1, (key D _ h1.2 (fun c e => by cases e)).trans h1.2⟩
  · exact (key l _ h.loop (fun c e => by cases e)).trans h.loop

/-- What was read so far. -/
def dlN (C : List Int) (pre : List (Pl C)) : List (Int × ByteArray) := pre.map (fun x => dcA (contS (C.drop x.1)))
theorem dlN_snoc (C : List Int) (pre : List (Pl C)) (x : Pl C) : dlN C (pre ++ [x]) = dlN C pre ++ [dcA (contS (C.drop x.1))] := by unfold dlN; rw [List.map_append]; rfl
theorem dlN_len (C : List Int) (pre : List (Pl C)) : (dlN C pre).length = pre.length := by unfold dlN; rw [List.length_map]
theorem dlN_map (C : List Int) (pre : List (Pl C)) : dlN C pre = (pre.map (·.1)).map (fun p => dcA (contS (C.drop p))) := by unfold dlN; rw [List.map_map]; rfl
theorem dlN_size (C : List Int) (pre : List (Pl C)) : ∀ x ∈ dlN C pre, x.2.size ≤ C.length := by
  intro x hx
  unfold dlN at hx
  obtain ⟨y, _, rfl⟩ := List.mem_map.1 hx
  have h1 := dcA_len (contS (C.drop y.1))
  have h2 := cont_len (C.drop y.1)
  rw [List.length_drop] at h2
  omega
theorem dlN_all {xs C : List Int} (hC : (oneS xs).2.1 = C) {ys : List (Pl C)} (h : ys.map (·.1) = placesS C 0) (hl : ys.length ≤ 16) : dlN C ys = decN xs := by
  unfold decN
  rw [hC, dlN_map, h, List.take_of_length_le]
  rw [List.length_map, ← h, List.length_map]
  omega
theorem dlN_pre {xs C : List Int} (hC : (oneS xs).2.1 = C) {ys : List (Pl C)} (h : ys.map (·.1) <+: placesS C 0) (hl : ys.length = 17) : dlN C ys = decN xs := by
  obtain ⟨t, ht⟩ := h
  unfold decN
  rw [hC, dlN_map, ← ht, List.map_append, List.take_left' (by rw [List.length_map, List.length_map]; exact hl)]

/-- The two boxes while it ranges. -/
def decBx (Nb B : Nat) (n k : Value) : List (Nat × TypeId × Value) := [(Nb, 23, n), (B, 25, k)]
/-- What the round reads. -/
structure DecJ (w : World) (Nb B D N0 E : Nat) (aK : Option Addr) (m cK : Nat) (C : List Int) (r : Loop) (l : Nat) (ns : List (Int × ByteArray)) (W : World) (aN : Option Addr) (mN cN : Nat) : Prop where
  st : LSt w (decBx Nb B (.slice aN mN cN) (.slice aK m cK)) [D] l r W
  row : OwnA W w.heap.size (.slice aN mN cN) ns
  far : ∀ g, (Value.slice aN mN cN).ownBlock = some g → N0 + 4 ≤ g
  src : OwnB W E (.slice aK m cK) C
theorem DecJ.below {w : World} {Nb B D N0 E : Nat} {aK : Option Addr} {m cK : Nat} {C : List Int} {r : Loop} {l : Nat} {ns : List (Int × ByteArray)} {W W' : World} {aN : Option Addr} {mN cN : Nat} (h : DecJ w Nb B D N0 E aK m cK C r l ns W aN mN cN) (hb : Below W.heap.size W W') : DecJ w Nb B D N0 E aK m cK C r l ns W' aN mN cN :=
  ⟨h.st.below hb, h.row.below hb, h.far, row_below h.src hb⟩
/-- A block that is no cells, above all that stood at the call, turns. -/
theorem DecJ.put {w : World} {Nb B D N0 E : Nat} {aK : Option Addr} {m cK : Nat} {C : List Int} {r : Loop} {l : Nat} {ns : List (Int × ByteArray)} {W : World} {aN : Option Addr} {mN cN : Nat} (h : DecJ w Nb B D N0 E aK m cK C r l ns W aN mN cN) {k : Nat} {x : Obj} (hk : W.heap[k]? = some x) (hx : x.isCells = false) (o : Obj) (h0 : N0 ≤ k) (hn : Nb < N0) (hB : B < N0) (hD : D < N0) (hl : l < N0) (hw : w.heap.size ≤ N0) : DecJ w Nb B D N0 E aK m cK C r l ns (W.putObj k o) aN mN cN := by
  refine ⟨h.st.belowN (N := N0) (belowPut h0) ?_ (by intro y hy; simp at hy; omega) hl hw, h.row.put hk hx o, h.far, row_kept h.src (grownBy_putObj' W k o) (fun r e c hc => by cases e; rw [hk] at hc; cases hc; cases hx)⟩
  intro y hy
  simp only [decBx, List.mem_cons, List.not_mem_nil, or_false] at hy
  rcases hy with rfl | rfl <;> (simp only; omega)
/-- The loop's record turns. -/
theorem DecJ.turn {w : World} {Nb B D N0 E : Nat} {aK : Option Addr} {m cK : Nat} {C : List Int} {r : Loop} {l : Nat} {ns : List (Int × ByteArray)} {W : World} {aN : Option Addr} {mN cN : Nat} (h : DecJ w Nb B D N0 E aK m cK C r l ns W aN mN cN) (r' : Loop) : DecJ w Nb B D N0 E aK m cK C r' l ns (W.putObj l (.loop r')) aN mN cN :=
  ⟨h.st.put r', h.row.put h.st.loop rfl _, h.far, row_kept h.src (grownBy_putObj' W l _) (fun r e c hc => by cases e; rw [h.st.loop] at hc; cases hc)⟩
/-- The row has grown, and its box was written. -/
theorem DecJ.grow {w : World} {Nb B D N0 E : Nat} {aK : Option Addr} {m cK : Nat} {C : List Int} {r : Loop} {l : Nat} {ns ns' : List (Int × ByteArray)} {A X : World} {aN : Option Addr} {mN cN : Nat} (h : DecJ w Nb B D N0 E aK m cK C r l ns A aN mN cN) {g k c : Nat} (hg : A.grownBy X (Value.slice aN mN cN).ownBlock) (ho : OwnA X w.heap.size (.slice (some ⟨g, 0, none⟩) k c) ns') (hf : N0 + 4 ≤ g) : DecJ w Nb B D N0 E aK m cK C r l ns' (X.setCell ⟨Nb, 0, none⟩ (.slice (some ⟨g, 0, none⟩) k c)) (some ⟨g, 0, none⟩) k c := by
  have h1 := h.st.grownA h.row hg (by intro y hy; simp only [decBx, List.mem_cons, List.not_mem_nil, or_false] at hy; rcases hy with rfl | rfl; exact (by decide : (23 : TypeId) ≠ 52); exact (by decide : (25 : TypeId) ≠ 52))
  have hb := h1.st.get 0 (b := Nb) (t := 23) rfl
  refine ⟨h1.set 0 rfl _, ho.setBox hb (by decide) _, fun q hq => by simp [Value.ownBlock] at hq; omega, ?_⟩
  have h2 : OwnB X E (.slice aK m cK) C := row_apart h.src h.row (by decide) hg
  exact row_kept h2 (grownBy_setCell' X Nb _) (fun r e c hc => by cases e; rw [show X.heap[Nb]? = _ from hb] at hc; cases hc)

/-- Which blocks a round writes. -/
def SdN (Nb l : Nat) (v : Value) (q : Nat) : Prop := q = Nb ∨ q = l ∨ v.ownBlock = some q
theorem KJe.of {w : World} {Nb B D N0 E : Nat} {aK : Option Addr} {m cK : Nat} {C : List Int} {r : Loop} {l : Nat} {ns : List (Int × ByteArray)} {A Z : World} {aN : Option Addr} {mN cN : Nat} (h : DecJ w Nb B D N0 E aK m cK C r l ns A aN mN cN) (hg : GB (SdN Nb l (.slice aN mN cN)) A Z) (hz : N0 + 4 ≤ A.heap.size) (hn : Nb < N0) (hl : l < N0) : KJe N0 A Z := by
  have hb := h.st.st.get 0 (b := Nb) (t := 23) rfl
  refine ⟨fun k c hc => (hg.same k (Array.getElem?_eq_some_iff.1 hc).1 ?_).trans hc, fun k h1 h2 => hg.same k (by omega) ?_⟩
  · rintro (rfl | rfl | e)
    · rw [show A.heap[k]? = _ from hb] at hc; cases hc
    · rw [h.st.loop] at hc; cases hc
    · obtain ⟨c', h3⟩ := row_type h.row k e
      rw [hc] at h3
      cases h3
  · rintro (rfl | rfl | e)
    · omega
    · omega
    · have := h.far k e; omega

set_option maxRecDepth 100000 in
theorem decN_leave (w W : World) (tmps : Array Value) (D : Nat) (bx : List (Nat × TypeId × Value)) (h : BSt w bx [D] W) (a : Option Addr) (m c : Nat) (er : Int) (ns : List (Int × ByteArray)) (ho : OwnA W w.heap.size (.slice a m c) ns) (h2 : tmps[2]? = some (.slice a m c)) (h3 : tmps[3]? = some (.int .i64 er)) :
    LeavesInM Fence.wide 8 Tryd.prog Tryd.f22 tmps (fun e w' => ∃ a m c, e = .returned (.tuple #[.slice a m c, .int .i64 er]) ∧ OwnA w' w.heap.size (.slice a m c) ns ∧ Below w.heap.size w w') [{ target := .collected D, args := #[] }] .returning W := by
  have h1 := (h.dfr D (by simp)).2
  have h5 := h.take (by simp)
  refine ⟨by simp, .inl ⟨_, _, rfl, run_takeDeferred h1, ?_⟩⟩
  exact ⟨.tuple #[.slice a m c, .int .i64 er], by simp [results, Tryd.results22, go_sem, h2, h3, Array.getD_eq_getD_getElem?], a, m, c, rfl, ho.put h1 rfl _, h5.bel⟩

end Go.Proofs.YtgbbgfjamneioaaDoor
