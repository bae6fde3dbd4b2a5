/-
  What lies about der.All's loop: its variables, what a round does to them.
-/
import Derived.Maps.AppendAt
import Derived.RangeFuncBox
import Derived.Test.YtnabmdpgibnkaabDoorYSpans
import Derived.Test.YtnabmdpgibnkaabDoorYFindItToTake
namespace Go.Proofs.YtnabmdpgibnkaabDoor
open Go.RowKit Go.Shelf Go.IntWalk
attribute [local go_sem] Oper.semAt_some

/-- The builtin append, under a name that the walk doesn't open. -/
def appOf (ats : Array TypeId) (ty : TypeId) (args : Array Value) : Sem Value := Builtin.append_ ats ty args
theorem appOf_of (ats : Array TypeId) (ty : TypeId) (args : Array Value) : Builtin.append_ ats ty args = appOf ats ty args := rfl
attribute [local go_sem ↓] appOf_of

theorem Tryd.infoE : (Tryd.prog.info? 70).map (fun i => (i.zero, i.size, i.bytes)) = some (some (.agg #[.int .i64 0, .slice none 0 0]), 2, 32) := by kernel_rfl

theorem row_kept {W W' : World} {row : Option Nat} {base : Nat} {e : TypeId} {size : Nat} {v : Value} {k : Nat} {xs : List Value} (h : W.ownsRow base e size v k xs) (hg : W.grownBy W' row)
    (hr : ∀ r, row = some r → ∀ c, W.heap[r]? ≠ some (Obj.cells c e (0, 0))) : W'.ownsRow base e size v k xs := by
  obtain ⟨hl, h | ⟨g, cap, cur, rfl, hb, hh, rest⟩⟩ := h
  · exact ⟨hl, .inl h⟩
  · exact ⟨hl, .inr ⟨g, cap, cur, rfl, hb, (hg.block g (Array.getElem?_eq_some_iff.1 hh).1 (fun e => hr g e.symm cur hh)).trans hh, rest⟩⟩

/-- The cells of a row of elements. -/
def EMatch (W : World) (base : Nat) : List Value → List (Int × List Int) → Prop
  | [], [] => True
  | a :: s :: cs, e :: es => a = .int .i64 e.1 ∧ (∃ ao m c, s = .slice ao m c) ∧ OwnB W base s e.2 ∧ EMatch W base cs es
  | _, _ => False

theorem EMatch.kept {W W' : World} {base : Nat} (hk : ∀ s xs, OwnB W base s xs → OwnB W' base s xs) : ∀ {cs : List Value} {es : List (Int × List Int)}, EMatch W base cs es → EMatch W' base cs es
  | [], [], _ => trivial
  | _ :: _ :: _, _ :: _, ⟨h1, h2, h3, h4⟩ => ⟨h1, h2, hk _ _ h3, EMatch.kept hk h4⟩
theorem EMatch.snoc {W : World} {base : Nat} {t : Int} {ao : Option Addr} {m c : Nat} {ys : List Int} (ho : OwnB W base (.slice ao m c) ys) :
    ∀ {cs : List Value} {es : List (Int × List Int)}, EMatch W base cs es → EMatch W base (cs ++ [.int .i64 t, .slice ao m c]) (es ++ [(t, ys)])
  | [], [], _ => ⟨rfl, ⟨_, _, _, rfl⟩, ho, trivial⟩
  | _ :: _ :: _, _ :: _, ⟨h1, h2, h3, h4⟩ => ⟨h1, h2, h3, EMatch.snoc ho h4⟩

theorem EMatch.len {W : World} {base : Nat} : ∀ {cs : List Value} {es : List (Int × List Int)}, EMatch W base cs es → cs.length = 2 * es.length
  | [], [], _ => rfl
  | _ :: _ :: _, _ :: _, ⟨_, _, _, h4⟩ => by simp only [List.length_cons]; have := EMatch.len h4; omega

theorem EMatch.lt {W : World} {base : Nat} : ∀ {cs : List Value} {es : List (Int × List Int)}, EMatch W base cs es → ∀ i s, cs[2 * i + 1]? = some s → ∀ g, s.ownBlock = some g → g < W.heap.size
  | [], [], _, i, s, h, _, _ => by simp at h
  | _ :: _ :: _, _ :: _, ⟨_, _, h3, h4⟩, i, s, h, g, hg => by
    cases i with
    | zero =>
      simp at h
      subst h
      exact (World.ownsRow.lt h3 g hg).2
    | succ i => exact EMatch.lt h4 i s (by rw [show 2 * (i + 1) + 1 = 2 * i + 1 + 1 + 1 by omega] at h; simpa using h) g hg

/-- No two contents of a row of elements lie in one block. -/
def EApart (cs : List Value) : Prop := ∀ i j s s', i < j → cs[2 * i + 1]? = some s → cs[2 * j + 1]? = some s' → ∀ g, s.ownBlock = some g → s'.ownBlock ≠ some g

theorem EApart.nil : EApart [] := fun i j s s' _ h => by simp at h

theorem EApart.snoc {W w1 : World} {base : Nat} {cs : List Value} {es : List (Int × List Int)} (h : EApart cs) (hm : EMatch W base cs es) {t : Int} {s0 : Value} {ys : List Int} (hO : OwnB w1 W.heap.size s0 ys) : EApart (cs ++ [.int .i64 t, s0]) := by
  intro i j s s' hij h1 h2 g hg hg'
  have hl := hm.len
  rcases Nat.lt_or_ge (2 * j + 1) cs.length with hj | hj
  · rw [List.getElem?_append_left (by omega)] at h1 h2
    exact h i j s s' hij h1 h2 g hg hg'
  · rw [List.getElem?_append_right hj] at h2
    have hj2 : 2 * j + 1 - cs.length = 1 := by
      rcases Nat.lt_or_ge (2 * j + 1 - cs.length) 2 with h' | h'
      · omega
      · rw [List.getElem?_eq_none (by simpa using h')] at h2; cases h2
    rw [hj2] at h2
    simp at h2
    subst h2
    rw [List.getElem?_append_left (by omega)] at h1
    have k1 := hm.lt i s h1 g hg
    have k2 := (World.ownsRow.lt hO g hg').1
    omega

def elS (xs : List Int) (p : Nat) : Int × List Int := ((findS (xs.drop p)).1, contS (xs.drop p))
/-- Where the last of these places' element ends. -/
def endS (xs : List Int) (ps : List Nat) : Nat := match ps.getLast? with
  | none => 0
  | some p => p + (findS (xs.drop p)).2.2.1.toNat
theorem endS_snoc (xs : List Int) (ps : List Nat) (p : Nat) : endS xs (ps ++ [p]) = p + (findS (xs.drop p)).2.2.1.toNat := by simp [endS]

/-- What All's variables hold when these places have come. -/
structure AInv (w : World) (xs : List Int) (ao : Option Addr) (n cap : Nat) (ps : List Nat) (W : World) : Prop where
  list : ∃ v cs, Boxed W (w.heap.size + 1) 73 v ∧ W.ownsRow w.heap.size 70 2 v ps.length cs ∧ EMatch W w.heap.size cs (ps.map (elS xs)) ∧ (v = .slice none 0 0 ↔ ps = []) ∧ EApart cs
  arg : Boxed W w.heap.size 22 (.slice ao n cap)
  fin : Boxed W (w.heap.size + 1 + 1) 3 (.int .i64 (endS xs ps : Int))
  seq : Boxed W (w.heap.size + 1 + 1 + 1) 22 (.slice ao n cap)
  below : Below w.heap.size w W

theorem AInv.kept {w : World} {xs : List Int} {ao : Option Addr} {n cap : Nat} {ps : List Nat} {W W' : World} {row : Option Nat} (h : AInv w xs ao n cap ps W) (hg : W.grownBy W' row)
    (hr : ∀ r, row = some r → w.heap.size ≤ r ∧ ∃ o : Obj, W.heap[r]? = some o ∧ o.isCells = false) : AInv w xs ao n cap ps W' := by
  obtain ⟨⟨v, cs, b1, b2, b3, b4⟩, b5, b6, b8, b7⟩ := h
  have hc : ∀ r, row = some r → ∀ c e, W.heap[r]? ≠ some (Obj.cells c e (0, 0)) := by
    intro r e c t hh
    obtain ⟨_, o, ho, hf⟩ := hr r e
    rw [hh] at ho; cases ho; simp [Obj.isCells] at hf
  have hb : ∀ {B t v}, Boxed W B t v → Boxed W' B t v := fun {B t v} h => h.kept hg (fun e => hc B e.symm _ _ h)
  exact ⟨⟨v, cs, hb b1, row_kept b2 hg (fun r e c => hc r e c _), b3.kept (fun s ys h => row_kept h hg (fun r e c => hc r e c _)), b4⟩, hb b5, hb b6, hb b8, b7.grown hg b7.size (fun k e => (hr k e).1)⟩

theorem cell_two_new (w : World) (x y : Value) (t : TypeId) : ∀ j u, [x, y][j]? = some u → (w.alloc (.cells #[x, y] t)).cell? ((⟨w.heap.size, 0, none⟩ : Addr).add j) = some u := by
  intro j u hj
  match j, hj with
  | 0, hj => simpa [Addr.add] using hj
  | 1, hj => simpa [Addr.add] using hj
  | _ + 2, hj => simp at hj

theorem app_el {i0 : TypeInfo} (hi : Tryd.prog.info? 70 = some i0) (hz0 : i0.zero = some (.agg #[.int .i64 0, .slice none 0 0])) (hz1 : i0.size = 2) (hz2 : i0.bytes = 32)
    {W w1 : World} {n₀ k : Nat} {v : Value} {cs : List Value} (bL : Boxed W (n₀ + 1) 73 v) (hrow : W.ownsRow n₀ 70 2 v k cs) (hk : k + 1 ≤ 4398046511104) (_ : 0 ≤ k) (B1 : Below W.heap.size W w1) (hbs : n₀ ≤ W.heap.size)
    (t : Int) (ao' : Option Addr) (m c' : Nat) :
    ∃ g cap w2, (appOf #[73, 73] 73 #[v, .slice (some ⟨w1.heap.size, 0, none⟩) 1 1]).run Tryd.prog (w1.alloc (.cells #[.int .i64 t, .slice ao' m c'] 70)) = .ok (.slice (some ⟨g, 0, none⟩) (k + 1) cap) w2 ∧
      w2.ownsRow n₀ 70 2 (.slice (some ⟨g, 0, none⟩) (k + 1) cap) (k + 1) (cs ++ [.int .i64 t, .slice ao' m c']) ∧ (w1.alloc (.cells #[.int .i64 t, .slice ao' m c'] 70)).grownBy w2 v.ownBlock ∧
      Boxed w2 (n₀ + 1) 73 v ∧ Boxed (w2.setCell ⟨n₀ + 1, 0, none⟩ (.slice (some ⟨g, 0, none⟩) (k + 1) cap)) (n₀ + 1) 73 (.slice (some ⟨g, 0, none⟩) (k + 1) cap) ∧
      (w2.setCell ⟨n₀ + 1, 0, none⟩ (.slice (some ⟨g, 0, none⟩) (k + 1) cap)).ownsRow n₀ 70 2 (.slice (some ⟨g, 0, none⟩) (k + 1) cap) (k + 1) (cs ++ [.int .i64 t, .slice ao' m c']) ∧
      KeepsOthers w1 (w2.setCell ⟨n₀ + 1, 0, none⟩ (.slice (some ⟨g, 0, none⟩) (k + 1) cap)) ∧ Below n₀ w1 (w2.setCell ⟨n₀ + 1, 0, none⟩ (.slice (some ⟨g, 0, none⟩) (k + 1) cap)) := by
  have hrow1 := row_kept hrow (grown_of_below (r := none) B1) (by intro r e; cases e)
  have bL1 := bL.kept (grown_of_below (r := none) B1) (by simp)
  obtain ⟨v', w2, hrun, hown', hgrow, hnn⟩ := run_append_own (P := Tryd.prog) (w := w1.alloc (.cells #[.int .i64 t, .slice ao' m c'] 70)) n₀ 73 73 70 i0 _ 2 32 Tryd.underlying73 hi hz0 hz1 hz2 rfl (by decide) v k cs (hrow1.alloc _) ⟨w1.heap.size, 0, none⟩ 1 1 [.int .i64 t, .slice ao' m c'] rfl (cell_two_new _ _ _ _) (by simp [Value.oneCell']) (by simp [maxLen]; omega) (by omega) (by have := B1.size; simp; omega)
  obtain ⟨g, cap, rfl⟩ := ownsRow_succ hown'
  obtain ⟨hv1, hv2, hr2, hk2, hb2⟩ := bL1.appended (by decide) hrow1 (Nat.le_trans hbs B1.size) (Nat.le_succ _) hown' hgrow
  exact ⟨g, cap, w2, hrun, hown', hgrow, hv1, hv2, hr2, hk2, hb2⟩

theorem KpB.grown {n₀ Bs : Nat} {W W' : World} {row : Option Nat} (hg : W.grownBy W' row) (hn : n₀ ≤ W.heap.size)
    (hr : ∀ r, row = some r → n₀ ≤ r ∧ r ≠ Bs ∧ ∀ c, W.heap[r]? ≠ some (Obj.cells c 130 (0, 0))) : KpB n₀ Bs W W' := by
  refine ⟨(Below.refl n₀ W).grown hg hn (fun k e => (hr k e).1), fun v e => ?_, fun k c e => ?_⟩
  · have hlt := lt_of_cell e
    unfold World.cell? at e ⊢
    rw [show W'.heap[Bs]? = W.heap[Bs]? from hg.block Bs hlt (fun e => (hr Bs e.symm).2.1 rfl)]
    exact e
  · exact (hg.block k (Array.getElem?_eq_some_iff.1 e).1 (fun e' => (hr k e'.symm).2.2 c e)).trans e

/-- What All answers. -/
structure AllAns (W : World) (base : Nat) (xs : List Int) (v : Value) (pl err : Int) : Prop where
  place : pl = (endS xs (placesS xs 0) : Int)
  short : endS xs (placesS xs 0) < xs.length → v = .slice none 0 0 ∧ err = (findS (xs.drop (endS xs (placesS xs 0)))).2.2.2
  whole : ¬ endS xs (placesS xs 0) < xs.length → err = 0 ∧ ∃ cs, W.ownsRow base 70 2 v (placesS xs 0).length cs ∧ EMatch W base cs ((placesS xs 0).map (elS xs)) ∧ (v = .slice none 0 0 ↔ placesS xs 0 = []) ∧ EApart cs

theorem KeepsOthers.below {A B : World} (h : Below A.heap.size A B) : KeepsOthers A B := KeepsOthers.of_grownBy (grown_of_below (r := none) h) (by intro j o e; cases e)

/-- What a round of All's loop leaves: the element is appended, and where it ends is kept. -/
theorem all_step {w W w1 w2 : World} {xs : List Int} {ao : Option Addr} {n cap : Nat} {ps : List Nat} {v : Value} {cs : List Value} (bL : Boxed W (w.heap.size + 1) 73 v) (hrow : W.ownsRow w.heap.size 70 2 v ps.length cs)
    (hm : EMatch W w.heap.size cs (ps.map (elS xs))) (hap : EApart cs) (bB : Boxed W w.heap.size 22 (.slice ao n cap)) (bE : Boxed W (w.heap.size + 1 + 1) 3 (.int .i64 (endS xs ps : Int))) (bs : Boxed W (w.heap.size + 1 + 1 + 1) 22 (.slice ao n cap)) (hB : Below w.heap.size w W) (B1 : Below W.heap.size W w1)
    {t : Int} {ao' : Option Addr} {m c' g cap' : Nat} {ys : List Int} (hgrow : (w1.alloc (.cells #[.int .i64 t, .slice ao' m c'] 70)).grownBy w2 v.ownBlock)
    (hv1 : Boxed w2 (w.heap.size + 1) 73 v)
    (hv2 : Boxed (w2.setCell ⟨w.heap.size + 1, 0, none⟩ (.slice (some ⟨g, 0, none⟩) (ps.length + 1) cap')) (w.heap.size + 1) 73 (.slice (some ⟨g, 0, none⟩) (ps.length + 1) cap'))
    (hr2 : (w2.setCell ⟨w.heap.size + 1, 0, none⟩ (.slice (some ⟨g, 0, none⟩) (ps.length + 1) cap')).ownsRow w.heap.size 70 2 (.slice (some ⟨g, 0, none⟩) (ps.length + 1) cap') (ps.length + 1) (cs ++ [.int .i64 t, .slice ao' m c']))
    (hk2 : KeepsOthers w1 (w2.setCell ⟨w.heap.size + 1, 0, none⟩ (.slice (some ⟨g, 0, none⟩) (ps.length + 1) cap'))) (hb2 : Below w.heap.size w1 (w2.setCell ⟨w.heap.size + 1, 0, none⟩ (.slice (some ⟨g, 0, none⟩) (ps.length + 1) cap')))
    (ho : OwnB w1 W.heap.size (.slice ao' m c') ys) (p : Nat) (hel : elS xs p = (t, ys)) {W3 : World} (e3 : w2.setCell ⟨w.heap.size + 1, 0, none⟩ (.slice (some ⟨g, 0, none⟩) (ps.length + 1) cap') = W3) :
    (∀ (k : Nat) (c : Array Value), W.heap[k]? = some (Obj.cells c 130 (0, 0)) → W3.heap[k]? = some (Obj.cells c 130 (0, 0))) ∧ Boxed W3 (w.heap.size + 1 + 1) 3 (.int .i64 (endS xs ps : Int)) ∧
    ∀ (B : Nat) (E : Int), E = (endS xs (ps ++ [p]) : Int) →
      KeepsFrom B W (W3.setCell ⟨w.heap.size + 1 + 1, 0, none⟩ (.int .i64 E)) ∧ KpB w.heap.size (w.heap.size + 1 + 1 + 1) W (W3.setCell ⟨w.heap.size + 1 + 1, 0, none⟩ (.int .i64 E)) ∧ AInv w xs ao n cap (ps ++ [p]) (W3.setCell ⟨w.heap.size + 1 + 1, 0, none⟩ (.int .i64 E)) := by
  have hbW := hB.size
  have hrow1 := (row_kept hrow (grown_of_below (r := none) B1) (by intro r e; cases e)).alloc (Obj.cells #[.int .i64 t, .slice ao' m c'] 70)
  -- a block of another type than Element's, other than the list's own variable, lies as it lay
  have blk : ∀ (k : Nat) (c : Array Value) (ty : TypeId), ty ≠ 70 → k ≠ w.heap.size + 1 → w1.heap[k]? = some (Obj.cells c ty (0, 0)) → W3.heap[k]? = some (Obj.cells c ty (0, 0)) := by
    intro k c ty h1 h2 h3
    have hlt := (Array.getElem?_eq_some_iff.1 h3).1
    have h4 : (w1.alloc (.cells #[.int .i64 t, .slice ao' m c'] 70)).heap[k]? = some (Obj.cells c ty (0, 0)) := (Below.heap_alloc w1 _ k hlt).trans h3
    have h5 : w2.heap[k]? = some (Obj.cells c ty (0, 0)) := by
      refine (hgrow.block k (Array.getElem?_eq_some_iff.1 h4).1 (fun e => ?_)).trans h4
      rcases hrow1.2 with ⟨rfl, _⟩ | ⟨g0, cap0, cur, rfl, _, hh, _⟩
      · simp [Value.ownBlock] at e
      · simp [Value.ownBlock] at e; subst e; rw [hh] at h4; cases h4; exact h1 rfl
    rw [← e3]
    exact ((grownBy_setCell' w2 (w.heap.size + 1) _).block k (Array.getElem?_eq_some_iff.1 h5).1 (fun e => h2 (by simpa using e))).trans h5
  have blk0 : ∀ (k : Nat) (c : Array Value) (ty : TypeId), ty ≠ 70 → k ≠ w.heap.size + 1 → W.heap[k]? = some (Obj.cells c ty (0, 0)) → W3.heap[k]? = some (Obj.cells c ty (0, 0)) :=
    fun k c ty h1 h2 h3 => blk k c ty h1 h2 ((B1.block k (Array.getElem?_eq_some_iff.1 h3).1).trans h3)
  have hno : ∀ k c, W.heap[k]? = some (Obj.cells c 130 (0, 0)) → k ≠ w.heap.size + 1 := by
    intro k c h e; subst e; have := (show W.heap[w.heap.size + 1]? = _ from bL); rw [this] at h; cases h
  have bE3 : Boxed W3 (w.heap.size + 1 + 1) 3 (.int .i64 (endS xs ps : Int)) := blk0 _ _ _ (by decide) (by omega) bE
  refine ⟨fun k c h => blk0 k c _ (by decide) (hno k c h) h, bE3, ?_⟩
  intro B E hE
  have own3 : ∀ s zs, OwnB w1 w.heap.size s zs → OwnB W3 w.heap.size s zs := by
    intro s zs h
    obtain ⟨hl, h | ⟨g0, cap0, cur, rfl, hb, hh, rest⟩⟩ := h
    · exact ⟨hl, .inl h⟩
    · refine ⟨hl, .inr ⟨g0, cap0, cur, rfl, hb, blk g0 cur _ (by decide) (fun e => ?_) hh, rest⟩⟩
      subst e
      have := (show W.heap[w.heap.size + 1]? = _ from bL)
      rw [B1.block _ bL.lt, this] at hh
      cases hh
  have gE := grownBy_setCell' W3 (w.heap.size + 1 + 1) (.int .i64 E)
  have tyE : ∀ c ty, ty ≠ 3 → W3.heap[w.heap.size + 1 + 1]? ≠ some (Obj.cells c ty (0, 0)) := by
    intro c ty h1 h2
    rw [show W3.heap[w.heap.size + 1 + 1]? = _ from bE3] at h2
    cases h2; exact h1 rfl
  have own4 : ∀ s zs, OwnB w1 w.heap.size s zs → OwnB (W3.setCell ⟨w.heap.size + 1 + 1, 0, none⟩ (.int .i64 E)) w.heap.size s zs :=
    fun s zs h => row_kept (own3 s zs h) gE (by intro r e c; cases e; exact tyE c _ (by decide))
  have bs3 : Boxed W3 (w.heap.size + 1 + 1 + 1) 22 (.slice ao n cap) := blk0 _ _ _ (by decide) (by omega) bs
  have hb3 : Below w.heap.size W (W3.setCell ⟨w.heap.size + 1 + 1, 0, none⟩ (.int .i64 E)) := ((B1.mono hbW).trans (e3 ▸ hb2)).setCell (p := ⟨w.heap.size + 1 + 1, 0, none⟩) (by show w.heap.size ≤ w.heap.size + 1 + 1; omega) _
  refine ⟨?_, ⟨hb3, ?_, ?_⟩, ⟨⟨_, cs ++ [.int .i64 t, .slice ao' m c'], (e3 ▸ hv2).kept gE (by simp), ?_, ?_, ?_⟩, ?_, ?_, bs3.kept gE (by intro e; injection e; omega), hB.trans hb3⟩⟩
  · exact (((KeepsOthers.below B1).trans (e3 ▸ hk2)).trans (KeepsOthers.setCell _ _ _)).from _
  · intro u hu
    rw [bs.cell] at hu; cases hu
    exact (bs3.kept gE (by intro e; injection e; omega)).cell
  · intro k c h
    exact (gE.block k (Array.getElem?_eq_some_iff.1 (blk0 k c _ (by decide) (hno k c h) h)).1 (fun e => by cases e; exact tyE c _ (by decide) (blk0 _ c _ (by decide) (hno _ c h) h))).trans (blk0 k c _ (by decide) (hno k c h) h)
  · rw [List.length_append]
    exact row_kept (e3 ▸ hr2) gE (by intro r e c; cases e; exact tyE c _ (by decide))
  · rw [List.map_append, List.map_cons, List.map_nil, hel]
    exact EMatch.snoc (own4 _ _ (ho.rebase hbW)) (hm.kept (fun s zs h => own4 s zs (row_kept h (grown_of_below (r := none) B1) (by intro r e; cases e))))
  · exact ⟨by simp, hap.snoc hm ho⟩
  · exact (show Boxed W3 w.heap.size 22 (.slice ao n cap) from blk0 _ _ _ (by decide) (by omega) bB).kept gE (by intro e; injection e; omega)
  · rw [← hE]; exact bE3.set _

end Go.Proofs.YtnabmdpgibnkaabDoor
