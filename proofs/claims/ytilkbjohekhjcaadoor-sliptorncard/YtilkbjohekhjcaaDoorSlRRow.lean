/-
  The document's Row: all slips that stand one behind the other, their places, where they end, and why.
-/
import Derived.Maps.AppendAt
import Derived.Test.YtilkbjohekhjcaaDoorSlEnd
import Derived.Test.YtilkbjohekhjcaaDoorSlRTake
import Derived.Test.YtilkbjohekhjcaaDoorMoreI
namespace Go.Proofs.YtilkbjohekhjcaaDoor
open Go.RowKit Go.IntWalk

theorem row_kept {W W' : World} {row : Option Nat} {base : Nat} {e : TypeId} {size : Nat} {v : Value} {k : Nat} {xs : List Value} (h : W.ownsRow base e size v k xs) (hg : W.grownBy W' row)
    (hr : ∀ r, row = some r → ∀ c, W.heap[r]? ≠ some (Obj.cells c e (0, 0))) : W'.ownsRow base e size v k xs := by
  obtain ⟨hl, h | ⟨g, cap, cur, rfl, hb, hh, rest⟩⟩ := h
  · exact ⟨hl, .inl h⟩
  · exact ⟨hl, .inr ⟨g, cap, cur, rfl, hb, (hg.block g (Array.getElem?_eq_some_iff.1 hh).1 (fun e => hr g e.symm cur hh)).trans hh, rest⟩⟩

/-- The cells of a row of slips. -/
def EMatch (W : World) (base : Nat) : List Value → List (Int × List Int) → Prop
  | [], [] => True
  | a :: s :: cs, e :: es => a = .int .i64 e.1 ∧ (∃ ao m c, s = .slice ao m c) ∧ OwnB W base s e.2 ∧ EMatch W base cs es
  | _, _ => False

theorem EMatch.kept {W W' : World} {base : Nat} (hk : ∀ s xs, OwnB W base s xs → OwnB W' base s xs) : ∀ {cs : List Value} {es : List (Int × List Int)}, EMatch W base cs es → EMatch W' base cs es
  | [], [], _ => trivial
  | _ :: _ :: _, _ :: _, ⟨h1, h2, h3, h4⟩ => ⟨h1, h2, hk _ _ h3, EMatch.kept hk h4⟩
theorem EMatch.snoc {W : World} {base : Nat} {t : Int} {ao : Option Addr} {m c : Nat} {ys : List Int} (ho : OwnB W base (.slice ao m c) ys) :
    ∀ {cs : List Value} {es : List (Int × List Int)}, EMatch W base cs es → EMatch W base (cs ++ [.int .i64 t, .slice ao m c]) (es ++ [(t, ys)])
  | [], [], _ => ⟨rfl, ⟨_, _, _, rfl⟩, ho, trivial⟩
  | _ :: _ :: _, _ :: _, ⟨h1, h2, h3, h4⟩ => ⟨h1, h2, h3, EMatch.snoc ho h4⟩

theorem EMatch.len {W : World} {base : Nat} : ∀ {cs : List Value} {es : List (Int × List Int)}, EMatch W base cs es → cs.length = 2 * es.length
  | [], [], _ => rfl
  | _ :: _ :: _, _ :: _, ⟨_, _, _, h4⟩ => by simp only [List.length_cons]; have := EMatch.len h4; omega

theorem EMatch.lt {W : World} {base : Nat} : ∀ {cs : List Value} {es : List (Int × List Int)}, EMatch W base cs es → ∀ i s, cs[2 * i + 1]? = some s → ∀ g, s.ownBlock = some g → g < W.heap.size
  | [], [], _, i, s, h, _, _ => by simp at h
  | _ :: _ :: _, _ :: _, ⟨_, _, h3, h4⟩, i, s, h, g, hg => by
    cases i with
    | zero =>
      simp at h
      subst h
      exact (World.ownsRow.lt h3 g hg).2
    | succ i => exact EMatch.lt h4 i s (by rw [show 2 * (i + 1) + 1 = 2 * i + 1 + 1 + 1 by omega] at h; simpa using h) g hg

/-- No two contents of a row of slips lie in one block. -/
def EApart (cs : List Value) : Prop := ∀ i j s s', i < j → cs[2 * i + 1]? = some s → cs[2 * j + 1]? = some s' → ∀ g, s.ownBlock = some g → s'.ownBlock ≠ some g

theorem EApart.nil : EApart [] := fun i j s s' _ h => by simp at h

theorem EApart.snoc {W w1 : World} {base : Nat} {cs : List Value} {es : List (Int × List Int)} (h : EApart cs) (hm : EMatch W base cs es) {t : Int} {s0 : Value} {ys : List Int} (hO : OwnB w1 W.heap.size s0 ys) : EApart (cs ++ [.int .i64 t, s0]) := by
  intro i j s s' hij h1 h2 g hg hg'
  have hl := hm.len
  rcases Nat.lt_or_ge (2 * j + 1) cs.length with hj | hj
  · rw [List.getElem?_append_left (by omega)] at h1 h2
    exact h i j s s' hij h1 h2 g hg hg'
  · rw [List.getElem?_append_right hj] at h2
    have hj2 : 2 * j + 1 - cs.length = 1 := by
      rcases Nat.lt_or_ge (2 * j + 1 - cs.length) 2 with h' | h'
      · omega
      · rw [List.getElem?_eq_none (by simpa using h')] at h2; cases h2
    rw [hj2] at h2
    simp at h2
    subst h2
    rw [List.getElem?_append_left (by omega)] at h1
    have k1 := hm.lt i s h1 g hg
    have k2 := (World.ownsRow.lt hO g hg').1
    omega

/-- The slip that is told at a place. -/
def elS (xs : List Int) (p : Nat) : Int × List Int := (slipK (xs.drop p), slipD (xs.drop p))

theorem cell_two_new (w : World) (x y : Value) (t : TypeId) : ∀ j u, [x, y][j]? = some u → (w.alloc (.cells #[x, y] t)).cell? ((⟨w.heap.size, 0, none⟩ : Addr).add j) = some u := by
  intro j u hj
  match j, hj with
  | 0, hj => simpa [Addr.add] using hj
  | 1, hj => simpa [Addr.add] using hj
  | _ + 2, hj => simp at hj

theorem Tryd.infoR : (Tryd.prog.info? 30).map (fun i => (i.zero, i.size, i.bytes)) = some (some (.agg #[.int .i64 0, .slice none 0 0]), 2, 32) := by kernel_rfl

/-- The block of a row is of the row's type. -/
theorem row_type {W : World} {base : Nat} {e : TypeId} {size : Nat} {v : Value} {k : Nat} {xs : List Value} (h : W.ownsRow base e size v k xs) : ∀ r, v.ownBlock = some r → ∃ c, W.heap[r]? = some (Obj.cells c e (0, 0)) := by
  intro r hr
  obtain ⟨hl, ⟨rfl, _⟩ | ⟨g, cap, cur, rfl, hb, hh, rest⟩⟩ := h
  · simp [Value.ownBlock] at hr
  · simp [Value.ownBlock] at hr
    subst hr
    exact ⟨cur, hh⟩

/-- A row of another type stays while one grows. -/
theorem row_apart {W W' : World} {base base' : Nat} {e e' : TypeId} {size size' : Nat} {v v' : Value} {k k' : Nat} {xs xs' : List Value} (h : W.ownsRow base e size v k xs) (h' : W.ownsRow base' e' size' v' k' xs') (hne : e ≠ e') (hg : W.grownBy W' v'.ownBlock) : W'.ownsRow base e size v k xs :=
  row_kept h hg (fun r hr c hc => by
    obtain ⟨c', h2⟩ := row_type h' r hr
    rw [hc] at h2
    cases h2
    exact hne rfl)

theorem row_below {W W' : World} {base : Nat} {e : TypeId} {size : Nat} {v : Value} {k : Nat} {xs : List Value} (h : W.ownsRow base e size v k xs) (hb : Below W.heap.size W W') : W'.ownsRow base e size v k xs :=
  row_kept h (grown_of_below (r := none) hb) (by intro r e; cases e)

/-- 'append(l, x)' of an element. -/
theorem wpList_appR {ops : Array Oper} {rest : List Oper} {o : Oper} {a : Act} {Q : Exit → Act → World → Prop} (w : World) (hgd : o.guard = none) (s x : Operand)
    (ho : o.op = .call { callee := .builtin .append, args := #[s, x], argTypes := #[22, 22] })
    (base : Nat) (v : Value) (k : Nat) (cs : List Value) (hs : a.eval s = v) (hown : w.ownsRow base 30 2 v k cs)
    (ad : Addr) (t : Int) (ao : Option Addr) (m c : Nat) (hx : a.eval x = .slice (some ad) 1 1) (hcell : ∀ j u, [Value.int .i64 t, .slice ao m c][j]? = some u → w.cell? (ad.add j) = some u)
    (hb : k + 1 ≤ 4398046511104) (hbase : base ≤ w.heap.size)
    (h : ∀ g c' w', w'.ownsRow base 30 2 (.slice (some ⟨g, 0, none⟩) (k + 1) c') (k + 1) (cs ++ [.int .i64 t, .slice ao m c]) → base ≤ g → w.grownBy w' v.ownBlock →
      wpList Tryd.prog ops Q rest (a.put o.dst (.slice (some ⟨g, 0, none⟩) (k + 1) c')) w') :
    wpList Tryd.prog ops Q (o :: rest) a w := by
  obtain ⟨i0, hi, hz0, hz1, hz2⟩ := info_parts Tryd.infoR
  refine wpList_append_own_at (w := w) hgd s x 22 ho base 30 i0 _ 2 32 Tryd.underlying22 hi hz0 hz1 hz2 rfl (by decide) v k cs hs hown ad 1 1 [.int .i64 t, .slice ao m c] hx rfl hcell (by intro u hu; simp at hu; rcases hu with rfl | rfl <;> rfl) (by unfold maxLen; omega) (by omega) hbase ?_
  intro v' w' h1 h2 _ _
  have h1' := h1
  obtain ⟨_, ⟨_, h3⟩ | ⟨g, cap, cur, rfl, hb', hh, rest'⟩⟩ := h1'
  · simp at h3
  · exact h g cap w' h1 hb' h2

/-- Why no element stands behind them. -/
def rowErr (xs : List Int) : Int := if endS xs (placesS xs 0) < xs.length then (findS (xs.drop (endS xs (placesS xs 0)))).2 else 0

structure RowSt (w : World) (base : Nat) (L P : Value) (xs : List Int) (ps : List Nat) (cs : List Value) : Prop where
  hl : w.ownsRow base 30 2 L ps.length cs
  hm : EMatch w base cs (ps.map (elS xs))
  hp : OwnI w base P (ps.map fun p : Nat => (p : Int))

theorem RowSt.below {w w' : World} {base : Nat} {L P : Value} {xs : List Int} {ps : List Nat} {cs : List Value} (h : RowSt w base L P xs ps cs) (hb : Below w.heap.size w w') : RowSt w' base L P xs ps cs :=
  ⟨row_below h.hl hb, h.hm.kept (fun _ _ h => row_below h hb), row_below h.hp hb⟩

theorem RowSt.first {w3 W4 w4 : World} {base base' : Nat} {L P L' : Value} {xs : List Int} {ps : List Nat} {cs : List Value} {k : Nat} (St : RowSt w3 base L P xs ps cs) {ao : Option Addr} {m c : Nat} {ys : List Int} (hO : OwnB w3 base' (.slice ao m c) ys) (hbb : base ≤ base') (B : Below w3.heap.size w3 W4)
    (hg : W4.grownBy w4 L.ownBlock) (t : Int) (p : Nat) (hel : elS xs p = (t, ys)) (ho : w4.ownsRow base 30 2 L' (k + 1) (cs ++ [.int .i64 t, .slice ao m c])) (hk : (ps ++ [p]).length = k + 1) :
    w4.ownsRow base 30 2 L' (ps ++ [p]).length (cs ++ [.int .i64 t, .slice ao m c]) ∧ EMatch w4 base (cs ++ [.int .i64 t, .slice ao m c]) ((ps ++ [p]).map (elS xs)) ∧ OwnI w4 base P (ps.map fun p : Nat => (p : Int)) := by
  have hl := row_below St.hl B
  refine ⟨by rw [hk]; exact ho, ?_, row_apart (row_below St.hp B) hl (by decide) hg⟩
  have h1 : EMatch w4 base cs (ps.map (elS xs)) := St.hm.kept (fun _ _ h => row_apart (row_below h B) hl (by decide) hg)
  have h2 : OwnB w4 base (.slice ao m c) ys := row_apart (row_below (hO.rebase hbb) B) hl (by decide) hg
  rw [List.map_append, List.map_cons, List.map_nil, hel]
  exact EMatch.snoc h2 h1

theorem RowSt.second {w4 W5 w5 : World} {base : Nat} {L P P' : Value} {xs : List Int} {ps ps' : List Nat} {cs : List Value} (hl : w4.ownsRow base 30 2 L ps'.length cs) (hm : EMatch w4 base cs (ps'.map (elS xs))) (hp : OwnI w4 base P (ps.map fun p : Nat => (p : Int))) (B : Below w4.heap.size w4 W5)
    (hg : W5.grownBy w5 P.ownBlock) (ho : OwnI w5 base P' (ps'.map fun p : Nat => (p : Int))) : RowSt w5 base L P' xs ps' cs := by
  have hp' := row_below hp B
  exact ⟨row_apart (row_below hl B) hp' (by decide) hg, hm.kept (fun _ _ h => row_apart (row_below h B) hp' (by decide) hg), ho⟩

end Go.Proofs.YtilkbjohekhjcaaDoor
