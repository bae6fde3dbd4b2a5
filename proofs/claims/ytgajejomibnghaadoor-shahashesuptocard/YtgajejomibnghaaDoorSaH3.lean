/-
  Three hashes and what was written to each: the memory while ShaHashes runs. A list of Acts.
-/
import Derived.Test.YtgajejomibnghaaDoorSaHash
namespace Go.Proofs.YtgajejomibnghaaDoor
open Go.RowKit Go.IntWalk

def hp (g : Nat) : Value := .pointer (some ⟨g, 0, none⟩)
def nilS : Value := .slice none 0 0

theorem getD_set_self {α : Type} (l : List α) (i : Nat) (x d : α) (h : i < l.length) : (l.set i x).getD i d = x := by simp [List.getD, h]
theorem getD_set_ne {α : Type} (l : List α) (i j : Nat) (x d : α) (h : i ≠ j) : (l.set i x).getD j d = l.getD j d := by simp [List.getD, List.getElem?_set_ne h]

/-- The state: three hashes (blocks ps) that have taken xs, three slices vs that hold ys. -/
structure H3 (w W : World) (ps : List Nat) (vs : List Value) (xs ys : List (List Int)) : Prop where
  lp : ps.length = 3
  lv : vs.length = 3
  lx : xs.length = 3
  ly : ys.length = 3
  own : Blk 36 W w.heap.size (ps.map hp)
  want : Blk 37 W (w.heap.size + 1) vs
  hs : ∀ j, j < 3 → Hs 73 W (ps.getD j 0) [] [] (xs.getD j [])
  ge : ∀ j, j < 3 → w.heap.size + 1 < ps.getD j 0
  ne : ∀ i j, i < 3 → j < 3 → i ≠ j → ps.getD i 0 ≠ ps.getD j 0
  sv : ∀ j, j < 3 → ∃ a n c, vs.getD j nilS = .slice a n c ∧ SrcG .u8 256 W a n c (ys.getD j []) ∧ ∀ b o, a = some ⟨b, o, none⟩ → ys.getD j [] ≠ [] → w.heap.size + 1 < b ∧ ∀ i, i < 3 → b ≠ ps.getD i 0
  bl : Below w.heap.size w W

theorem some_ne {a b : Nat} (h : a ≠ b) : some a ≠ some b := fun e => h (Option.some.inj e)

theorem H3.lt {w W : World} {ps : List Nat} {vs : List Value} {xs ys : List (List Int)} (h : H3 w W ps vs xs ys) (j : Nat) (hj : j < 3) : ps.getD j 0 < W.heap.size := (h.hs j hj).lt
theorem H3.below {w W V : World} {ps : List Nat} {vs : List Value} {xs ys : List (List Int)} (h : H3 w W ps vs xs ys) (b : Below W.heap.size W V) : H3 w V ps vs xs ys :=
  ⟨h.lp, h.lv, h.lx, h.ly, h.own.below b, h.want.below b, fun j hj => (h.hs j hj).below b, h.ge, h.ne, fun j hj => by
    obtain ⟨a, n, c, h1, h2, h3⟩ := h.sv j hj
    exact ⟨a, n, c, h1, h2.below b, h3⟩, h.bl.trans (b.mono h.bl.size)⟩

/-- A row of the call's own is written that is none of these. -/
theorem H3.kept {w W V : World} {ps : List Nat} {vs : List Value} {xs ys : List (List Int)} {r : Nat} (h : H3 w W ps vs xs ys) (hg : W.grownBy V (some r)) (hr : w.heap.size + 1 < r) (hps : ∀ j, j < 3 → ps.getD j 0 ≠ r)
    (hvs : ∀ j, j < 3 → ∀ b o n c, vs.getD j nilS = .slice (some ⟨b, o, none⟩) n c → ys.getD j [] ≠ [] → b ≠ r) : H3 w V ps vs xs ys :=
  ⟨h.lp, h.lv, h.lx, h.ly, h.own.kept hg (some_ne (by omega)), h.want.kept hg (some_ne (by omega)), fun j hj => (h.hs j hj).kept hg (some_ne (hps j hj)), h.ge, h.ne, fun j hj => by
    obtain ⟨a, n, c, h1, h2, h3⟩ := h.sv j hj
    exact ⟨a, n, c, h1, h2.grown hg (fun b o hb hx => some_ne (hvs j hj b o n c (by rw [h1, hb]) hx)), h3⟩, h.bl.grown hg h.bl.size (fun k hk => by cases hk; omega)⟩

/-- A hash has taken more. -/
theorem H3.wrote {w W V : World} {ps : List Nat} {vs : List Value} {xs ys : List (List Int)} (h : H3 w W ps vs xs ys) (q : Nat) (hq : q < 3) (X : List Int) (hg : W.grownBy V (some (ps.getD q 0))) (hH : Hs 73 V (ps.getD q 0) [] [] X) : H3 w V ps vs (xs.set q X) ys := by
  have hge := h.ge q hq
  refine ⟨h.lp, h.lv, by rw [List.length_set]; exact h.lx, h.ly, h.own.kept hg (some_ne (by omega)), h.want.kept hg (some_ne (by omega)), fun j hj => ?_, h.ge, h.ne, fun j hj => ?_, h.bl.grown hg h.bl.size (fun k hk => by cases hk; omega)⟩
  · by_cases e : q = j
    · subst e
      rw [getD_set_self _ _ _ _ (by rw [h.lx]; exact hq)]
      exact hH
    · rw [getD_set_ne _ _ _ _ _ e]
      exact (h.hs j hj).kept hg (some_ne (h.ne j q hj hq (fun h => e h.symm)))
  · obtain ⟨a, n, c, h1, h2, h3⟩ := h.sv j hj
    exact ⟨a, n, c, h1, h2.grown hg (fun b o hb hx => some_ne ((h3 b o hb hx).2 q hq)), h3⟩

/-- A hash is another one. -/
theorem H3.hash {w W V : World} {ps : List Nat} {vs : List Value} {xs ys : List (List Int)} (h : H3 w W ps vs xs ys) (b : Below W.heap.size W V) (q : Nat) (hq : q < 3) (g : Nat) (hgW : W.heap.size ≤ g) (X : List Int) (hH : Hs 73 V g [] [] X) :
    H3 w (V.setCell ⟨w.heap.size, q, none⟩ (hp g)) (ps.set q g) vs (xs.set q X) ys := by
  have k := h.below b
  have hgs := gSet V w.heap.size q (hp g)
  have hW := h.want.lt
  refine ⟨by rw [List.length_set]; exact h.lp, h.lv, by rw [List.length_set]; exact h.lx, h.ly, ?_, k.want.kept hgs (some_ne (by omega)), fun j hj => ?_, fun j hj => ?_, fun i j hi hj hij => ?_, fun j hj => ?_, k.bl.setCell (by show w.heap.size ≤ w.heap.size; omega) _⟩
  · have := k.own.set q (hp g)
    rwa [← List.map_set] at this
  · by_cases e : q = j
    · subst e
      rw [getD_set_self xs _ _ _ (by rw [h.lx]; exact hq), getD_set_self ps _ _ _ (by rw [h.lp]; exact hq)]
      exact hH.kept hgs (some_ne (by omega))
    · rw [getD_set_ne _ _ _ _ _ e, getD_set_ne _ _ _ _ _ e]
      exact (k.hs j hj).kept hgs (by have := h.ge j hj; exact some_ne (by omega))
  · by_cases e : q = j
    · subst e
      rw [getD_set_self _ _ _ _ (by rw [h.lp]; exact hq)]
      omega
    · rw [getD_set_ne _ _ _ _ _ e]
      exact h.ge j hj
  · by_cases e1 : q = i
    · subst e1
      rw [getD_set_self _ _ _ _ (by rw [h.lp]; exact hq), getD_set_ne _ _ _ _ _ hij]
      have := h.lt j hj
      omega
    · rw [getD_set_ne _ _ _ _ _ e1]
      by_cases e2 : q = j
      · subst e2
        rw [getD_set_self _ _ _ _ (by rw [h.lp]; exact hq)]
        have := h.lt i hi
        omega
      · rw [getD_set_ne _ _ _ _ _ e2]
        exact h.ne i j hi hj hij
  · obtain ⟨a, n, c, h1, h2, h3⟩ := k.sv j hj
    obtain ⟨a', n', c', h1', h2', _⟩ := h.sv j hj
    rw [h1] at h1'
    simp only [Value.slice.injEq] at h1'
    obtain ⟨rfl, rfl, rfl⟩ := h1'
    refine ⟨a, n, c, h1, h2.grown hgs (fun b o hb hx => by have := (h3 b o hb hx).1; exact some_ne (by omega)), fun b o hb hx => ⟨(h3 b o hb hx).1, fun i hi => ?_⟩⟩
    by_cases e : q = i
    · subst e
      rw [getD_set_self _ _ _ _ (by rw [h.lp]; exact hq)]
      have := h2'.blk b o hb hx
      omega
    · rw [getD_set_ne _ _ _ _ _ e]
      exact (h3 b o hb hx).2 i hi

/-- What is wanted of one is another text. -/
theorem H3.text {w W : World} {ps : List Nat} {vs : List Value} {xs ys : List (List Int)} (h : H3 w W ps vs xs ys) (q : Nat) (hq : q < 3) (a : Option Addr) (n c : Nat) (Y : List Int) (hS : SrcG .u8 256 W a n c Y) (hb : ∀ b o, a = some ⟨b, o, none⟩ → Y ≠ [] → w.heap.size + 1 < b ∧ ∀ i, i < 3 → b ≠ ps.getD i 0) :
    H3 w (W.setCell ⟨w.heap.size + 1, q, none⟩ (.slice a n c)) ps (vs.set q (.slice a n c)) xs (ys.set q Y) := by
  have hgs := gSet W (w.heap.size + 1) q (.slice a n c)
  refine ⟨h.lp, by rw [List.length_set]; exact h.lv, h.lx, by rw [List.length_set]; exact h.ly, h.own.kept hgs (some_ne (by omega)), h.want.set q _, fun j hj => (h.hs j hj).kept hgs (by have := h.ge j hj; exact some_ne (by omega)), h.ge, h.ne, fun j hj => ?_, h.bl.setCell (by show w.heap.size ≤ w.heap.size + 1; omega) _⟩
  by_cases e : q = j
  · subst e
    refine ⟨a, n, c, by rw [getD_set_self _ _ _ _ (by rw [h.lv]; exact hq)], ?_, ?_⟩
    · rw [getD_set_self _ _ _ _ (by rw [h.ly]; exact hq)]
      exact hS.grown hgs (fun b o hb' hx => by have := (hb b o hb' hx).1; exact some_ne (by omega))
    · rw [getD_set_self _ _ _ _ (by rw [h.ly]; exact hq)]
      exact hb
  · obtain ⟨a', n', c', h1, h2, h3⟩ := h.sv j hj
    refine ⟨a', n', c', by rw [getD_set_ne _ _ _ _ _ e]; exact h1, ?_, ?_⟩
    · rw [getD_set_ne _ _ _ _ _ e]
      exact h2.grown hgs (fun b o hb' hx => by have := (h3 b o hb' hx).1; exact some_ne (by omega))
    · rw [getD_set_ne _ _ _ _ _ e]
      exact h3

theorem H3.cell {w W : World} {ps : List Nat} {vs : List Value} {xs ys : List (List Int)} (h : H3 w W ps vs xs ys) (j : Nat) (hj : j < 3) : W.cell? ⟨w.heap.size, j, none⟩ = some (hp (ps.getD j 0)) ∧ W.cell? ⟨w.heap.size + 1, j, none⟩ = some (vs.getD j nilS) ∧ W.frozen? ⟨w.heap.size, j, none⟩ = false ∧ W.frozen? ⟨w.heap.size + 1, j, none⟩ = false := by
  refine ⟨?_, ?_, h.own.frozen j, h.want.frozen j⟩
  · have hl : j < ps.length := by rw [h.lp]; exact hj
    rw [h.own.cell, List.getElem?_map, List.getElem?_eq_getElem hl]
    simp [List.getD, hl]
  · have hl : j < vs.length := by rw [h.lv]; exact hj
    rw [h.want.cell, List.getElem?_eq_getElem hl]
    simp [List.getD, hl]

/-- The slice at 'ao', of n acts, holds these. -/
structure Acts (w : World) (ao : Option Addr) (n cap : Nat) (es : List (Int × Int × Int × List Int)) : Prop where
  hl : es.length = n
  hcap : n ≤ cap
  hmax : cap ≤ maxLen
  hrd : 0 < n → ∃ b off, ao = some ⟨b, off, none⟩ ∧ ∀ i, i < n → ∃ a m c, w.cell? ⟨b, off + i * 4, none⟩ = some (.int .i64 (es.getD i (0, 0, 0, [])).1) ∧ w.cell? ⟨b, off + i * 4 + 1, none⟩ = some (.int .i64 (es.getD i (0, 0, 0, [])).2.1) ∧ w.cell? ⟨b, off + i * 4 + 2, none⟩ = some (.int .i64 (es.getD i (0, 0, 0, [])).2.2.1) ∧ w.cell? ⟨b, off + i * 4 + 3, none⟩ = some (.slice a m c) ∧ SrcG .u8 256 w a m c (es.getD i (0, 0, 0, [])).2.2.2

/-- How many bytes the first k acts bear. -/
def totA (es : List (Int × Int × Int × List Int)) (k : Nat) : Nat := ((es.take k).map (fun e => e.2.2.2)).flatten.length
theorem totA_next (es : List (Int × Int × Int × List Int)) (k : Nat) (h : k < es.length) : totA es (k + 1) = totA es k + (es.getD k (0, 0, 0, [])).2.2.2.length := by
  have e : es.take (k + 1) = es.take k ++ [es.getD k (0, 0, 0, [])] := by rw [List.take_succ_eq_append_getElem h]; simp [List.getD, h]
  unfold totA
  rw [e, List.map_append, List.flatten_append, List.length_append]
  simp
theorem totA_le (es : List (Int × Int × Int × List Int)) (k : Nat) : totA es k ≤ (es.map (fun e => e.2.2.2)).flatten.length := by
  unfold totA
  have h := congrArg (fun l => (l.map (fun e : Int × Int × Int × List Int => e.2.2.2)).flatten.length) (List.take_append_drop k es)
  simp only [List.map_append, List.flatten_append, List.length_append] at h
  omega

end Go.Proofs.YtgajejomibnghaaDoor
