/-
  Rows of numbers across the worlds that a walk goes through. Plain facts.
  The document's Row: all elements that stand one behind the other, their places, where they end, and why.
  der.One answers as the plain function of the bytes says, the content copied into new memory.
  The reference's One answers as the plain function of the bytes says; 'same' says true of elements of one tag and one content.
  What the statements' own helpers do: 'lent' copies bytes and lays a mark behind them; 'kept' says true of what was lent and is as it was; 'spoil' writes into the row that it is handed, and nowhere else.
  Memory while DerAlls runs its first loop: which blocks it may have written.
  der.Size answers the plain function's number at every int.
-/
import Derived.Test.YtgbbgfjamneioaaDoorYIts
import Derived.Test.YtgbbgfjamneioaaDoorYMoreToFind
import Derived.Maps.AppendAt
import Derived.Test.YtgbbgfjamneioaaDoorYAllBaseToQRound
import Derived.Test.YtgbbgfjamneioaaDoorYBoxStToRTake
import Derived.Test.YtgbbgfjamneioaaDoorYElemToSpans
import Derived.Test.YtgbbgfjamneioaaDoorYBaseToBts
import Derived.Deep.QuietTactic
import Derived.BigQuiet
import Derived.Test.YtgbbgfjamneioaaDoorYEachIt
namespace Go.Proofs.YtgbbgfjamneioaaDoor
open Go.RowKit Go.IntWalk

theorem OwnI.toSrc {w : World} {base m c : Nat} {ao : Option Addr} {xs : List Int} (h : OwnI w base (.slice ao m c) xs) (hb : ∀ x ∈ xs, -9223372036854775808 ≤ x ∧ x < 9223372036854775808) : SrcI w ao m c xs := by
  rcases h.split with ⟨he, hx⟩ | ⟨g, cap, he, h1, h2, h3, h4⟩
  · simp at he
    obtain ⟨rfl, rfl, rfl⟩ := he
    subst hx
    exact ⟨rfl, Nat.le_refl _, by decide, fun _ => ⟨rfl, rfl⟩, fun h => absurd rfl h, by simp⟩
  · simp at he
    obtain ⟨rfl, rfl, rfl⟩ := he
    exact h.src hb _ (Nat.le_refl _) (by simp) h4

theorem OwnI.lt {w : World} {base : Nat} {v : Value} {xs : List Int} (h : OwnI w base v xs) : ∀ k, v.ownBlock = some k → base ≤ k ∧ k < w.heap.size := World.ownsRow.lt h

theorem OwnI.belowA {w w' : World} {base : Nat} {v : Value} {xs : List Int} (h : OwnI w base v xs) (hb : Below w.heap.size w w') : OwnI w' base v xs :=
  h.below hb (fun k hk => (h.lt k hk).2)

/-- Bytes that lie at or above a block number, or below it, are apart from a row that lies elsewhere. -/
theorem SrcI.apart {w w' : World} {ao : Option Addr} {n cap : Nat} {xs : List Int} {v : Value} (h : SrcI w ao n cap xs) (hg : w.grownBy w' v.ownBlock)
    (hne : ∀ b off, ao = some ⟨b, off, none⟩ → xs ≠ [] → v.ownBlock ≠ some b) : SrcI w' ao n cap xs :=
  h.grown hg fun b off he hx h' => hne b off he hx h'.symm

theorem ownI_apart {w u : World} {base base' n m c c' : Nat} {a a' : Option Addr} {xs ys : List Int} (h : OwnI w base (.slice a n c) xs) (h' : OwnI u base' (.slice a' m c') ys) (hlt : w.heap.size ≤ base') :
    ∀ b off, a' = some ⟨b, off, none⟩ → ys ≠ [] → (Value.slice a n c).ownBlock ≠ some b := by
  intro b off he _ hk
  subst he
  have h1 := (h.lt b hk).2
  have h2 := (h'.lt b rfl).1
  omega

theorem OwnI.ne_row {w : World} {base : Nat} {v : Value} {xs : List Int} (h : OwnI w base v xs) {b : Nat} (hb : b < base ∨ w.heap.size ≤ b) : some b ≠ v.ownBlock := by
  intro he
  have := h.lt b he.symm
  omega

theorem SrcI.blk {w : World} {ao : Option Addr} {n cap : Nat} {xs : List Int} (h : SrcI w ao n cap xs) : ∀ b off, ao = some ⟨b, off, none⟩ → xs ≠ [] → b < w.heap.size := by
  intro b off he hx
  obtain ⟨b', off', he', hc⟩ := h.hrd hx
  rw [he] at he'
  simp at he'
  obtain ⟨rfl, rfl⟩ := he'
  exact lt_of_cell (hc 0 (by cases xs with | nil => exact absurd rfl hx | cons a r => simp))

theorem SrcI.belowH {w W w' : World} {ao : Option Addr} {n cap : Nat} {xs : List Int} (h : SrcI w ao n cap xs) (hb : Below W.heap.size W w') (e : W.heap = w.heap) : SrcI w' ao n cap xs := (h.heap e).below hb

theorem SrcI.at {w : World} {ao : Option Addr} {n cap : Nat} {xs : List Int} (h : SrcI w ao n cap xs) (k : Nat) (hk : k < n) : ∃ b off, ao = some ⟨b, off, none⟩ ∧ w.cell? ⟨b, off + k, none⟩ = some (.int .i64 (xs.getD k 0)) := by
  have hl := h.hlen
  obtain ⟨b, off, he, hc⟩ := h.hrd (by intro h; subst h; simp at hl; omega)
  exact ⟨b, off, he, hc k (by omega)⟩

theorem Drawn.src {w W : World} (h : Drawn w W) {ao : Option Addr} {n cap : Nat} {xs : List Int} (hs : SrcI w ao n cap xs) : SrcI W ao n cap xs := hs.heap h.heap

theorem Drawn.trans {w W V : World} (h : Drawn w W) (k : Drawn W V) : Drawn w V := ⟨k.os.trans h.os, k.tape.trans h.tape, k.output.trans h.output, k.heap.trans h.heap⟩

theorem Drawn.toBelow {w W : World} (h : Drawn w W) (B : Nat) : Below B w W := h.below (Below.refl _ _)

theorem SrcI.lenI {w : World} {ao : Option Addr} {n cap : Nat} {xs : List Int} (h : SrcI w ao n cap xs) : (n : Int) ≤ 9223372036854775807 ∧ (cap : Int) ≤ 9223372036854775807 := by
  have h1 := h.hcap
  have h2 := h.hmax
  unfold maxLen at h2
  omega

end Go.Proofs.YtgbbgfjamneioaaDoor

namespace Go.Proofs.YtgbbgfjamneioaaDoor
open Go.RowKit Go.IntWalk

theorem Tryd.infoR : (Tryd.prog.info? 85).map (fun i => (i.zero, i.size, i.bytes)) = some (some (.agg #[.int .i64 0, .slice none 0 0]), 2, 32) := by kernel_rfl

/-- The block of a row is of the row's type. -/
theorem row_type {W : World} {base : Nat} {e : TypeId} {size : Nat} {v : Value} {k : Nat} {xs : List Value} (h : W.ownsRow base e size v k xs) : ∀ r, v.ownBlock = some r → ∃ c, W.heap[r]? = some (Obj.cells c e (0, 0)) := by
  intro r hr
  obtain ⟨hl, ⟨rfl, _⟩ | ⟨g, cap, cur, rfl, hb, hh, rest⟩⟩ := h
  · simp [Value.ownBlock] at hr
  · simp [Value.ownBlock] at hr
    subst hr
    exact ⟨cur, hh⟩

/-- A row of another type stays while one grows. -/
theorem row_apart {W W' : World} {base base' : Nat} {e e' : TypeId} {size size' : Nat} {v v' : Value} {k k' : Nat} {xs xs' : List Value} (h : W.ownsRow base e size v k xs) (h' : W.ownsRow base' e' size' v' k' xs') (hne : e ≠ e') (hg : W.grownBy W' v'.ownBlock) : W'.ownsRow base e size v k xs :=
  row_kept h hg (fun r hr c hc => by
    obtain ⟨c', h2⟩ := row_type h' r hr
    rw [hc] at h2
    cases h2
    exact hne rfl)

theorem row_below {W W' : World} {base : Nat} {e : TypeId} {size : Nat} {v : Value} {k : Nat} {xs : List Value} (h : W.ownsRow base e size v k xs) (hb : Below W.heap.size W W') : W'.ownsRow base e size v k xs :=
  row_kept h (grown_of_below (r := none) hb) (by intro r e; cases e)

/-- Why no element stands behind them. -/
def rowErr (xs : List Int) : Int := if endS xs (placesS xs 0) < xs.length then (findS (xs.drop (endS xs (placesS xs 0)))).2.2.2 else 0

structure RowSt (w : World) (base : Nat) (L P : Value) (xs : List Int) (ps : List Nat) (cs : List Value) : Prop where
  hl : w.ownsRow base 85 2 L ps.length cs
  hm : EMatch w base cs (ps.map (elS xs))
  hp : OwnI w base P (ps.map fun p : Nat => (p : Int))

theorem RowSt.below {w w' : World} {base : Nat} {L P : Value} {xs : List Int} {ps : List Nat} {cs : List Value} (h : RowSt w base L P xs ps cs) (hb : Below w.heap.size w w') : RowSt w' base L P xs ps cs :=
  ⟨row_below h.hl hb, h.hm.kept (fun _ _ h => row_below h hb), row_below h.hp hb⟩

theorem RowSt.first {w3 W4 w4 : World} {base base' : Nat} {L P L' : Value} {xs : List Int} {ps : List Nat} {cs : List Value} {k : Nat} (St : RowSt w3 base L P xs ps cs) {ao : Option Addr} {m c : Nat} {ys : List Int} (hO : OwnB w3 base' (.slice ao m c) ys) (hbb : base ≤ base') (B : Below w3.heap.size w3 W4)
    (hg : W4.grownBy w4 L.ownBlock) (t : Int) (p : Nat) (hel : elS xs p = (t, ys)) (ho : w4.ownsRow base 85 2 L' (k + 1) (cs ++ [.int .i64 t, .slice ao m c])) (hk : (ps ++ [p]).length = k + 1) :
    w4.ownsRow base 85 2 L' (ps ++ [p]).length (cs ++ [.int .i64 t, .slice ao m c]) ∧ EMatch w4 base (cs ++ [.int .i64 t, .slice ao m c]) ((ps ++ [p]).map (elS xs)) ∧ OwnI w4 base P (ps.map fun p : Nat => (p : Int)) := by
  have hl := row_below St.hl B
  refine ⟨by rw [hk]; exact ho, ?_, row_apart (row_below St.hp B) hl (by decide) hg⟩
  have h1 : EMatch w4 base cs (ps.map (elS xs)) := St.hm.kept (fun _ _ h => row_apart (row_below h B) hl (by decide) hg)
  have h2 : OwnB w4 base (.slice ao m c) ys := row_apart (row_below (hO.rebase hbb) B) hl (by decide) hg
  rw [List.map_append, List.map_cons, List.map_nil, hel]
  exact EMatch.snoc h2 h1

theorem RowSt.second {w4 W5 w5 : World} {base : Nat} {L P P' : Value} {xs : List Int} {ps ps' : List Nat} {cs : List Value} (hl : w4.ownsRow base 85 2 L ps'.length cs) (hm : EMatch w4 base cs (ps'.map (elS xs))) (hp : OwnI w4 base P (ps.map fun p : Nat => (p : Int))) (B : Below w4.heap.size w4 W5)
    (hg : W5.grownBy w5 P.ownBlock) (ho : OwnI w5 base P' (ps'.map fun p : Nat => (p : Int))) : RowSt w5 base L P' xs ps' cs := by
  have hp' := row_below hp B
  exact ⟨row_apart (row_below hl B) hp' (by decide) hg, hm.kept (fun _ _ h => row_apart (row_below h B) hp' (by decide) hg), ho⟩

end Go.Proofs.YtgbbgfjamneioaaDoor

namespace Go.Proofs.YtgbbgfjamneioaaDoor
open Go.RowKit Go.IntWalk

/-- Tag, content and the error's number where bytes are to be just one element. -/
def oneS (xs : List Int) : Int × List Int × Int :=
  if (findS xs).2.2.2 ≠ 0 then (0, [], (findS xs).2.2.2)
  else if (findS xs).2.2.1 < (xs.length : Int) then (0, [], 13)
  else ((findS xs).1, contS xs, 0)

set_option maxRecDepth 100000 in
set_option maxHeartbeats 2000000 in
theorem one_any (ao : Option Addr) (n cap : Nat) (xs : List Int) (w : World) (hs : Src w ao n cap xs) (hN : (n : Int) ≤ 140737488355328) :
    Calls Tryd.prog 40 #[.slice ao n cap] w fun e w' => ∃ ao' m c',
      e = .returned (.tuple #[.agg #[.int .i64 (oneS xs).1, .slice ao' m c'], .int .i64 (oneS xs).2.2]) ∧ OwnB w' w.heap.size (.slice ao' m c') (oneS xs).2.1 ∧ Below w.heap.size w w' := by
  have hl := hs.hlen
  rcases findS_cases xs hs.hbyt with ⟨err, h1, h2, h3, he⟩ | ⟨l, h, he, h1, h2, h3, h4, h5⟩
  · have ho : oneS xs = (0, [], err) := by unfold oneS; rw [he, if_pos h1]
    have HE := hide he
    have HO := hide ho
    have h1' : (err != 0) = true := by simpa using h1
    clear he ho h1 hl
    go_enter Tryd.func40, Tryd.ntmps40
    go_wp2_with (go_at_call 62; refine (find_any _ _ _ xs _ (by exact hs.alloc _) hN).mono ?_; rintro e w1 ⟨rfl, hb1⟩; rw [HE.out]; unfold spanV; obtain ⟨hc, hf⟩ := bcell hb1; have hz : w.heap.size < w1.heap.size := by (have := hb1.size; simp at this; omega))
    refine bodyPost_ret (v := .tuple #[.agg #[.int .i64 0, .slice none 0 0], .int .i64 err]) (by simp [results, Tryd.results40, go_sem, hc, hz]) rfl ⟨none, 0, 0, by rw [HO.out], by rw [HO.out]; exact OwnB.nil _ _, ?_⟩
    exact (((((Below.refl _ _).alloc (Nat.le_refl _) _).trans (hb1.mono (by simp))).setCell (by simp) _).setCell (by simp) _).alloc (by simp; omega) _
  · have hcs : contS xs = (xs.take h).drop l := by unfold contS; rw [he]; simp
    rw [hl] at h4
    generalize xs.getD 0 0 = t at he
    by_cases h6 : h < n
    · have ho : oneS xs = (0, [], 13) := by unfold oneS; rw [he, hl, if_neg (by simp), if_pos (by simp only []; omega)]
      have HE := hide he
      have HO := hide ho
      clear he ho hcs hl
      go_enter Tryd.func40, Tryd.ntmps40
      go_wp2_with (go_at_call 62; refine (find_any _ _ _ xs _ (by exact hs.alloc _) hN).mono ?_; rintro e w1 ⟨rfl, hb1⟩; rw [HE.out]; unfold spanV; obtain ⟨hc, hf⟩ := bcell hb1; have hz : w.heap.size < w1.heap.size := by (have := hb1.size; simp at this; omega))
      refine bodyPost_ret (v := .tuple #[.agg #[.int .i64 0, .slice none 0 0], .int .i64 13]) (by simp [results, Tryd.results40, go_sem, hc, hz]) rfl ⟨none, 0, 0, by rw [HO.out], by rw [HO.out]; exact OwnB.nil _ _, ?_⟩
      exact (((((Below.refl _ _).alloc (Nat.le_refl _) _).trans (hb1.mono (by simp))).setCell (by simp) _).setCell (by simp) _).alloc (by simp; omega) _
    · have ho : oneS xs = (t, (xs.take h).drop l, 0) := by unfold oneS; rw [he, hl, if_neg (by simp), if_neg (by simp only []; omega), hcs]
      have HE := hide he
      have HO := hide ho
      clear he ho hcs hl
      go_enter Tryd.func40, Tryd.ntmps40
      go_wp2_with (first | (go_at_call 62; refine (find_any _ _ _ xs _ (by exact hs.alloc _) hN).mono ?_; rintro e w1 ⟨rfl, hb1⟩; rw [HE.out]; unfold spanV; obtain ⟨hc, hf⟩ := bcell hb1; have hz : w.heap.size < w1.heap.size := (by have := hb1.size; simp at this; omega); have i0 : w1.cell? ⟨w.heap.size, 0, none⟩ = some (.int .i64 0) := (by rw [hc _ _ (by simp)]; simp); have i1 : w1.cell? ⟨w.heap.size, 1, none⟩ = some (.slice none 0 0) := (by rw [hc _ _ (by simp)]; simp)) | (go_at_call 63; refine (element_any _ l h _ _ _ xs _ (by exact ((hs.alloc _).below hb1).alloc _) hN h3 h4).mono ?_; rintro e w2 ⟨ao', c', rfl, hv, hb2⟩; obtain ⟨hc2, hf2⟩ := bcell hb2; have j0 : w2.cell? ⟨w.heap.size, 0, none⟩ = some (.int .i64 0) := (hc2 _ _ (by simp; omega)).trans ((World.cell?_alloc_lt _ _ _ hz).trans i0); have j1 : w2.cell? ⟨w.heap.size, 1, none⟩ = some (.slice none 0 0) := (hc2 _ _ (by simp; omega)).trans ((World.cell?_alloc_lt _ _ _ hz).trans i1); have hz2 : w1.heap.size < w2.heap.size := (by have := hb2.size; simp at this; omega)))
      refine bodyPost_ret (v := .tuple #[.agg #[.int .i64 t, .slice ao' (h - l) c'], .int .i64 0]) (by simp [results, Tryd.results40, go_sem, j0, j1]) rfl ⟨ao', h - l, c', by rw [HO.out], ?_, ?_⟩
      · rw [HO.out]
        exact ((hv.setBelow (by simp; omega) _).setBelow (by simp; omega) _).rebase (by simp; omega)
      · exact ((((((Below.refl _ _).alloc (Nat.le_refl _) _).trans (hb1.mono (by simp))).alloc (by omega) _).trans (hb2.mono (by simp; omega))).setCell (by simp) _).setCell (by simp) _

end Go.Proofs.YtgbbgfjamneioaaDoor

namespace Go.Proofs.YtgbbgfjamneioaaDoor
open Go.RowKit Go.IntWalk

theorem contS_byte (xs : List Int) (hb : ∀ x ∈ xs, 0 ≤ x ∧ x < 256) : ∀ x ∈ contS xs, 0 ≤ x ∧ x < 256 := fun x hx => hb x (List.mem_of_mem_take (List.mem_of_mem_drop hx))

theorem oneS_byte (xs : List Int) (hb : ∀ x ∈ xs, 0 ≤ x ∧ x < 256) : ∀ x ∈ (oneS xs).2.1, 0 ≤ x ∧ x < 256 := by
  intro x hx
  unfold oneS at hx
  split at hx
  · simp at hx
  · split at hx
    · simp at hx
    · exact contS_byte xs hb x hx

end Go.Proofs.YtgbbgfjamneioaaDoor

namespace Go.Proofs.YtgbbgfjamneioaaDoor
open Go.RowKit Go.IntWalk

end Go.Proofs.YtgbbgfjamneioaaDoor

namespace Go.Proofs.YtgbbgfjamneioaaDoor
open Go.RowKit Go.Shelf Go.IntWalk

/-- World B is A, but for new blocks and those that S names. -/
structure GB (S : Nat → Prop) (A B : World) : Prop where
  os : B.os = A.os
  tape : B.tape = A.tape
  output : B.output = A.output
  size : A.heap.size ≤ B.heap.size
  same : ∀ q, q < A.heap.size → ¬ S q → B.heap[q]? = A.heap[q]?

theorem GB.refl (S : Nat → Prop) (A : World) : GB S A A := ⟨rfl, rfl, rfl, Nat.le_refl _, fun _ _ _ => rfl⟩

theorem GB.step {S S' : Nat → Prop} {A B C : World} {row : Option Nat} (h : GB S A B) (hg : B.grownBy C row) (hS : ∀ q, S q → S' q) (hr : ∀ q, row = some q → S' q) : GB S' A C :=
  ⟨hg.os.trans h.os, hg.tape.trans h.tape, hg.output.trans h.output, Nat.le_trans h.size hg.size, fun q hq hn =>
    (hg.block q (Nat.lt_of_lt_of_le hq h.size) (fun e => hn (hr q e.symm))).trans (h.same q hq (fun hs => hn (hS q hs)))⟩

theorem GB.belowA {S : Nat → Prop} {A B C : World} (h : GB S A B) (hb : Below B.heap.size B C) : GB S A C :=
  h.step (grown_of_below (r := none) hb) (fun _ h => h) (by intro q e; cases e)

theorem GB.toBelow {S : Nat → Prop} {A B : World} {N : Nat} (h : GB S A B) (hN : N ≤ A.heap.size) (hS : ∀ q, S q → N ≤ q) : Below N A B :=
  ⟨h.os, h.tape, h.output, h.size, fun k hk => h.same k (by omega) (fun hs => by have := hS k hs; omega)⟩

theorem GB.rowNe {S : Nat → Prop} {A B : World} {base : Nat} {e : TypeId} {size : Nat} {v : Value} {k : Nat} {xs : List Value} (hg : GB S A B) (h : A.ownsRow base e size v k xs) (hr : ∀ q, v.ownBlock = some q → ¬ S q) : B.ownsRow base e size v k xs := by
  obtain ⟨hl, h | ⟨g, cap, cur, rfl, hb, hh, rest⟩⟩ := h
  · exact ⟨hl, .inl h⟩
  · exact ⟨hl, .inr ⟨g, cap, cur, rfl, hb, (hg.same g (Array.getElem?_eq_some_iff.1 hh).1 (hr g rfl)).trans hh, rest⟩⟩

/-- The contents of a row of elements, up to the k-th. -/
def SB (cs : List Value) (k : Nat) (q : Nat) : Prop := ∃ j s, j < k ∧ cs[2 * j + 1]? = some s ∧ s.ownBlock = some q

theorem EMatch.get7 {W : World} {base : Nat} : ∀ {cs : List Value} {es : List (Int × List Int)}, EMatch W base cs es → ∀ i, i < es.length →
    ∃ ao m c, cs[2 * i]? = some (.int .i64 (es.getD i (0, [])).1) ∧ cs[2 * i + 1]? = some (.slice ao m c) ∧ OwnB W base (.slice ao m c) (es.getD i (0, [])).2
  | [], [], _, i, h => by simp at h
  | a :: s :: cs, e :: es, ⟨h1, ⟨ao, m, c, h2⟩, h3, h4⟩, i, h => by
    cases i with
    | zero => exact ⟨ao, m, c, by simp [h1], by simp [h2], by simpa [h2] using h3⟩
    | succ i =>
      obtain ⟨ao', m', c', k1, k2, k3⟩ := EMatch.get7 h4 i (by simpa using h)
      exact ⟨ao', m', c', by rw [show 2 * (i + 1) = 2 * i + 1 + 1 by omega]; simpa using k1, by rw [show 2 * (i + 1) + 1 = 2 * i + 1 + 1 + 1 by omega]; simpa using k2, by simpa using k3⟩

theorem SB.at {W : World} {base : Nat} {cs : List Value} {es : List (Int × List Int)} (hm : EMatch W base cs es) {k q : Nat} (h : SB cs k q) : base ≤ q ∧ q < W.heap.size ∧ ∃ cu, W.heap[q]? = some (.cells cu 5 (0, 0)) := by
  obtain ⟨j, s, hj, h1, h2⟩ := h
  have hl := hm.len
  have hjl : j < es.length := by
    rcases Nat.lt_or_ge j es.length with h' | h'
    · exact h'
    · rw [List.getElem?_eq_none (by omega)] at h1; cases h1
  obtain ⟨ao, m, c, _, k2, k3⟩ := hm.get7 j hjl
  rw [h1] at k2
  cases k2
  have h4 := k3.lt q h2
  exact ⟨h4.1, h4.2, row_type k3 q h2⟩

theorem SB.mono {cs : List Value} {k : Nat} {q : Nat} (h : SB cs k q) : SB cs (k + 1) q := by
  obtain ⟨j, s, hj, h⟩ := h
  exact ⟨j, s, by omega, h⟩

theorem GB.box {S : Nat → Prop} {A B : World} (hg : GB S A B) (hS : ∀ q, S q → ∃ cu, A.heap[q]? = some (.cells cu 5 (0, 0))) {b : Nat} {t : TypeId} {v : Value} (h : Boxed A b t v) (ht : t ≠ 5) : Boxed B b t v := by
  refine (hg.same b h.lt (fun hs => ?_)).trans h
  obtain ⟨cu, h2⟩ := hS b hs
  rw [show A.heap[b]? = _ from h] at h2
  cases h2
  exact ht rfl

theorem GB.rowT {S : Nat → Prop} {A B : World} (hg : GB S A B) (hS : ∀ q, S q → ∃ cu, A.heap[q]? = some (.cells cu 5 (0, 0))) {base : Nat} {e : TypeId} {size : Nat} {v : Value} {k : Nat} {xs : List Value} (h : A.ownsRow base e size v k xs) (he : e ≠ 5) : B.ownsRow base e size v k xs :=
  hg.rowNe h (fun q hq hs => by
    obtain ⟨c, h1⟩ := row_type h q hq
    obtain ⟨cu, h2⟩ := hS q hs
    rw [h1] at h2
    cases h2
    exact he rfl)

theorem GB.rowSt {S : Nat → Prop} {A B : World} (hg : GB S A B) (hS : ∀ q, S q → ∃ cu, A.heap[q]? = some (.cells cu 5 (0, 0))) {base : Nat} {L P : Value} {xs : List Int} {ps : List Nat} {cs : List Value} (h : RowSt A base L P xs ps cs) (hb : ∀ q, S q → q < base) : RowSt B base L P xs ps cs :=
  ⟨hg.rowT hS h.hl (by decide), h.hm.kept (fun s ys hs => hg.rowNe hs (fun q hq hs' => by have := (OwnB.lt hs q hq).1; have := hb q hs'; omega)), hg.rowT hS h.hp (by decide)⟩

end Go.Proofs.YtgbbgfjamneioaaDoor

namespace Go.Proofs.YtgbbgfjamneioaaDoor
open Go.RowKit

set_option maxRecDepth 100000 in
set_option maxHeartbeats 1000000 in
theorem size_any (n : Int) (w : World) :
    Calls Tryd.prog 73 #[.int .i64 n] w fun e w' => e = .returned (.int .i64 (sizeN n)) ∧ w' = w := by
  by_cases h0 : n < 0
  · have e1 : sizeN n = 0 := by unfold sizeN; rw [if_pos (.inl h0)]
    have E := hide e1
    clear e1
    go_enter Tryd.func73, Tryd.ntmps73
    go_wp2
    go_ret
    rw [unhide E]
    exact ⟨rfl, rfl⟩
  · by_cases h1 : 16777215 < n
    · have e1 : sizeN n = 0 := by unfold sizeN; rw [if_pos (.inr h1)]
      have E := hide e1
      clear e1
      go_enter Tryd.func73, Tryd.ntmps73
      go_wp2
      go_ret
      rw [unhide E]
      exact ⟨rfl, rfl⟩
    · by_cases h2 : n ≤ 127
      · have e1 : sizeN n = 2 := by unfold sizeN; rw [if_neg (by omega), if_pos h2]
        have E := hide e1
        clear e1
        go_enter Tryd.func73, Tryd.ntmps73
        go_wp2
        go_ret
        rw [unhide E]
        exact ⟨rfl, rfl⟩
      · by_cases h3 : n < 256
        · have e1 : sizeN n = 3 := by unfold sizeN; rw [if_neg (by omega), if_neg h2, if_pos h3]
          have E := hide e1
          clear e1
          go_enter Tryd.func73, Tryd.ntmps73
          go_wp2
          go_ret
          rw [unhide E]
          exact ⟨rfl, rfl⟩
        · by_cases h4 : n < 65536
          · have e1 : sizeN n = 4 := by unfold sizeN; rw [if_neg (by omega), if_neg h2, if_neg h3, if_pos h4]
            have E := hide e1
            clear e1
            go_enter Tryd.func73, Tryd.ntmps73
            go_wp2
            go_ret
            rw [unhide E]
            exact ⟨rfl, rfl⟩
          · have e1 : sizeN n = 5 := by unfold sizeN; rw [if_neg (by omega), if_neg h2, if_neg h3, if_neg h4]
            have E := hide e1
            clear e1
            go_enter Tryd.func73, Tryd.ntmps73
            go_wp2
            go_ret
            rw [unhide E]
            exact ⟨rfl, rfl⟩

end Go.Proofs.YtgbbgfjamneioaaDoor
