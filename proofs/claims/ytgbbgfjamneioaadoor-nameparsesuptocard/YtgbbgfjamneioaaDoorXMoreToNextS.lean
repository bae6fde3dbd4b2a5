/-
  Boxes, rows and bytes across the worlds that a walk goes through. Plain facts.
  Rows of numbers across the worlds that a walk goes through. Plain facts.
  The number with which a content begins (nextS): how great it is and how many bytes it has, or what is wrong with it first. No program.
-/
import Derived.Test.YtgbbgfjamneioaaDoorXBaseToBts
import Derived.Test.YtgbbgfjamneioaaDoorXIts
namespace Go.Proofs.YtgbbgfjamneioaaDoor
open Go.RowKit Go.IntWalk

theorem bcell {W w1 : World} (hb : Below W.heap.size W w1) : (∀ b o, b < W.heap.size → w1.cell? ⟨b, o, none⟩ = W.cell? ⟨b, o, none⟩) ∧ (∀ b o, b < W.heap.size → w1.frozen? ⟨b, o, none⟩ = W.frozen? ⟨b, o, none⟩) :=
  ⟨fun b o h => hb.cell (p := ⟨b, o, none⟩) h, fun b o h => hb.frozen (p := ⟨b, o, none⟩) h⟩

theorem OwnB.toSrc {w : World} {base m c : Nat} {ao : Option Addr} {xs : List Int} (h : OwnB w base (.slice ao m c) xs) (hb : ∀ x ∈ xs, 0 ≤ x ∧ x < 256) : Src w ao m c xs := by
  rcases h.split with ⟨he, hx⟩ | ⟨g, cap, he, h1, h2, h3, h4⟩
  · simp at he
    obtain ⟨rfl, rfl, rfl⟩ := he
    subst hx
    exact ⟨rfl, Nat.le_refl _, by decide, fun _ => ⟨rfl, rfl⟩, fun h => absurd rfl h, by simp⟩
  · simp at he
    obtain ⟨rfl, rfl, rfl⟩ := he
    exact h.src hb _ (Nat.le_refl _) (by simp) h4

/-- A box of two cells: a number and a value; neither is frozen. -/
structure Box (w : World) (b : Nat) (t : Int) (v : Value) : Prop where
  c0 : w.cell? ⟨b, 0, none⟩ = some (.int .i64 t)
  c1 : w.cell? ⟨b, 1, none⟩ = some v
  lt : b < w.heap.size
  fz : ∀ o, w.frozen? ⟨b, o, none⟩ = false

theorem Box.newAt (w : World) (b : Nat) (t : Int) (v : Value) (T : TypeId) (h : b = w.heap.size) : Box (w.alloc (.cells #[.int .i64 t, v] T)) b t v := by
  subst h
  exact ⟨by simp, by simp, by simp, by simp⟩
theorem Box.new (w : World) (t : Int) (v : Value) (T : TypeId) : Box (w.alloc (.cells #[.int .i64 t, v] T)) w.heap.size t v := Box.newAt w _ t v T rfl
theorem Box.below {w w' : World} {b : Nat} {t : Int} {v : Value} (h : Box w b t v) (hb : Below w.heap.size w w') : Box w' b t v :=
  ⟨(hb.cell (p := ⟨b, 0, none⟩) h.lt).trans h.c0, (hb.cell (p := ⟨b, 1, none⟩) h.lt).trans h.c1, Nat.lt_of_lt_of_le h.lt hb.size, fun o => (hb.frozen (p := ⟨b, o, none⟩) h.lt).trans (h.fz o)⟩
theorem Box.heap {w w' : World} {b : Nat} {t : Int} {v : Value} (h : Box w b t v) (e : w'.heap = w.heap) : Box w' b t v := by
  obtain ⟨h1, h2, h3, h4⟩ := h
  exact ⟨by unfold World.cell? at *; rw [e]; exact h1, by unfold World.cell? at *; rw [e]; exact h2, by rw [e]; exact h3, fun o => by have := h4 o; unfold World.frozen? at *; rw [e]; exact this⟩
theorem Box.belowH {w W w' : World} {b : Nat} {t : Int} {v : Value} (h : Box w b t v) (hb : Below W.heap.size W w') (e : W.heap = w.heap) : Box w' b t v := (h.heap e).below hb
theorem Box.alloc {w : World} {b : Nat} {t : Int} {v : Value} (h : Box w b t v) (o : Obj) : Box (w.alloc o) b t v := h.below ((Below.refl _ _).alloc (Nat.le_refl _) _)
theorem Box.grown {w w' : World} {b : Nat} {t : Int} {v : Value} {row : Option Nat} (h : Box w b t v) (hg : w.grownBy w' row) (hne : some b ≠ row) : Box w' b t v :=
  ⟨hg.cell h.c0 hne, hg.cell h.c1 hne, Nat.lt_of_lt_of_le h.lt hg.size, fun o => (World.frozen?_of_block (hg.block b h.lt hne)).trans (h.fz o)⟩

theorem OwnB.lt {w : World} {base : Nat} {v : Value} {xs : List Int} (h : OwnB w base v xs) : ∀ k, v.ownBlock = some k → base ≤ k ∧ k < w.heap.size := World.ownsRow.lt h

theorem OwnB.belowA {w w' : World} {base : Nat} {v : Value} {xs : List Int} (h : OwnB w base v xs) (hb : Below w.heap.size w w') : OwnB w' base v xs :=
  h.below hb (fun k hk => (h.lt k hk).2)

/-- Bytes that lie at or above a block number, or below it, are apart from a row that lies elsewhere. -/
theorem Src.apart {w w' : World} {ao : Option Addr} {n cap : Nat} {xs : List Int} {v : Value} (h : Src w ao n cap xs) (hg : w.grownBy w' v.ownBlock)
    (hne : ∀ b off, ao = some ⟨b, off, none⟩ → xs ≠ [] → v.ownBlock ≠ some b) : Src w' ao n cap xs :=
  h.grown hg fun b off he hx h' => hne b off he hx h'.symm

theorem own_apart {w u : World} {base base' n m c c' : Nat} {a a' : Option Addr} {xs ys : List Int} (h : OwnB w base (.slice a n c) xs) (h' : OwnB u base' (.slice a' m c') ys) (hlt : w.heap.size ≤ base') :
    ∀ b off, a' = some ⟨b, off, none⟩ → ys ≠ [] → (Value.slice a n c).ownBlock ≠ some b := by
  intro b off he _ hk
  subst he
  have h1 := (h.lt b hk).2
  have h2 := (h'.lt b rfl).1
  omega

theorem OwnB.ne_row {w : World} {base : Nat} {v : Value} {xs : List Int} (h : OwnB w base v xs) {b : Nat} (hb : b < base ∨ w.heap.size ≤ b) : some b ≠ v.ownBlock := by
  intro he
  have := h.lt b he.symm
  omega

theorem Src.blk {w : World} {ao : Option Addr} {n cap : Nat} {xs : List Int} (h : Src w ao n cap xs) : ∀ b off, ao = some ⟨b, off, none⟩ → xs ≠ [] → b < w.heap.size := by
  intro b off he hx
  obtain ⟨b', off', he', hc⟩ := h.hrd hx
  rw [he] at he'
  simp at he'
  obtain ⟨rfl, rfl⟩ := he'
  exact lt_of_cell (hc 0 (by cases xs with | nil => exact absurd rfl hx | cons a r => simp))

theorem Src.belowH {w W w' : World} {ao : Option Addr} {n cap : Nat} {xs : List Int} (h : Src w ao n cap xs) (hb : Below W.heap.size W w') (e : W.heap = w.heap) : Src w' ao n cap xs := (h.heap e).below hb

theorem step_below {B : Nat} {w a w' : World} (h : Below B w a) (hB : B ≤ a.heap.size) (o : Obj) (hb : Below (a.alloc o).heap.size (a.alloc o) w') : Below B w w' :=
  (h.alloc hB o).trans (hb.mono (by simp; omega))

/-- A world that has drawn more, and no more. -/
structure Drawn (w W : World) : Prop where
  os : W.os = w.os
  tape : W.tape = w.tape
  output : W.output = w.output
  heap : W.heap = w.heap

theorem Drawn.refl (w : World) : Drawn w w := ⟨rfl, rfl, rfl, rfl⟩
theorem Drawn.more {w W : World} (h : Drawn w W) (q : Nat) : Drawn w (W.drewN q) := ⟨h.os, h.tape, h.output, h.heap⟩
theorem Drawn.cell {w W : World} (h : Drawn w W) (a : Addr) : W.cell? a = w.cell? a := by unfold World.cell?; rw [h.heap]
theorem Drawn.below {w W w0 : World} {B : Nat} (h : Drawn w W) (hb : Below B w0 w) : Below B w0 W := ⟨h.os.trans hb.os, h.tape.trans hb.tape, h.output.trans hb.output, by rw [h.heap]; exact hb.size, fun k hk => by rw [h.heap]; exact hb.block k hk⟩

end Go.Proofs.YtgbbgfjamneioaaDoor

namespace Go.Proofs.YtgbbgfjamneioaaDoor
open Go.RowKit Go.IntWalk

theorem OwnI.toSrc {w : World} {base m c : Nat} {ao : Option Addr} {xs : List Int} (h : OwnI w base (.slice ao m c) xs) (hb : ∀ x ∈ xs, -9223372036854775808 ≤ x ∧ x < 9223372036854775808) : SrcI w ao m c xs := by
  rcases h.split with ⟨he, hx⟩ | ⟨g, cap, he, h1, h2, h3, h4⟩
  · simp at he
    obtain ⟨rfl, rfl, rfl⟩ := he
    subst hx
    exact ⟨rfl, Nat.le_refl _, by decide, fun _ => ⟨rfl, rfl⟩, fun h => absurd rfl h, by simp⟩
  · simp at he
    obtain ⟨rfl, rfl, rfl⟩ := he
    exact h.src hb _ (Nat.le_refl _) (by simp) h4

theorem OwnI.lt {w : World} {base : Nat} {v : Value} {xs : List Int} (h : OwnI w base v xs) : ∀ k, v.ownBlock = some k → base ≤ k ∧ k < w.heap.size := World.ownsRow.lt h

theorem OwnI.belowA {w w' : World} {base : Nat} {v : Value} {xs : List Int} (h : OwnI w base v xs) (hb : Below w.heap.size w w') : OwnI w' base v xs :=
  h.below hb (fun k hk => (h.lt k hk).2)

/-- Bytes that lie at or above a block number, or below it, are apart from a row that lies elsewhere. -/
theorem SrcI.apart {w w' : World} {ao : Option Addr} {n cap : Nat} {xs : List Int} {v : Value} (h : SrcI w ao n cap xs) (hg : w.grownBy w' v.ownBlock)
    (hne : ∀ b off, ao = some ⟨b, off, none⟩ → xs ≠ [] → v.ownBlock ≠ some b) : SrcI w' ao n cap xs :=
  h.grown hg fun b off he hx h' => hne b off he hx h'.symm

theorem ownI_apart {w u : World} {base base' n m c c' : Nat} {a a' : Option Addr} {xs ys : List Int} (h : OwnI w base (.slice a n c) xs) (h' : OwnI u base' (.slice a' m c') ys) (hlt : w.heap.size ≤ base') :
    ∀ b off, a' = some ⟨b, off, none⟩ → ys ≠ [] → (Value.slice a n c).ownBlock ≠ some b := by
  intro b off he _ hk
  subst he
  have h1 := (h.lt b hk).2
  have h2 := (h'.lt b rfl).1
  omega

theorem OwnI.ne_row {w : World} {base : Nat} {v : Value} {xs : List Int} (h : OwnI w base v xs) {b : Nat} (hb : b < base ∨ w.heap.size ≤ b) : some b ≠ v.ownBlock := by
  intro he
  have := h.lt b he.symm
  omega

theorem SrcI.blk {w : World} {ao : Option Addr} {n cap : Nat} {xs : List Int} (h : SrcI w ao n cap xs) : ∀ b off, ao = some ⟨b, off, none⟩ → xs ≠ [] → b < w.heap.size := by
  intro b off he hx
  obtain ⟨b', off', he', hc⟩ := h.hrd hx
  rw [he] at he'
  simp at he'
  obtain ⟨rfl, rfl⟩ := he'
  exact lt_of_cell (hc 0 (by cases xs with | nil => exact absurd rfl hx | cons a r => simp))

theorem SrcI.belowH {w W w' : World} {ao : Option Addr} {n cap : Nat} {xs : List Int} (h : SrcI w ao n cap xs) (hb : Below W.heap.size W w') (e : W.heap = w.heap) : SrcI w' ao n cap xs := (h.heap e).below hb

theorem SrcI.at {w : World} {ao : Option Addr} {n cap : Nat} {xs : List Int} (h : SrcI w ao n cap xs) (k : Nat) (hk : k < n) : ∃ b off, ao = some ⟨b, off, none⟩ ∧ w.cell? ⟨b, off + k, none⟩ = some (.int .i64 (xs.getD k 0)) := by
  have hl := h.hlen
  obtain ⟨b, off, he, hc⟩ := h.hrd (by intro h; subst h; simp at hl; omega)
  exact ⟨b, off, he, hc k (by omega)⟩

theorem Drawn.src {w W : World} (h : Drawn w W) {ao : Option Addr} {n cap : Nat} {xs : List Int} (hs : SrcI w ao n cap xs) : SrcI W ao n cap xs := hs.heap h.heap

theorem Drawn.trans {w W V : World} (h : Drawn w W) (k : Drawn W V) : Drawn w V := ⟨k.os.trans h.os, k.tape.trans h.tape, k.output.trans h.output, k.heap.trans h.heap⟩

theorem Drawn.toBelow {w W : World} (h : Drawn w W) (B : Nat) : Below B w W := h.below (Below.refl _ _)

theorem SrcI.lenI {w : World} {ao : Option Addr} {n cap : Nat} {xs : List Int} (h : SrcI w ao n cap xs) : (n : Int) ≤ 9223372036854775807 ∧ (cap : Int) ≤ 9223372036854775807 := by
  have h1 := h.hcap
  have h2 := h.hmax
  unfold maxLen at h2
  omega

end Go.Proofs.YtgbbgfjamneioaaDoor

namespace Go.Proofs.YtgbbgfjamneioaaDoor
open Go.RowKit Go.IntWalk

/-- Behind k bytes that make n: the number, how many bytes it has, and what is wrong (0: nothing). -/
def nextGo (n : Int) (k : Nat) : List Int → Int × Nat × Int
  | [] => (0, 0, 10)
  | x :: l => if 2147483647 < 128 * n + x % 128 then (0, 0, 31) else if x < 128 then (128 * n + x % 128, k + 1, 0) else nextGo (128 * n + x % 128) (k + 1) l

def nextS (l : List Int) : Int × Nat × Int := if l.head? = some 128 then (0, 0, 30) else nextGo 0 0 l

theorem nextGo_nil (n : Int) (k : Nat) : nextGo n k [] = (0, 0, 10) := rfl

theorem drop_at (xs : List Int) (p : Nat) (h : p < xs.length) : xs.drop p = xs.getD p 0 :: xs.drop (p + 1) := by
  rw [List.drop_eq_getElem_cons h]
  simp [List.getD, List.getElem?_eq_getElem h]

theorem nextGo_great (xs : List Int) (p : Nat) (n : Int) (k : Nat) (h : p < xs.length) (hg : 2147483647 < 128 * n + xs.getD p 0 % 128) : nextGo n k (xs.drop p) = (0, 0, 31) := by
  rw [drop_at xs p h, nextGo, if_pos hg]

theorem nextGo_last (xs : List Int) (p : Nat) (n : Int) (k : Nat) (h : p < xs.length) (hg : ¬ 2147483647 < 128 * n + xs.getD p 0 % 128) (hx : xs.getD p 0 < 128) : nextGo n k (xs.drop p) = (128 * n + xs.getD p 0 % 128, k + 1, 0) := by
  rw [drop_at xs p h, nextGo, if_neg hg, if_pos hx]

theorem nextGo_more (xs : List Int) (p : Nat) (n : Int) (k : Nat) (h : p < xs.length) (hg : ¬ 2147483647 < 128 * n + xs.getD p 0 % 128) (hx : ¬ xs.getD p 0 < 128) : nextGo n k (xs.drop p) = nextGo (128 * n + xs.getD p 0 % 128) (k + 1) (xs.drop (p + 1)) := by
  rw [drop_at xs p h, nextGo, if_neg hg, if_neg hx]

theorem nextS_pad (xs : List Int) (p : Nat) (h : p < xs.length) (hx : xs.getD p 0 = 128) : nextS (xs.drop p) = (0, 0, 30) := by
  unfold nextS
  rw [drop_at xs p h, List.head?_cons, if_pos (by rw [hx])]

theorem nextS_go (xs : List Int) (p : Nat) (h : p < xs.length) (hx : xs.getD p 0 ≠ 128) : nextS (xs.drop p) = nextGo 0 0 (xs.drop p) := by
  unfold nextS
  rw [drop_at xs p h, List.head?_cons, if_neg (by simpa using hx)]

theorem nextS_end (xs : List Int) (p : Nat) (h : ¬ p < xs.length) : nextS (xs.drop p) = (0, 0, 10) := by
  rw [List.drop_of_length_le (by omega)]
  rfl

/-- What is handed out is a number in range, of at least one byte, within the content. -/
theorem nextGo_in : ∀ (l : List Int) (n : Int) (k : Nat), 0 ≤ n → (nextGo n k l).2.2 = 0 → 0 ≤ (nextGo n k l).1 ∧ (nextGo n k l).1 ≤ 2147483647 ∧ k < (nextGo n k l).2.1 ∧ (nextGo n k l).2.1 ≤ k + l.length
  | [], n, k, _, h => by simp [nextGo] at h
  | x :: l, n, k, h0, h => by
    rw [nextGo] at h ⊢
    split at h
    · simp at h
    · rename_i hg
      rw [if_neg hg]
      split at h
      · rename_i hx
        rw [if_pos hx]
        simp only [List.length_cons]
        omega
      · rename_i hx
        rw [if_neg hx]
        have := nextGo_in l (128 * n + x % 128) (k + 1) (by omega) h
        simp only [List.length_cons]
        omega

theorem nextS_in (l : List Int) (h : (nextS l).2.2 = 0) : 0 ≤ (nextS l).1 ∧ (nextS l).1 ≤ 2147483647 ∧ 0 < (nextS l).2.1 ∧ (nextS l).2.1 ≤ l.length := by
  unfold nextS at h ⊢
  split at h
  · simp at h
  · rename_i hp
    rw [if_neg hp]
    have := nextGo_in l 0 0 (by omega) h
    omega

end Go.Proofs.YtgbbgfjamneioaaDoor
