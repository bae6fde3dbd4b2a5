/-
  Boxes, rows and bytes across the worlds that a walk goes through. Plain facts.
-/
import Derived.Test.YtaeddbkkkiefcaaBts
namespace Go.Proofs.Ytaeddbkkkiefcaa
open Go.RowKit Go.IntWalk

theorem bcell {W w1 : World} (hb : Below W.heap.size W w1) : (∀ b o, b < W.heap.size → w1.cell? ⟨b, o, none⟩ = W.cell? ⟨b, o, none⟩) ∧ (∀ b o, b < W.heap.size → w1.frozen? ⟨b, o, none⟩ = W.frozen? ⟨b, o, none⟩) :=
  ⟨fun b o h => hb.cell (p := ⟨b, o, none⟩) h, fun b o h => hb.frozen (p := ⟨b, o, none⟩) h⟩

theorem OwnB.toSrc {w : World} {base m c : Nat} {ao : Option Addr} {xs : List Int} (h : OwnB w base (.slice ao m c) xs) (hb : ∀ x ∈ xs, 0 ≤ x ∧ x < 256) : Src w ao m c xs := by
  rcases h.split with ⟨he, hx⟩ | ⟨g, cap, he, h1, h2, h3, h4⟩
  · simp at he
    obtain ⟨rfl, rfl, rfl⟩ := he
    subst hx
    exact ⟨rfl, Nat.le_refl _, by decide, fun _ => ⟨rfl, rfl⟩, fun h => absurd rfl h, by simp⟩
  · simp at he
    obtain ⟨rfl, rfl, rfl⟩ := he
    exact h.src hb _ (Nat.le_refl _) (by simp) h4

/-- A box of two cells: a number and a value; neither is frozen. -/
structure Box (w : World) (b : Nat) (t : Int) (v : Value) : Prop where
  c0 : w.cell? ⟨b, 0, none⟩ = some (.int .i64 t)
  c1 : w.cell? ⟨b, 1, none⟩ = some v
  lt : b < w.heap.size
  fz : ∀ o, w.frozen? ⟨b, o, none⟩ = false

theorem Box.newAt (w : World) (b : Nat) (t : Int) (v : Value) (T : TypeId) (h : b = w.heap.size) : Box (w.alloc (.cells #[.int .i64 t, v] T)) b t v := by
  subst h
  exact ⟨by simp, by simp, by simp, by simp⟩
theorem Box.new (w : World) (t : Int) (v : Value) (T : TypeId) : Box (w.alloc (.cells #[.int .i64 t, v] T)) w.heap.size t v := Box.newAt w _ t v T rfl
theorem Box.below {w w' : World} {b : Nat} {t : Int} {v : Value} (h : Box w b t v) (hb : Below w.heap.size w w') : Box w' b t v :=
  ⟨(hb.cell (p := ⟨b, 0, none⟩) h.lt).trans h.c0, (hb.cell (p := ⟨b, 1, none⟩) h.lt).trans h.c1, Nat.lt_of_lt_of_le h.lt hb.size, fun o => (hb.frozen (p := ⟨b, o, none⟩) h.lt).trans (h.fz o)⟩
theorem Box.heap {w w' : World} {b : Nat} {t : Int} {v : Value} (h : Box w b t v) (e : w'.heap = w.heap) : Box w' b t v := by
  obtain ⟨h1, h2, h3, h4⟩ := h
  exact ⟨by unfold World.cell? at *; rw [e]; exact h1, by unfold World.cell? at *; rw [e]; exact h2, by rw [e]; exact h3, fun o => by have := h4 o; unfold World.frozen? at *; rw [e]; exact this⟩
theorem Box.belowH {w W w' : World} {b : Nat} {t : Int} {v : Value} (h : Box w b t v) (hb : Below W.heap.size W w') (e : W.heap = w.heap) : Box w' b t v := (h.heap e).below hb
theorem Box.alloc {w : World} {b : Nat} {t : Int} {v : Value} (h : Box w b t v) (o : Obj) : Box (w.alloc o) b t v := h.below ((Below.refl _ _).alloc (Nat.le_refl _) _)
theorem Box.grown {w w' : World} {b : Nat} {t : Int} {v : Value} {row : Option Nat} (h : Box w b t v) (hg : w.grownBy w' row) (hne : some b ≠ row) : Box w' b t v :=
  ⟨hg.cell h.c0 hne, hg.cell h.c1 hne, Nat.lt_of_lt_of_le h.lt hg.size, fun o => (World.frozen?_of_block (hg.block b h.lt hne)).trans (h.fz o)⟩

theorem OwnB.lt {w : World} {base : Nat} {v : Value} {xs : List Int} (h : OwnB w base v xs) : ∀ k, v.ownBlock = some k → base ≤ k ∧ k < w.heap.size := World.ownsRow.lt h

theorem OwnB.belowA {w w' : World} {base : Nat} {v : Value} {xs : List Int} (h : OwnB w base v xs) (hb : Below w.heap.size w w') : OwnB w' base v xs :=
  h.below hb (fun k hk => (h.lt k hk).2)

/-- Bytes that lie at or above a block number, or below it, are apart from a row that lies elsewhere. -/
theorem Src.apart {w w' : World} {ao : Option Addr} {n cap : Nat} {xs : List Int} {v : Value} (h : Src w ao n cap xs) (hg : w.grownBy w' v.ownBlock)
    (hne : ∀ b off, ao = some ⟨b, off, none⟩ → xs ≠ [] → v.ownBlock ≠ some b) : Src w' ao n cap xs :=
  h.grown hg fun b off he hx h' => hne b off he hx h'.symm

theorem own_apart {w u : World} {base base' n m c c' : Nat} {a a' : Option Addr} {xs ys : List Int} (h : OwnB w base (.slice a n c) xs) (h' : OwnB u base' (.slice a' m c') ys) (hlt : w.heap.size ≤ base') :
    ∀ b off, a' = some ⟨b, off, none⟩ → ys ≠ [] → (Value.slice a n c).ownBlock ≠ some b := by
  intro b off he _ hk
  subst he
  have h1 := (h.lt b hk).2
  have h2 := (h'.lt b rfl).1
  omega

theorem OwnB.ne_row {w : World} {base : Nat} {v : Value} {xs : List Int} (h : OwnB w base v xs) {b : Nat} (hb : b < base ∨ w.heap.size ≤ b) : some b ≠ v.ownBlock := by
  intro he
  have := h.lt b he.symm
  omega

theorem Src.blk {w : World} {ao : Option Addr} {n cap : Nat} {xs : List Int} (h : Src w ao n cap xs) : ∀ b off, ao = some ⟨b, off, none⟩ → xs ≠ [] → b < w.heap.size := by
  intro b off he hx
  obtain ⟨b', off', he', hc⟩ := h.hrd hx
  rw [he] at he'
  simp at he'
  obtain ⟨rfl, rfl⟩ := he'
  exact lt_of_cell (hc 0 (by cases xs with | nil => exact absurd rfl hx | cons a r => simp))

theorem Src.belowH {w W w' : World} {ao : Option Addr} {n cap : Nat} {xs : List Int} (h : Src w ao n cap xs) (hb : Below W.heap.size W w') (e : W.heap = w.heap) : Src w' ao n cap xs := (h.heap e).below hb

theorem step_below {B : Nat} {w a w' : World} (h : Below B w a) (hB : B ≤ a.heap.size) (o : Obj) (hb : Below (a.alloc o).heap.size (a.alloc o) w') : Below B w w' :=
  (h.alloc hB o).trans (hb.mono (by simp; omega))

/-- A world that has drawn more, and no more. -/
structure Drawn (w W : World) : Prop where
  os : W.os = w.os
  tape : W.tape = w.tape
  output : W.output = w.output
  heap : W.heap = w.heap

theorem Drawn.refl (w : World) : Drawn w w := ⟨rfl, rfl, rfl, rfl⟩
theorem Drawn.more {w W : World} (h : Drawn w W) (q : Nat) : Drawn w (W.drewN q) := ⟨h.os, h.tape, h.output, h.heap⟩
theorem Drawn.cell {w W : World} (h : Drawn w W) (a : Addr) : W.cell? a = w.cell? a := by unfold World.cell?; rw [h.heap]
theorem Drawn.below {w W w0 : World} {B : Nat} (h : Drawn w W) (hb : Below B w0 w) : Below B w0 W := ⟨h.os.trans hb.os, h.tape.trans hb.tape, h.output.trans hb.output, by rw [h.heap]; exact hb.size, fun k hk => by rw [h.heap]; exact hb.block k hk⟩

end Go.Proofs.Ytaeddbkkkiefcaa
