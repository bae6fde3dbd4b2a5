/-
  A time in the calendar as a box of six cells; small facts on worlds that have drawn.
-/
import Derived.Test.YtnpimjfdidbdfabDoorCBase
import Derived.Deep.Draws
namespace Go.Proofs.YtnpimjfdidbdfabDoor
open Go.RowKit

theorem setCell_dN (w : World) (n : Nat) (a : Addr) (v : Value) : (w.drewN n).setCell a v = (w.setCell a v).drewN n := rfl
theorem alloc_dN (w : World) (n : Nat) (o : Obj) : (w.drewN n).alloc o = (w.alloc o).drewN n := rfl
theorem belowN {B : Nat} {a w : World} (h : Below B a w) (n : Nat) : Below B a (w.drewN n) := h.trans ⟨rfl, rfl, rfl, Nat.le_refl _, fun _ _ => rfl⟩

theorem bcell {W w1 : World} (hb : Below W.heap.size W w1) : (∀ b o, b < W.heap.size → w1.cell? ⟨b, o, none⟩ = W.cell? ⟨b, o, none⟩) ∧ (∀ b o, b < W.heap.size → w1.frozen? ⟨b, o, none⟩ = W.frozen? ⟨b, o, none⟩) :=
  ⟨fun b o h => hb.cell (p := ⟨b, o, none⟩) h, fun b o h => hb.frozen (p := ⟨b, o, none⟩) h⟩

theorem Tab.belowH {W W1 W' : World} (h : Tab W) (hb : Below W1.heap.size W1 W') (he : W1.heap = W.heap) : Tab W' := (h.heap he).below hb

def agg6 (a b c d e f : Int) : Value := .agg #[.int .i64 a, .int .i64 b, .int .i64 c, .int .i64 d, .int .i64 e, .int .i64 f]

/-- A time in the calendar, in its bounds. -/
structure Okc (y m q h i s : Int) : Prop where
  y1 : 1950 ≤ y
  y2 : y ≤ 9999
  m1 : 1 ≤ m
  m2 : m ≤ 12
  q1 : 1 ≤ q
  q2 : q ≤ dim y m
  h1 : 0 ≤ h
  h2 : h < 24
  i1 : 0 ≤ i
  i2 : i < 60
  s1 : 0 ≤ s
  s2 : s < 60

theorem i64_in7 (x : Int) (h : -1000000000000 ≤ x ∧ x ≤ 1000000000000) : IntKind.i64.wrap x = x := by
  unfold IntKind.wrap
  simp [IntKind.signed, IntKind.bits]
  omega

def Six (W : World) (g : Nat) (a b c d e f : Int) : Prop :=
  W.cell? ⟨g, 0, none⟩ = some (.int .i64 a) ∧ W.cell? ⟨g, 1, none⟩ = some (.int .i64 b) ∧ W.cell? ⟨g, 2, none⟩ = some (.int .i64 c) ∧ W.cell? ⟨g, 3, none⟩ = some (.int .i64 d) ∧ W.cell? ⟨g, 4, none⟩ = some (.int .i64 e) ∧ W.cell? ⟨g, 5, none⟩ = some (.int .i64 f)

theorem Six.new (w : World) (T : TypeId) (a b c d e f : Int) {g : Nat} (hg : g = w.heap.size) : Six (w.alloc (.cells #[.int .i64 a, .int .i64 b, .int .i64 c, .int .i64 d, .int .i64 e, .int .i64 f] T)) g a b c d e f := by
  subst hg
  unfold Six
  simp [World.cell?_alloc_new]

theorem Six.below {W W' : World} {B g : Nat} {a b c d e f : Int} (h : Six W g a b c d e f) (hb : Below B W W') (hg : g < B) : Six W' g a b c d e f := by
  obtain ⟨h0, h1, h2, h3, h4, h5⟩ := h
  exact ⟨(hb.cell (p := ⟨g, 0, none⟩) hg).trans h0, (hb.cell (p := ⟨g, 1, none⟩) hg).trans h1, (hb.cell (p := ⟨g, 2, none⟩) hg).trans h2, (hb.cell (p := ⟨g, 3, none⟩) hg).trans h3, (hb.cell (p := ⟨g, 4, none⟩) hg).trans h4, (hb.cell (p := ⟨g, 5, none⟩) hg).trans h5⟩

theorem Six.belowH {W W1 W' : World} {g : Nat} {a b c d e f : Int} (h : Six W g a b c d e f) (hb : Below W1.heap.size W1 W') (he : W1.heap = W.heap) (hg : g < W.heap.size) : Six W' g a b c d e f := by
  have h1 : Six W1 g a b c d e f := by
    unfold Six World.cell? at h ⊢
    rw [he]
    exact h
  exact h1.below hb (by rw [he]; exact hg)

end Go.Proofs.YtnpimjfdidbdfabDoor
