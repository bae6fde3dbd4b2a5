/-
  Rows of numbers across the worlds that a walk goes through. Plain facts.
-/
import Derived.Test.YtilkbjohekhjcaaDoorIts
import Derived.Test.YtilkbjohekhjcaaDoorMore
namespace Go.Proofs.YtilkbjohekhjcaaDoor
open Go.RowKit Go.IntWalk

theorem OwnI.toSrc {w : World} {base m c : Nat} {ao : Option Addr} {xs : List Int} (h : OwnI w base (.slice ao m c) xs) (hb : ∀ x ∈ xs, -9223372036854775808 ≤ x ∧ x < 9223372036854775808) : SrcI w ao m c xs := by
  rcases h.split with ⟨he, hx⟩ | ⟨g, cap, he, h1, h2, h3, h4⟩
  · simp at he
    obtain ⟨rfl, rfl, rfl⟩ := he
    subst hx
    exact ⟨rfl, Nat.le_refl _, by decide, fun _ => ⟨rfl, rfl⟩, fun h => absurd rfl h, by simp⟩
  · simp at he
    obtain ⟨rfl, rfl, rfl⟩ := he
    exact h.src hb _ (Nat.le_refl _) (by simp) h4

theorem OwnI.lt {w : World} {base : Nat} {v : Value} {xs : List Int} (h : OwnI w base v xs) : ∀ k, v.ownBlock = some k → base ≤ k ∧ k < w.heap.size := World.ownsRow.lt h

theorem OwnI.belowA {w w' : World} {base : Nat} {v : Value} {xs : List Int} (h : OwnI w base v xs) (hb : Below w.heap.size w w') : OwnI w' base v xs :=
  h.below hb (fun k hk => (h.lt k hk).2)

/-- Bytes that lie at or above a block number, or below it, are apart from a row that lies elsewhere. -/
theorem SrcI.apart {w w' : World} {ao : Option Addr} {n cap : Nat} {xs : List Int} {v : Value} (h : SrcI w ao n cap xs) (hg : w.grownBy w' v.ownBlock)
    (hne : ∀ b off, ao = some ⟨b, off, none⟩ → xs ≠ [] → v.ownBlock ≠ some b) : SrcI w' ao n cap xs :=
  h.grown hg fun b off he hx h' => hne b off he hx h'.symm

theorem ownI_apart {w u : World} {base base' n m c c' : Nat} {a a' : Option Addr} {xs ys : List Int} (h : OwnI w base (.slice a n c) xs) (h' : OwnI u base' (.slice a' m c') ys) (hlt : w.heap.size ≤ base') :
    ∀ b off, a' = some ⟨b, off, none⟩ → ys ≠ [] → (Value.slice a n c).ownBlock ≠ some b := by
  intro b off he _ hk
  subst he
  have h1 := (h.lt b hk).2
  have h2 := (h'.lt b rfl).1
  omega

theorem OwnI.ne_row {w : World} {base : Nat} {v : Value} {xs : List Int} (h : OwnI w base v xs) {b : Nat} (hb : b < base ∨ w.heap.size ≤ b) : some b ≠ v.ownBlock := by
  intro he
  have := h.lt b he.symm
  omega

theorem SrcI.blk {w : World} {ao : Option Addr} {n cap : Nat} {xs : List Int} (h : SrcI w ao n cap xs) : ∀ b off, ao = some ⟨b, off, none⟩ → xs ≠ [] → b < w.heap.size := by
  intro b off he hx
  obtain ⟨b', off', he', hc⟩ := h.hrd hx
  rw [he] at he'
  simp at he'
  obtain ⟨rfl, rfl⟩ := he'
  exact lt_of_cell (hc 0 (by cases xs with | nil => exact absurd rfl hx | cons a r => simp))

theorem SrcI.belowH {w W w' : World} {ao : Option Addr} {n cap : Nat} {xs : List Int} (h : SrcI w ao n cap xs) (hb : Below W.heap.size W w') (e : W.heap = w.heap) : SrcI w' ao n cap xs := (h.heap e).below hb

theorem SrcI.at {w : World} {ao : Option Addr} {n cap : Nat} {xs : List Int} (h : SrcI w ao n cap xs) (k : Nat) (hk : k < n) : ∃ b off, ao = some ⟨b, off, none⟩ ∧ w.cell? ⟨b, off + k, none⟩ = some (.int .i64 (xs.getD k 0)) := by
  have hl := h.hlen
  obtain ⟨b, off, he, hc⟩ := h.hrd (by intro h; subst h; simp at hl; omega)
  exact ⟨b, off, he, hc k (by omega)⟩

theorem Drawn.src {w W : World} (h : Drawn w W) {ao : Option Addr} {n cap : Nat} {xs : List Int} (hs : SrcI w ao n cap xs) : SrcI W ao n cap xs := hs.heap h.heap

theorem Drawn.trans {w W V : World} (h : Drawn w W) (k : Drawn W V) : Drawn w V := ⟨k.os.trans h.os, k.tape.trans h.tape, k.output.trans h.output, k.heap.trans h.heap⟩

theorem Drawn.toBelow {w W : World} (h : Drawn w W) (B : Nat) : Below B w W := h.below (Below.refl _ _)

theorem SrcI.lenI {w : World} {ao : Option Addr} {n cap : Nat} {xs : List Int} (h : SrcI w ao n cap xs) : (n : Int) ≤ 9223372036854775807 ∧ (cap : Int) ≤ 9223372036854775807 := by
  have h1 := h.hcap
  have h2 := h.hmax
  unfold maxLen at h2
  omega

end Go.Proofs.YtilkbjohekhjcaaDoor
