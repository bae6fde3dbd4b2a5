/-
  DerBack: a list of elements that came in, as the walk is told of it.
-/
import Derived.Test.YtodhlmnjfkbocaaBackM
import Derived.Test.YtodhlmnjfkbocaaAllIt
import Derived.Test.YtodhlmnjfkbocaaTake
import Derived.Test.YtodhlmnjfkbocaaSize
import Derived.Deep.RegionHeld3
import Derived.Deep.DeepCutAuto
namespace Go.Proofs.Ytodhlmnjfkbocaa
open Go.RowKit Go.IntWalk

/-- The slice at 'ao', of n elements, holds these tags and contents. -/
structure Els (w : World) (ao : Option Addr) (n cap : Nat) (es : List (Int × List Int)) : Prop where
  hl : es.length = n
  hcap : n ≤ cap
  hmax : cap ≤ maxLen
  hrd : 0 < n → ∃ b off, ao = some ⟨b, off, none⟩ ∧ ∀ i, i < n → ∃ a m c, w.cell? ⟨b, off + i * 2, none⟩ = some (.int .i64 (es.getD i (0, [])).1) ∧ w.cell? ⟨b, off + i * 2 + 1, none⟩ = some (.slice a m c) ∧ Src w a m c (es.getD i (0, [])).2

theorem Els.below {w w' : World} {ao : Option Addr} {n cap : Nat} {es : List (Int × List Int)} (h : Els w ao n cap es) (hb : Below w.heap.size w w') : Els w' ao n cap es := by
  refine ⟨h.hl, h.hcap, h.hmax, fun hn => ?_⟩
  obtain ⟨b, off, he, hc⟩ := h.hrd hn
  refine ⟨b, off, he, fun i hi => ?_⟩
  obtain ⟨a, m, c, h1, h2, h3⟩ := hc i hi
  have hlt := lt_of_cell h1
  exact ⟨a, m, c, (hb.cell (p := ⟨b, off + i * 2, none⟩) hlt).trans h1, (hb.cell (p := ⟨b, off + i * 2 + 1, none⟩) hlt).trans h2, h3.below hb⟩

theorem Els.byte {w : World} {ao : Option Addr} {n cap : Nat} {es : List (Int × List Int)} (h : Els w ao n cap es) : ∀ e ∈ es, ∀ x ∈ e.2, 0 ≤ x ∧ x < 256 := by
  intro e he
  obtain ⟨i, hi, rfl⟩ := List.getElem_of_mem he
  have hl := h.hl
  obtain ⟨b, off, _, hc⟩ := h.hrd (by omega)
  obtain ⟨a, m, c, _, _, h3⟩ := hc i (by omega)
  have := h3.hbyt
  simpa [List.getD, hi] using this

theorem src_nil (w : World) : Src w none 0 0 [] := ⟨rfl, Nat.le_refl _, by decide, fun _ => ⟨rfl, rfl⟩, fun h => absurd rfl h, by simp⟩

theorem parts1 {w : World} {a : Option Addr} {m c : Nat} {xs : List Int} (h : Src w a m c xs) : Parts (w.alloc (.cells #[.slice a m c] 22)) (some ⟨w.heap.size, 0, none⟩) 1 1 [.slice a m c] [xs] := by
  refine ⟨rfl, rfl, Nat.le_refl _, by decide, fun _ => ⟨w.heap.size, 0, rfl, fun i hi => ?_⟩, fun i hi => ?_⟩
  · obtain rfl : i = 0 := by omega
    simp
  · obtain rfl : i = 0 := by omega
    exact ⟨a, m, c, rfl, h.alloc _⟩

theorem putS_e (bs : List Int) (e : Int × List Int) (ht : isTagB e.1 = true) (hl : e.2.length < 16777216) : putS bs e.1 [e.2] = (bs ++ putB e, 0) := by
  unfold putS
  rw [if_neg (by rw [ht]; simp), if_neg (by simp; omega)]
  simp [putB]

theorem textD {w : World} {ao : Option Addr} {n cap : Nat} {xs : List Int} (h : Src w ao n cap xs) : (convert 22 9 (.slice ao n cap)).run Try.prog w.drew = .ok (.string (strOfNums xs)) w.drew :=
  (show Src w.drew ao n cap xs from h.heap rfl).text

theorem textB {w w' : World} {ao : Option Addr} {n cap : Nat} {xs : List Int} (h : Src w ao n cap xs) (hb : Below w.drew.heap.size w.drew w') : (convert 22 9 (.slice ao n cap)).run Try.prog w' = .ok (.string (strOfNums xs)) w' :=
  ((show Src w.drew ao n cap xs from h.heap rfl).below hb).text

theorem srcB {w w' : World} {ao : Option Addr} {n cap : Nat} {xs : List Int} (h : Src w ao n cap xs) (hb : Below w.drew.heap.size w.drew w') : Src w' ao n cap xs :=
  (show Src w.drew ao n cap xs from h.heap rfl).below hb

theorem boxB {w w' : World} {b : Nat} {t : Int} {v : Value} (h : Box w b t v) (hb : Below w.drew.heap.size w.drew w') : Box w' b t v := (show Box w.drew b t v from h.heap rfl).below hb

end Go.Proofs.Ytodhlmnjfkbocaa
