/-
  The document's Next: the number at a place of a content, the place behind it, or what is wrong with it (nextS).
-/
import Derived.Test.YtfcjahdkpjbggaaDoorNextS
import Derived.Deep.QuietTactic
import Derived.BigQuiet
namespace Go.Proofs.YtfcjahdkpjbggaaDoor
open Go.RowKit Go.IntWalk

theorem Src.spotB {w : World} {ao : Option Addr} {n cap : Nat} {xs : List Int} (h : Src w ao n cap xs) (k : Nat) (hk : k < n) : ∃ b off, ao = some ⟨b, off, none⟩ ∧ w.cell? ⟨b, off + k, none⟩ = some (.int .u8 (xs.getD k 0)) ∧ 0 ≤ xs.getD k 0 ∧ xs.getD k 0 < 256 := by
  have hl : k < xs.length := by rw [h.hlen]; exact hk
  obtain ⟨b, off, he, hc⟩ := h.hrd (by intro h0; rw [h0] at hl; simp at hl)
  refine ⟨b, off, he, hc k hl, ?_⟩
  have := h.hbyt (xs.getD k 0) (by simp [List.getD, List.getElem?_eq_getElem hl])
  exact this

/-- What Next answers at the place p. -/
def nextV (p : Nat) (r : Int × Nat × Int) : Value := .tuple #[.int .i64 r.1, .int .i64 (if r.2.2 = 0 then (p : Int) + (r.2.1 : Int) else 0), .int .i64 r.2.2]


end Go.Proofs.YtfcjahdkpjbggaaDoor
