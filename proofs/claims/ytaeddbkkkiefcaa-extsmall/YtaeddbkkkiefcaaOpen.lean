/-
  How a row's []byte argument is opened into what the walks are told of it.
-/
import Derived.Test.YtaeddbkkkiefcaaRows
import Derived.Test.YtaeddbkkkiefcaaBts
import Derived.ProofKit
import Derived.OpenShut
import Derived.ShutString
import Derived.ChangeOld
import Derived.Below
import Derived.SizedLaws
namespace Go.Proofs.Ytaeddbkkkiefcaa
open Go.ChangeShapes Go.WideShapes Go.ChangeAt Go.RowKit

theorem Try.own : ownKnob Try.prog.godebug = none := by kernel_rfl
theorem Try.laidOut : laidOutB Try.prog = true := by kernel_rfl
theorem Try.cellsB : Try.prog.cellsOf 5 = 1 := by kernel_rfl
theorem Try.bytesB : Try.prog.bytesOf 5 = 1 := by kernel_rfl

theorem src_of_cells {W : World} {a : Addr} {len cap : Nat} {zs : List Int} (hl : len ≤ cap) (hm : cap ≤ maxLen) (hz : zs.length = cap) (hcell : ∀ i, i < zs.length → W.cell? (a.add i) = some (.int .u8 (zs.getD i 0)))
    (hwz : ∀ n ∈ zs, (Lit.int .u8 n).wf = true) : Src W (some a) len cap (zs.take len) := by
  refine ⟨by simp; omega, hl, hm, by simp, ?_, ?_⟩
  · intro hx
    have h0 : 0 < len ∧ 0 < zs.length := by
      rcases Nat.eq_zero_or_pos len with h | h
      · subst h; simp at hx
      · omega
    obtain ⟨b, off, spot⟩ := a
    have hc := hcell 0 h0.2
    have hspot : spot = none := by simpa [Addr.add] using World.cell?_spot hc
    subst hspot
    refine ⟨b, off, rfl, fun i hi => ?_⟩
    have hi' : i < len ∧ i < zs.length := by simp at hi; omega
    have := hcell i hi'.2
    rw [add_none] at this
    rw [this]
    simp [List.getD, hi'.1]
  · intro x hx
    have := hwz x (List.mem_of_mem_take hx)
    have := bounds_u8 this
    omega

/-- An argument of type []byte, as the row reads it. -/
theorem open_bytes {H : Type} {enc : TypeId × Value → H} {W : World} {a0 : Option Addr} {len cap : Nat} {d : DataW H} {p : List MemPlace}
    (h : DataW.Trod enc Try.prog W 0 (fun _ => true) true 27 (.slice a0 len cap) d p) :
    ∃ xs, Src W a0 len cap xs ∧ ((d = .nil ∧ len = 0 ∧ cap = 0) ∨ ∃ el sp, d = .slice el sp ∧ el.length + sp.length = cap) := by
  obtain ⟨fuel, hf⟩ := h
  rcases open_ints Try.underlying27 Try.underlying5 Try.cellsB hf with ⟨hcs, hx⟩ | ⟨x, l, c, zs, hcs, _, hl, hm, hz, hx, hcell, hwz⟩
  · simp [Value.cells] at hcs
    obtain ⟨rfl, rfl, rfl⟩ := hcs
    simp only [Prod.mk.injEq] at hx
    exact ⟨[], ⟨rfl, Nat.le_refl _, by decide, fun _ => ⟨rfl, rfl⟩, fun h => absurd rfl h, by simp⟩, .inl ⟨hx.1, rfl, rfl⟩⟩
  · simp [Value.cells] at hcs
    obtain ⟨rfl, rfl, rfl⟩ := hcs
    simp only [Prod.mk.injEq] at hx
    have hz' : zs.length = cap := by simpa using hz
    exact ⟨zs.take len, src_of_cells hl hm hz' hcell hwz, .inr ⟨_, _, hx.1, by simp [lits]; omega⟩⟩

end Go.Proofs.Ytaeddbkkkiefcaa
