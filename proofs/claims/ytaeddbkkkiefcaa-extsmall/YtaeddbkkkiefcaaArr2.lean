/-
  Arrays of two bytes.
-/
import Derived.Test.YtaeddbkkkiefcaaRev
namespace Go.Proofs.Ytaeddbkkkiefcaa
open Go.RowKit Go.IntWalk

/-- Bytes told by cells. -/
theorem Src.two {w : World} {b : Nat} {x y : Int} (hx : w.cell? ⟨b, 0, none⟩ = some (.int .u8 x)) (hy : w.cell? ⟨b, 1, none⟩ = some (.int .u8 y)) (h0 : 0 ≤ x ∧ x < 256) (h1 : 0 ≤ y ∧ y < 256) (k : Nat) (hk : k ≤ 2) : Src w (some ⟨b, 0, none⟩) k 2 ([x, y].take k) := by
  refine ⟨by simp; omega, hk, by decide, by simp, fun _ => ⟨b, 0, rfl, fun i hi => ?_⟩, ?_⟩
  · have hi2 : i < k ∧ i < 2 := by simp at hi; omega
    rcases (show i = 0 ∨ i = 1 by omega) with rfl | rfl
    · simp [hx, List.getD, hi2.1]
    · simp [hy, List.getD, hi2.1]
  · intro z hz
    have := List.mem_of_mem_take hz
    simp at this
    rcases this with rfl | rfl <;> assumption

theorem Try.lenA2 : Try.prog.arrayLen 100 = 2 := by kernel_rfl
theorem Try.elemA2 : Try.prog.elem 100 = 5 := by kernel_rfl
theorem Try.arrA2 : Try.prog.underlying 100 = some (.array (Try.prog.arrayLen 100) (Try.prog.elem 100)) := by rw [Try.lenA2, Try.elemA2]; exact Try.underlying100
theorem Try.sizeA2 (w : World) : (sizeOf (Try.prog.elem 100)).run Try.prog w = .ok 1 w := by rw [Try.elemA2]; kernel_rfl

theorem slice_arr2 (W : World) (b k : Nat) (hk : k ≤ 2) : (Instr.sliceAt 100 (.pointer (some ⟨b, 0, none⟩)) none (some (.int .i64 (k : Int))) none).run Try.prog W = .ok (.slice (some ⟨b, 0, none⟩) k 2) W := by
  rw [run_sliceAt_array_h W _ _ Try.arrA2 .i64 (k : Int) (by omega) (by rw [Try.lenA2]; omega), Try.sizeA2, Try.lenA2]
  simp [slicedAt, Result.andThen, add_none]

end Go.Proofs.Ytaeddbkkkiefcaa
