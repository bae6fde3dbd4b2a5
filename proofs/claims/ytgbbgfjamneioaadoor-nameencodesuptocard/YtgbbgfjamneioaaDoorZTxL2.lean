/-
  TextTwice and TextBlanks answer true, and write nothing that was there.
-/
import Derived.Test.YtgbbgfjamneioaaDoorZTxL0ToTxT
namespace Go.Proofs.YtgbbgfjamneioaaDoor
open Go.RowKit Go.Shelf Go.IntWalk

theorem foldS_size (s : ByteArray) : (foldS s).size ≤ s.size := by
  have h := fold_len s.data.toList
  rw [size_len] at h
  exact h

theorem foldS_twice (s : ByteArray) : foldS (foldS s) = foldS s := by
  unfold foldS
  rw [fold_fold]

theorem text_eq (A B : ByteArray) : (A.toList == B.toList) = decide (A = B) := by
  by_cases h : A = B
  · subst h; simp
  · rw [decide_eq_false h, beq_eq_false_iff_ne, ByteArray.toList_eq, ByteArray.toList_eq]
    intro e
    exact h (ByteArray.ext (Array.ext' e))

set_option maxRecDepth 100000 in
theorem same_any (a b : ByteArray) (ha : a.size + 1 ≤ 140737488355328) (hb : b.size + 1 ≤ 140737488355328) (w : World) :
    Calls Tryd.prog 91 #[.string a, .string b] w fun e w' => e = .returned (.bool (decide (foldS a = foldS b))) ∧ Below w.heap.size w w' := by
  have f1 := hide (fun W => fold_any a ha W)
  have f2 := hide (fun W => fold_any b hb W)
  generalize foldS a = A at f1 ⊢
  generalize foldS b = B at f2 ⊢
  have hB := Below.refl w.heap.size w
  go_enter Tryd.func91, Tryd.ntmps91
  go_wp2_with (first
    | (go_at_call_of 102 (Value.string a); refine (f1.out _).mono ?_; rintro e w1 ⟨rfl, h1⟩; replace hB := hB.trans (h1.mono hB.size))
    | (go_at_call_of 102 (Value.string b); refine (f2.out _).mono ?_; rintro e w1 ⟨rfl, h1⟩; replace hB := hB.trans (h1.mono hB.size)))
  go_ret
  refine ⟨?_, hB⟩
  show Ending.returned (Value.bool (A.toList == B.toList)) = _
  rw [text_eq]

end Go.Proofs.YtgbbgfjamneioaaDoor
