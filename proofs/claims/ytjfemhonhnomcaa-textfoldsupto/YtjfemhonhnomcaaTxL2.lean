/-
  TextTwice and TextBlanks answer true, and write nothing that was there.
-/
import Derived.Test.YtjfemhonhnomcaaTxL0
import Derived.Test.YtjfemhonhnomcaaTxT
namespace Go.Proofs.Ytjfemhonhnomcaa
open Go.RowKit Go.Shelf Go.IntWalk

theorem foldS_size (s : ByteArray) : (foldS s).size ≤ s.size := by
  have h := fold_len s.data.toList
  rw [size_len] at h
  exact h

theorem foldS_twice (s : ByteArray) : foldS (foldS s) = foldS s := by
  unfold foldS
  rw [fold_fold]

theorem text_eq (A B : ByteArray) : (A.toList == B.toList) = decide (A = B) := by
  by_cases h : A = B
  · subst h; simp
  · rw [decide_eq_false h, beq_eq_false_iff_ne, ByteArray.toList_eq, ByteArray.toList_eq]
    intro e
    exact h (ByteArray.ext (Array.ext' e))

set_option maxRecDepth 100000 in
theorem same_any (a b : ByteArray) (ha : a.size + 1 ≤ 140737488355328) (hb : b.size + 1 ≤ 140737488355328) (w : World) :
    Calls Try.prog 18 #[.string a, .string b] w fun e w' => e = .returned (.bool (decide (foldS a = foldS b))) ∧ Below w.heap.size w w' := by
  have f1 := hide (fun W => fold_any a ha W)
  have f2 := hide (fun W => fold_any b hb W)
  generalize foldS a = A at f1 ⊢
  generalize foldS b = B at f2 ⊢
  have hB := Below.refl w.heap.size w
  go_enter Try.func18, Try.ntmps18
  go_wp2_with (first
    | (go_at_call_of 16 (Value.string a); refine (f1.out _).mono ?_; rintro e w1 ⟨rfl, h1⟩; replace hB := hB.trans (h1.mono hB.size))
    | (go_at_call_of 16 (Value.string b); refine (f2.out _).mono ?_; rintro e w1 ⟨rfl, h1⟩; replace hB := hB.trans (h1.mono hB.size)))
  go_ret
  refine ⟨?_, hB⟩
  show Ending.returned (Value.bool (A.toList == B.toList)) = _
  rw [text_eq]

set_option maxRecDepth 100000 in
set_option maxHeartbeats 2000000 in
theorem textTwice_walk (a b c : ByteArray) (ha : a.size + 1 ≤ 140737488355328) (hb : b.size + 1 ≤ 140737488355328) (hc : c.size + 1 ≤ 140737488355328) (w : World) :
    Calls Try.prog 7 #[.string a, .string b, .string c] w fun e w' => e = .returned (.bool true) ∧ Below w.heap.size w w' := by
  have hS := hide same_any
  have hT := hide fold_any
  have hB := Below.refl w.heap.size w
  have hle := foldS_size a
  have hFF := foldS_twice a
  have hf : (foldS a).size + 1 ≤ 140737488355328 := by omega
  obtain ⟨F, hF⟩ : ∃ F, foldS a = F := ⟨_, rfl⟩
  obtain ⟨Bf, hBf⟩ : ∃ F, foldS b = F := ⟨_, rfl⟩
  obtain ⟨Cf, hCf⟩ : ∃ F, foldS c = F := ⟨_, rfl⟩
  rw [hF] at hle hFF hf
  by_cases e1 : F = Bf
  · subst e1
    by_cases e2 : F = Cf
    · subst e2
      go_enter Try.func7, Try.ntmps7
      go_wp2_with (first
        | (go_at_call 18; refine (hS.out _ _ (by first | exact ha | exact hb | exact hc | exact hf) (by first | exact ha | exact hb | exact hc | exact hf) _).mono ?_; rintro e w1 ⟨rfl, h1⟩; replace hB := hB.trans (h1.mono hB.size))
        | (go_at_call 16; refine (hT.out _ (by first | exact ha | exact hf) _).mono ?_; rintro e w1 ⟨rfl, h1⟩; replace hB := hB.trans (h1.mono hB.size))
        | (go_at_call 11; refine (works_any _).mono ?_; rintro e w3 ⟨rfl, h3⟩; replace hB := hB.trans (h3.mono hB.size)))
      go_ret
      exact ⟨rfl, hB⟩
    · go_enter Try.func7, Try.ntmps7
      go_wp2_with (first
        | (go_at_call 18; refine (hS.out _ _ (by first | exact ha | exact hb | exact hc | exact hf) (by first | exact ha | exact hb | exact hc | exact hf) _).mono ?_; rintro e w1 ⟨rfl, h1⟩; replace hB := hB.trans (h1.mono hB.size))
        | (go_at_call 16; refine (hT.out _ (by first | exact ha | exact hf) _).mono ?_; rintro e w1 ⟨rfl, h1⟩; replace hB := hB.trans (h1.mono hB.size))
        | (go_at_call 11; refine (works_any _).mono ?_; rintro e w3 ⟨rfl, h3⟩; replace hB := hB.trans (h3.mono hB.size)))
      go_ret
      exact ⟨rfl, hB⟩
  · have e2 : ¬ Bf = F := fun h => e1 h.symm
    go_enter Try.func7, Try.ntmps7
    go_wp2_with (first
      | (go_at_call 18; refine (hS.out _ _ (by first | exact ha | exact hb | exact hc | exact hf) (by first | exact ha | exact hb | exact hc | exact hf) _).mono ?_; rintro e w1 ⟨rfl, h1⟩; replace hB := hB.trans (h1.mono hB.size))
      | (go_at_call 16; refine (hT.out _ (by first | exact ha | exact hf) _).mono ?_; rintro e w1 ⟨rfl, h1⟩; replace hB := hB.trans (h1.mono hB.size))
      | (go_at_call 11; refine (works_any _).mono ?_; rintro e w3 ⟨rfl, h3⟩; replace hB := hB.trans (h3.mono hB.size)))
    go_ret
    exact ⟨rfl, hB⟩

end Go.Proofs.Ytjfemhonhnomcaa
