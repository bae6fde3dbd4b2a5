/-
  TextFolds answers true, and writes nothing that was there.
-/
import Derived.Test.YtjfemhonhnomcaaTxL2
import Derived.Test.YtjfemhonhnomcaaTxR2
namespace Go.Proofs.Ytjfemhonhnomcaa
open Go.RowKit Go.Shelf Go.IntWalk

set_option maxRecDepth 100000 in
set_option maxHeartbeats 2000000 in
theorem textFolds_walk (a b : ByteArray) (ha : a.size ≤ 1048576) (hb : b.size ≤ 1048576) (w : World) :
    Calls Try.prog 5 #[.string a, .string b] w fun e w' => e = .returned (.bool true) ∧ Below w.heap.size w w' := by
  have c1 := hide (fun W => fold_any a (by omega) W)
  have c2 := hide (fun W => fold_any b (by omega) W)
  have c3 := hide (fun W => refFold_any a ha W)
  have c4 := hide (fun W => refFold_any b hb W)
  have c5 := hide (fun W => same_any a b (by omega) (by omega) W)
  have hB := Below.refl w.heap.size w
  generalize foldS a = A at c1 c3 c5
  generalize foldS b = B at c2 c4 c5
  have ht := text_eq A B
  by_cases e : A = B
  · subst e
    have c5 : Hid (∀ W, Calls Try.prog 18 #[.string a, .string b] W fun e w' => e = .returned (.bool true) ∧ Below W.heap.size W w') := by simpa using c5
    clear ht
    go_enter Try.func5, Try.ntmps5
    go_wp2_with (first
      | (go_at_call 18; refine (c5.out _).mono ?_; rintro e w1 ⟨rfl, h1⟩; replace hB := hB.trans (h1.mono hB.size))
      | (go_at_call_of 16 (Value.string a); refine (c1.out _).mono ?_; rintro e w1 ⟨rfl, h1⟩; replace hB := hB.trans (h1.mono hB.size))
      | (go_at_call_of 16 (Value.string b); refine (c2.out _).mono ?_; rintro e w1 ⟨rfl, h1⟩; replace hB := hB.trans (h1.mono hB.size))
      | (go_at_call_of 17 (Value.string a); refine (c3.out _).mono ?_; rintro e w1 ⟨rfl, h1⟩; replace hB := hB.trans (h1.mono hB.size))
      | (go_at_call_of 17 (Value.string b); refine (c4.out _).mono ?_; rintro e w1 ⟨rfl, h1⟩; replace hB := hB.trans (h1.mono hB.size))
      | (go_at_call 11; refine (works_any _).mono ?_; rintro e w3 ⟨rfl, h3⟩; replace hB := hB.trans (h3.mono hB.size)))
    go_ret
    exact ⟨rfl, hB⟩
  · rw [decide_eq_false e] at c5 ht
    go_enter Try.func5, Try.ntmps5
    go_wp2_with (first
      | (go_at_call 18; refine (c5.out _).mono ?_; rintro e w1 ⟨rfl, h1⟩; replace hB := hB.trans (h1.mono hB.size))
      | (go_at_call_of 16 (Value.string a); refine (c1.out _).mono ?_; rintro e w1 ⟨rfl, h1⟩; replace hB := hB.trans (h1.mono hB.size))
      | (go_at_call_of 16 (Value.string b); refine (c2.out _).mono ?_; rintro e w1 ⟨rfl, h1⟩; replace hB := hB.trans (h1.mono hB.size))
      | (go_at_call_of 17 (Value.string a); refine (c3.out _).mono ?_; rintro e w1 ⟨rfl, h1⟩; replace hB := hB.trans (h1.mono hB.size))
      | (go_at_call_of 17 (Value.string b); refine (c4.out _).mono ?_; rintro e w1 ⟨rfl, h1⟩; replace hB := hB.trans (h1.mono hB.size))
      | (go_at_call 11; refine (works_any _).mono ?_; rintro e w3 ⟨rfl, h3⟩; replace hB := hB.trans (h3.mono hB.size)))
    go_ret
    exact ⟨rfl, hB⟩

end Go.Proofs.Ytjfemhonhnomcaa
