/-
  TextValids and TextMays answer true, and write nothing that was there.
-/
import Derived.Test.YtjfemhonhnomcaaTxL0
import Derived.Test.YtjfemhonhnomcaaTxP5
namespace Go.Proofs.Ytjfemhonhnomcaa
open Go.RowKit Go.Shelf Go.IntWalk

set_option maxRecDepth 100000 in
set_option maxHeartbeats 1000000 in
theorem textValids_walk (s : ByteArray) (hs : s.size + 1 ≤ 140737488355328) (w : World) :
    Calls Try.prog 3 #[.string s] w fun e w' => e = .returned (.bool true) ∧ Below w.heap.size w w' := by
  have v1 := hide (fun W => valid_any s (by omega) W)
  have v2 := hide (fun W => refValid_any s (by omega) W)
  have hB := Below.refl w.heap.size w
  generalize validL s.data.toList = V at v1 v2
  go_enter Try.func3, Try.ntmps3
  go_wp2_with (first
    | (go_at_call 9; refine (v1.out _).mono ?_; rintro e w1 ⟨rfl, h1⟩; replace hB := hB.trans (h1.mono hB.size))
    | (go_at_call 10; refine (v2.out _).mono ?_; rintro e w2 ⟨rfl, rfl⟩)
    | (go_at_call 11; refine (works_any _).mono ?_; rintro e w3 ⟨rfl, h3⟩; replace hB := hB.trans (h3.mono hB.size)))
  go_ret
  exact ⟨rfl, hB⟩

set_option maxRecDepth 100000 in
set_option maxHeartbeats 2000000 in
theorem textMays_walk (k : Int) (s : ByteArray) (hs : s.size + 1 ≤ 140737488355328) (w : World) :
    Calls Try.prog 4 #[.int .i64 k, .string s] w fun e w' => e = .returned (.bool true) ∧ Below w.heap.size w w' := by
  have k1 := hide (fun W => kind_any s (by omega) W)
  have k2 := hide (fun W => refKind_any s (by omega) W)
  have a0 := hide (fun x W => may_any x s (by omega) W)
  have b0 := hide (fun x W => refMay_any x s (by omega) W)
  have hB := Below.refl w.heap.size w
  generalize (kindL s.data.toList).1 = K1 at k1 k2
  generalize (kindL s.data.toList).2 = K2 at k1 k2
  go_enter Try.func4, Try.ntmps4
  go_wp2_with (first
    | (go_at_call 12; refine (k1.out _).mono ?_; rintro e w1 ⟨rfl, h1⟩; replace hB := hB.trans (h1.mono hB.size))
    | (go_at_call 13; refine (k2.out _).mono ?_; rintro e w1 ⟨rfl, h1⟩; replace hB := hB.trans (h1.mono hB.size))
    | (go_at_call 14; refine (a0.out _ _).mono ?_; rintro e w1 ⟨rfl, h1⟩; replace hB := hB.trans (h1.mono hB.size))
    | (go_at_call 15; refine (b0.out _ _).mono ?_; rintro e w1 ⟨rfl, h1⟩; replace hB := hB.trans (h1.mono hB.size))
    | (go_at_call 11; refine (works_any _).mono ?_; rintro e w3 ⟨rfl, h3⟩; replace hB := hB.trans (h3.mono hB.size)))
  go_ret
  exact ⟨rfl, hB⟩

end Go.Proofs.Ytjfemhonhnomcaa
