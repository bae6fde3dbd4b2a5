/-
  text.Fold and text.Same as calls; the statements' own call works answers true.
-/
import Derived.Test.YtjfemhonhnomcaaTxF2
import Derived.Test.YtjfemhonhnomcaaTxP4
namespace Go.Proofs.Ytjfemhonhnomcaa
open Go.RowKit Go.Shelf Go.IntWalk

theorem Try.own5 : ownKnob Try.prog.godebug = none := by kernel_rfl

/-- A text as it is compared. -/
def foldS (s : ByteArray) : ByteArray := ⟨(foldL s.data.toList).toArray⟩

theorem fold_any (s : ByteArray) (hs : s.size + 1 ≤ 140737488355328) (w : World) :
    Calls Try.prog 16 #[.string s] w fun e w' => e = .returned (.string (foldS s)) ∧ Below w.heap.size w w' := callsIn_wide.1 (fold_in s hs w)

theorem foldS_A : foldS ⟨#[65]⟩ = ⟨#[97]⟩ := by decide

theorem may_a (k : Int) (hk : k = 12 ∨ k = 19 ∨ k = 22) : mayL k [97] = true := by
  rcases hk with rfl | rfl | rfl <;> decide

set_option maxRecDepth 100000 in
set_option maxHeartbeats 1000000 in
theorem works_any (w : World) :
    Calls Try.prog 11 #[] w fun e w' => e = .returned (.bool true) ∧ Below w.heap.size w w' := by
  have m1 := hide (fun W => may_any 12 ⟨#[97]⟩ (by decide) W)
  have m2 := hide (fun W => may_any 19 ⟨#[97]⟩ (by decide) W)
  have m3 := hide (fun W => may_any 22 ⟨#[97]⟩ (by decide) W)
  have f1 := hide (fun W => fold_any ⟨#[65]⟩ (by decide) W)
  have e1 : (⟨#[97]⟩ : ByteArray).data.toList = [97] := rfl
  rw [e1, may_a _ (.inl rfl)] at m1
  rw [e1, may_a _ (.inr (.inl rfl))] at m2
  rw [e1, may_a _ (.inr (.inr rfl))] at m3
  rw [foldS_A] at f1
  go_enter Try.func11, Try.ntmps11
  go_wp2_with (first
    | (go_at_call_of 14 (Value.int .i64 12); refine (m1.out _).mono ?_; rintro e w1 ⟨rfl, h1⟩)
    | (go_at_call_of 14 (Value.int .i64 19); refine (m2.out _).mono ?_; rintro e w2 ⟨rfl, h2⟩)
    | (go_at_call_of 14 (Value.int .i64 22); refine (m3.out _).mono ?_; rintro e w3 ⟨rfl, h3⟩)
    | (go_at_call 16; refine (f1.out _).mono ?_; rintro e w4 ⟨rfl, h4⟩)
    | go_in)
  go_ret
  refine ⟨rfl, ?_⟩
  exact ((h1.trans (h2.mono h1.size)).trans (h3.mono (Nat.le_trans h1.size h2.size))).trans (h4.mono (Nat.le_trans h1.size (Nat.le_trans h2.size h3.size)))

end Go.Proofs.Ytjfemhonhnomcaa
