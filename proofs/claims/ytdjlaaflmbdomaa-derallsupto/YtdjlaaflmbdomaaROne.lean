/-
  The reference's One answers as the plain function of the bytes says; 'same' says true of elements of one tag and one content.
-/
import Derived.Test.YtdjlaaflmbdomaaOne
import Derived.Test.YtdjlaaflmbdomaaRTake
import Derived.Test.YtdjlaaflmbdomaaMore
namespace Go.Proofs.Ytdjlaaflmbdomaa
open Go.RowKit Go.IntWalk

theorem contS_byte (xs : List Int) (hb : ∀ x ∈ xs, 0 ≤ x ∧ x < 256) : ∀ x ∈ contS xs, 0 ≤ x ∧ x < 256 := fun x hx => hb x (List.mem_of_mem_take (List.mem_of_mem_drop hx))

theorem oneS_byte (xs : List Int) (hb : ∀ x ∈ xs, 0 ≤ x ∧ x < 256) : ∀ x ∈ (oneS xs).2.1, 0 ≤ x ∧ x < 256 := by
  intro x hx
  unfold oneS at hx
  split at hx
  · simp at hx
  · split at hx
    · simp at hx
    · exact contS_byte xs hb x hx

set_option maxRecDepth 100000 in
set_option maxHeartbeats 1000000 in
theorem same_true (t : Int) (a1 : Option Addr) (n1 c1 : Nat) (a2 : Option Addr) (n2 c2 : Nat) (xs : List Int) (w : World) (h1 : Src w a1 n1 c1 xs) (h2 : Src w a2 n2 c2 xs) :
    Calls Try.prog 8 #[.agg #[.int .i64 t, .slice a1 n1 c1], .agg #[.int .i64 t, .slice a2 n2 c2]] w fun e w' => e = .returned (.bool true) ∧ Below w.heap.size w w' := by
  have t1 := fun o o' => ((h1.alloc o).alloc o').text
  have t2 := fun o o' => ((h2.alloc o).alloc o').text
  have ht : (t == t) = true := by simp
  go_enter Try.func8, Try.ntmps8
  go_wp2
  go_ret
  exact ⟨rfl, ((Below.refl _ _).alloc (Nat.le_refl _) _).alloc (by simp) _⟩

end Go.Proofs.Ytdjlaaflmbdomaa
