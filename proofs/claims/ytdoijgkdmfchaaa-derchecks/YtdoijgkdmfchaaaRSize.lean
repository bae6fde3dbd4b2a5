/-
  The reference's Size answers the same number as der.Size at every int; the names are the document's.
-/
import Derived.Test.YtdoijgkdmfchaaaLen
import Derived.Test.YtdoijgkdmfchaaaSize
namespace Go.Proofs.Ytdoijgkdmfchaaa
open Go.RowKit

set_option maxRecDepth 100000 in
set_option maxHeartbeats 1000000 in
theorem refsize_any (n : Int) (w : World) :
    Calls Try.prog 28 #[.int .i64 n] w fun e w' => e = .returned (.int .i64 (sizeN n)) ∧ Below w.heap.size w w' := by
  by_cases h0 : n < 0
  · have e1 : sizeN n = 0 := by unfold sizeN; rw [if_pos (.inl h0)]
    have E := hide e1
    clear e1
    go_enter Try.func28, Try.ntmps28
    go_wp2
    go_ret
    rw [unhide E]
    exact ⟨rfl, Below.refl _ _⟩
  · by_cases h1 : 16777215 < n
    · have e1 : sizeN n = 0 := by unfold sizeN; rw [if_pos (.inr h1)]
      have E := hide e1
      clear e1
      go_enter Try.func28, Try.ntmps28
      go_wp2
      go_ret
      rw [unhide E]
      exact ⟨rfl, Below.refl _ _⟩
    · obtain ⟨m, rfl⟩ := Int.eq_ofNat_of_zero_le (by omega : 0 ≤ n)
      have e1 := sizeN_eq m (by omega)
      have E := hide e1
      clear e1
      have hlb : (lenB m).length ≤ 4 := by
        unfold lenB; split
        · simp
        · have := digs_len m; simp; omega
      go_enter Try.func28, Try.ntmps28
      go_wp2_with fail
      refine (length_any m _ (by omega)).mono ?_
      rintro e w' ⟨v, rfl, hown, hbel⟩
      rcases own_split hown with ⟨rfl, hl, _⟩ | ⟨g, cap, rfl, _⟩
      · exfalso; unfold lenB at hl; split at hl <;> simp at hl
      · go_wp2
        go_ret
        rw [unhide E]
        exact ⟨rfl, hbel⟩

theorem names_any (w : World) : Calls Try.prog 14 #[] w fun e w' => e = .returned (.bool true) ∧ w' = w := by
  go_enter Try.func14, Try.ntmps14
  go_wp2
  go_ret
  exact ⟨rfl, rfl⟩

end Go.Proofs.Ytdoijgkdmfchaaa
