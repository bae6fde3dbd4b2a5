/-
  oid.Encode and the document's Encode lay the content of an object identifier (encS), or refuse.
-/
import Derived.Test.YtfcjahdkpjbggaaRMay
import Derived.Test.YtfcjahdkpjbggaaONum
import Derived.Deep.RegionHeld3
namespace Go.Proofs.Ytfcjahdkpjbggaa
open Go.RowKit Go.IntWalk

/-- The content of an object identifier. -/
def encS (xs : List Int) : List Int := numB (40 * xs.getD 0 0 + xs.getD 1 0) ++ ((xs.drop 2).map numB).flatten
def encC (xs : List Int) : List Int := if mayS xs = true then encS xs else []
def encE (xs : List Int) : Int := if mayS xs = true then 0 else 2

theorem may_parts {xs : List Int} (h : mayS xs = true) : 2 ≤ xs.length ∧ xs.length ≤ 20 ∧ (∀ x ∈ xs, 0 ≤ x ∧ x ≤ 2147483647) ∧ pairB (xs.getD 0 0) (xs.getD 1 0) = true := by
  unfold mayS at h
  simp only [Bool.and_eq_true, decide_eq_true_eq, List.all_eq_true] at h
  obtain ⟨⟨⟨h1, h2⟩, h3⟩, h4⟩ := h
  refine ⟨h1, h2, fun x hx => ?_, h4⟩
  have := h3 x hx
  unfold arcB at this
  simpa using this

theorem first_in {xs : List Int} (h : mayS xs = true) : 0 ≤ 40 * xs.getD 0 0 + xs.getD 1 0 ∧ 40 * xs.getD 0 0 + xs.getD 1 0 ≤ 2147483647 ∧ 0 ≤ xs.getD 0 0 ∧ xs.getD 0 0 ≤ 2 ∧ 0 ≤ xs.getD 1 0 ∧ xs.getD 1 0 ≤ 2147483647 := by
  obtain ⟨h1, _, h3, h4⟩ := may_parts h
  have e0 : 0 ≤ xs.getD 0 0 ∧ xs.getD 0 0 ≤ 2147483647 := by
    rw [List.getD, List.getElem?_eq_getElem (show 0 < xs.length by omega)]; exact h3 _ (List.getElem_mem _)
  have e1 : 0 ≤ xs.getD 1 0 ∧ xs.getD 1 0 ≤ 2147483647 := by
    rw [List.getD, List.getElem?_eq_getElem (show 1 < xs.length by omega)]; exact h3 _ (List.getElem_mem _)
  unfold pairB at h4
  split at h4
  · have := of_decide_eq_true h4
    omega
  · split at h4
    · have := of_decide_eq_true h4
      omega
    · simp at h4

theorem flat_next (l : List Int) (k : Nat) (h : k < l.length) : ((l.take (k + 1)).map numB).flatten = ((l.take k).map numB).flatten ++ numB (l.getD k 0) := by
  rw [List.take_add_one, List.map_append, List.flatten_append]
  simp [List.getD, h]

theorem flat_len : ∀ l : List Int, ((l.map numB).flatten).length ≤ 5 * l.length
  | [] => by simp
  | x :: l => by
    have h1 := flat_len l
    have h2 := numB_len x
    have h3 := (sizeS_in x).2
    rw [List.map_cons, List.flatten_cons, List.length_append, List.length_cons]
    omega

theorem flat_byte (l : List Int) : ∀ x ∈ (l.map numB).flatten, 0 ≤ x ∧ x < 256 := by
  intro x hx
  rw [List.mem_flatten] at hx
  obtain ⟨ys, h1, h2⟩ := hx
  rw [List.mem_map] at h1
  obtain ⟨y, _, rfl⟩ := h1
  exact numB_byte y x h2

theorem encC_byte (xs : List Int) : ∀ x ∈ encC xs, 0 ≤ x ∧ x < 256 := by
  unfold encC encS
  split
  · intro x hx
    rcases List.mem_append.1 hx with hx | hx
    · exact numB_byte _ x hx
    · exact flat_byte _ x hx
  · simp

end Go.Proofs.Ytfcjahdkpjbggaa
