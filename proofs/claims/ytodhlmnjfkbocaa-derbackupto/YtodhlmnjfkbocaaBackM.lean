/-
  Elements that are put one behind the other are found again. No program.
-/
import Derived.Test.YtodhlmnjfkbocaaAgainM
import Derived.Test.YtodhlmnjfkbocaaRight
namespace Go.Proofs.Ytodhlmnjfkbocaa

theorem elS_put (pre rest : List Int) (e : Int × List Int) (ht : isTagB e.1 = true) (hl : e.2.length < 16777216) :
    findS ((pre ++ (putB e ++ rest)).drop pre.length) = (e.1, ((1 + (lenB e.2.length).length : Nat) : Int), ((putB e).length : Int), 0) ∧ elS (pre ++ (putB e ++ rest)) pre.length = e := by
  have hd : (pre ++ (putB e ++ rest)).drop pre.length = [e.1] ++ lenB e.2.length ++ e.2 ++ rest := by
    rw [List.drop_append_of_le_length (Nat.le_refl _), List.drop_eq_nil_of_le (Nat.le_refl _), List.nil_append]
    rfl
  have hf := find_put e.1 ht e.2 rest hl
  have hl' : (putB e).length = 1 + (lenB e.2.length).length + e.2.length := by unfold putB; simp; omega
  refine ⟨?_, ?_⟩
  · rw [hd, hf, hl']
    simp
  · unfold elS contS
    rw [hd, hf]
    simp only []
    have h1 : (1 + ((lenB e.2.length).length : Int) + (e.2.length : Int)).toNat = 1 + (lenB e.2.length).length + e.2.length := by omega
    have h2 : (1 + ((lenB e.2.length).length : Int)).toNat = 1 + (lenB e.2.length).length := by omega
    rw [h1, h2, cut_put]

theorem catS_cons (e : Int × List Int) (es : List (Int × List Int)) : catS (e :: es) = putB e ++ catS es := by simp [catS]

theorem putB_pos (e : Int × List Int) : 0 < (putB e).length := by unfold putB; simp

theorem places_of_cat : ∀ (es : List (Int × List Int)) (pre : List Int) (f : Nat), (∀ e ∈ es, isTagB e.1 = true ∧ e.2.length < 16777216) → (catS es).length ≤ f →
    (placesF (pre ++ catS es) f pre.length).map (elS (pre ++ catS es)) = es ∧ endP (pre ++ catS es) (placesF (pre ++ catS es) f pre.length) pre.length = (pre ++ catS es).length := by
  intro es
  induction es with
  | nil =>
    intro pre f _ _
    have e : placesF (pre ++ catS []) f pre.length = [] := by
      cases f with
      | zero => rfl
      | succ f => rw [placesF, if_neg]; simp [catS]
    rw [e]
    simp [endP, catS]
  | cons e es ih =>
    intro pre f hok hf
    obtain ⟨ht, hl⟩ := hok e (by simp)
    obtain ⟨hfi, hel⟩ := elS_put pre (catS es) e ht hl
    have hpos := putB_pos e
    rw [catS_cons] at hf ⊢
    rw [List.length_append] at hf
    obtain ⟨f', rfl⟩ : ∃ f', f = f' + 1 := ⟨f - 1, by omega⟩
    have hlen : pre.length < (pre ++ (putB e ++ catS es)).length := by simp; omega
    have hstep : placesF (pre ++ (putB e ++ catS es)) (f' + 1) pre.length = pre.length :: placesF (pre ++ (putB e ++ catS es)) f' (pre.length + (putB e).length) := by
      rw [placesF, hfi, if_pos ⟨hlen, rfl, by simp only []; omega⟩]
      simp
    have hih := ih (pre ++ putB e) f' (fun x hx => hok x (by simp [hx])) (by omega)
    rw [List.append_assoc, List.length_append] at hih
    rw [hstep, endP_cons, hfi]
    simp only [Int.toNat_natCast]
    rw [List.map_cons, hel, hih.1]
    exact ⟨rfl, hih.2⟩

theorem places_all (es : List (Int × List Int)) (hok : ∀ e ∈ es, isTagB e.1 = true ∧ e.2.length < 16777216) :
    (placesS (catS es) 0).map (elS (catS es)) = es ∧ endS (catS es) (placesS (catS es) 0) = (catS es).length := by
  have := places_of_cat es [] (catS es).length hok (Nat.le_refl _)
  rw [List.nil_append] at this
  exact this

/-- The element that 'right' makes of any one. -/
def rightE (e : Int × List Int) : Int × List Int := (rtag e.1, e.2.take 1048576)

theorem rightE_ok (e : Int × List Int) : isTagB (rightE e).1 = true ∧ (rightE e).2.length < 16777216 := by
  refine ⟨rtag_tag _, ?_⟩
  unfold rightE
  simp
  omega

theorem putB_byte (e : Int × List Int) (ht : isTagB e.1 = true) (hl : e.2.length < 16777216) (hb : ∀ x ∈ e.2, 0 ≤ x ∧ x < 256) : ∀ x ∈ putB e, 0 ≤ x ∧ x < 256 := by
  intro x hx
  unfold putB at hx
  simp only [List.mem_append, List.mem_singleton] at hx
  rcases hx with (rfl | hx) | hx
  · unfold isTagB at ht
    simp at ht
    omega
  · unfold lenB at hx
    split at hx
    · simp at hx; omega
    · have := digs_len e.2.length
      simp at hx
      rcases hx with hx | hx
      · omega
      · exact digs_byte _ hl x hx
  · exact hb x hx

end Go.Proofs.Ytodhlmnjfkbocaa
