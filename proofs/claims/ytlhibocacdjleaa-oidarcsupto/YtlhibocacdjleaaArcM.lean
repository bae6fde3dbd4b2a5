/-
  The numbers in a content, up to the first that is wrong, each with its place (arcG). Plain.
-/
import Derived.Test.YtlhibocacdjleaaSound
namespace Go.Proofs.Ytlhibocacdjleaa
open Go.RowKit

def arcF (xs : List Int) : Nat → Nat → List (Int × Int)
  | 0, _ => []
  | f + 1, p => if p < xs.length ∧ (nextS (xs.drop p)).2.2 = 0 then ((p : Int), (nextS (xs.drop p)).1) :: arcF xs f (p + (nextS (xs.drop p)).2.1) else []
def arcG (xs : List Int) (p : Nat) : List (Int × Int) := arcF xs (xs.length - p) p

theorem arcF_any (xs : List Int) : ∀ (f g p : Nat), xs.length - p ≤ f → xs.length - p ≤ g → arcF xs f p = arcF xs g p := by
  intro f
  induction f with
  | zero =>
    intro g p h1 _
    cases g with
    | zero => rfl
    | succ g => simp only [arcF]; rw [if_neg (by omega)]
  | succ f ih =>
    intro g p h1 h2
    cases g with
    | zero => simp only [arcF]; rw [if_neg (by omega)]
    | succ g =>
      simp only [arcF]
      split
      · rename_i h
        have := nextS_in (xs.drop p) h.2
        rw [ih g _ (by omega) (by omega)]
      · rfl

theorem arc_stop (xs : List Int) (p : Nat) (h : ¬ (p < xs.length ∧ (nextS (xs.drop p)).2.2 = 0)) : arcG xs p = [] := by
  rw [arcG, arcF_any xs _ (xs.length - p + 1) p (Nat.le_refl _) (by omega), arcF, if_neg h]

theorem arc_next (xs : List Int) (p : Nat) (h : p < xs.length) (he : (nextS (xs.drop p)).2.2 = 0) : arcG xs p = ((p : Int), (nextS (xs.drop p)).1) :: arcG xs (p + (nextS (xs.drop p)).2.1) := by
  have := nextS_in (xs.drop p) he
  rw [arcG, arcF_any xs _ (xs.length - p + 1) p (Nat.le_refl _) (by omega), arcF, if_pos ⟨h, he⟩, arcG]
  rw [arcF_any xs _ _ _ (by omega) (Nat.le_refl _)]

theorem arc_len (xs : List Int) : ∀ (f p : Nat), (arcF xs f p).length ≤ f
  | 0, _ => by simp [arcF]
  | f + 1, p => by
    simp only [arcF]
    split
    · have := arc_len xs f (p + (nextS (xs.drop p)).2.1)
      simp; omega
    · simp

/-- A number of so many bytes is told by these bytes alone. -/
theorem nextGo_take : ∀ (l : List Int) (n : Int) (k m : Nat), (nextGo n k l).2.2 = 0 → (nextGo n k l).2.1 ≤ k + m → nextGo n k (l.take m) = nextGo n k l
  | [], n, k, m, h, _ => by simp [nextGo] at h
  | x :: l, n, k, 0, h, hm => by
    exfalso
    have h0 : ∀ (l : List Int) (n : Int) (k : Nat), (nextGo n k l).2.2 = 0 → k < (nextGo n k l).2.1 := by
      intro l
      induction l with
      | nil => intro n k h; simp [nextGo] at h
      | cons x l ih =>
        intro n k h
        rw [nextGo] at h ⊢
        split at h
        · simp at h
        · rename_i hg
          rw [if_neg hg]
          split at h
          · rename_i hx; rw [if_pos hx]; show k < k + 1; omega
          · rename_i hx; rw [if_neg hx]; have := ih _ _ h; omega
    have := h0 _ _ _ h
    omega
  | x :: l, n, k, m + 1, h, hm => by
    rw [List.take_succ_cons, nextGo, nextGo]
    rw [nextGo] at h hm
    split at h
    · simp at h
    · rename_i hg
      rw [if_neg hg] at hm ⊢
      rw [if_neg hg]
      split at h
      · rename_i hx
        rw [if_pos hx, if_pos hx]
      · rename_i hx
        rw [if_neg hx] at hm ⊢
        rw [if_neg hx]
        exact nextGo_take l _ _ m h (by omega)

theorem nextS_take (l : List Int) (m : Nat) (h : (nextS l).2.2 = 0) (hm : (nextS l).2.1 ≤ m) : nextS (l.take m) = nextS l := by
  unfold nextS at h hm ⊢
  split at h
  · simp at h
  · rename_i hp
    rw [if_neg hp] at hm ⊢
    have h1 := nextGo_take l 0 0 m h (by omega)
    have hm0 : 0 < m := by
      have := nextGo_in l 0 0 (by omega) h
      omega
    have h2 : (l.take m).head? = l.head? := by cases l <;> cases m <;> simp_all
    rw [h2, if_neg hp, h1]

/-- Ahead of the place that sound tells, the numbers are right, and whole. -/
theorem sound_in_all (xs : List Int) : ∀ (f p : Nat), xs.length - p ≤ f → p ≤ soundG xs p ∧ soundG xs p ≤ max p xs.length
  | 0, p, h => by rw [sound_stop xs p (by omega)]; omega
  | f + 1, p, h => by
    by_cases hc : p < xs.length ∧ (nextS (xs.drop p)).2.2 = 0
    · have hi := nextS_in (xs.drop p) hc.2
      rw [List.length_drop] at hi
      have ih := sound_in_all xs f (p + (nextS (xs.drop p)).2.1) (by omega)
      rw [sound_next xs p hc.1 hc.2]
      omega
    · rw [sound_stop xs p hc]; omega

/-- The content cut at that place: from a place of a number on, the same number stands there, and it is the end just where sound says so. -/
theorem cut_next (xs : List Int) (e p : Nat) (he : soundG xs 0 = e) (hp : soundG xs 0 = soundG xs p) (hlt : p < e) :
    p < xs.length ∧ (nextS (xs.drop p)).2.2 = 0 ∧ nextS ((xs.take e).drop p) = nextS (xs.drop p) ∧ soundG xs 0 = soundG xs (p + (nextS (xs.drop p)).2.1) := by
  have hb := sound_in_all xs xs.length 0 (by omega)
  by_cases hc : p < xs.length ∧ (nextS (xs.drop p)).2.2 = 0
  · have hn := sound_next xs p hc.1 hc.2
    have hi := nextS_in (xs.drop p) hc.2
    have h2 := sound_in_all xs xs.length (p + (nextS (xs.drop p)).2.1) (by omega)
    refine ⟨hc.1, hc.2, ?_, hp.trans hn⟩
    rw [List.drop_take]
    exact nextS_take _ _ hc.2 (by omega)
  · rw [sound_stop xs p hc] at hp
    omega

end Go.Proofs.Ytlhibocacdjleaa
