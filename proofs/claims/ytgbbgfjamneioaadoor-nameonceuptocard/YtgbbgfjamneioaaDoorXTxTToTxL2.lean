/-
  What is folded stays as it is folded again, and is not longer; blanks make no difference. No program.
  TextTwice and TextBlanks answer true, and write nothing that was there.
-/
import Derived.Test.YtgbbgfjamneioaaDoorXTxF0ToTxF1
import Derived.Test.YtgbbgfjamneioaaDoorXTxL0ToPut
namespace Go.Proofs.YtgbbgfjamneioaaDoor

theorem small_small (b : UInt8) : smallB (smallB b) = smallB b := by
  have h : ∀ n : Fin 256, smallB (smallB (UInt8.ofNat n.val)) = smallB (UInt8.ofNat n.val) := by decide +kernel
  have hb := b.toNat_lt
  have := h ⟨b.toNat, by omega⟩
  simpa using this

theorem small_blank (b : UInt8) (hb : b ≠ 32) : smallB b ≠ 32 := by
  have h : ∀ n : Fin 256, UInt8.ofNat n.val ≠ 32 → smallB (UInt8.ofNat n.val) ≠ 32 := by decide +kernel
  have hl := b.toNat_lt
  have := h ⟨b.toNat, by omega⟩
  simp only [UInt8.ofNat_toNat] at this
  exact this hb

/-- Words with one blank between. -/
def joinB : List (List UInt8) → List UInt8
  | [] => []
  | [u] => u
  | u :: v :: r => u ++ 32 :: joinB (v :: r)

theorem lay_join : ∀ (ws : List (List UInt8)) (acc : List UInt8), 0 < acc.length → (∀ u ∈ ws, 0 < u.length) → lay acc ws = joinB (acc :: ws.map (·.map smallB))
  | [], acc, _, _ => rfl
  | u :: ws, acc, ha, hw => by
    have hu := hw u (by simp)
    rw [lay, lay_join ws _ (by rw [List.length_append, List.length_map]; omega) (fun x hx => hw x (List.mem_cons_of_mem _ hx))]
    unfold gap
    rw [if_neg (by omega)]
    cases ws with
    | nil => simp [joinB]
    | cons v r => simp [joinB]

theorem fold_join (l : List UInt8) : foldL l = joinB ((wordsL l).map (·.map smallB)) := by
  unfold foldL
  have hp := wordsL_pos l
  cases h : wordsL l with
  | nil => rfl
  | cons u ws =>
    rw [h] at hp
    have hu := hp u (by simp)
    rw [lay, lay_join ws _ (by unfold gap; simp; omega) (fun x hx => hp x (List.mem_cons_of_mem _ hx))]
    simp [gap]

/-- No word has a blank. -/
theorem wordsG_noblank : ∀ (r cur : List UInt8), (∀ b ∈ cur, b ≠ 32) → ∀ u ∈ wordsG cur r, ∀ b ∈ u, b ≠ 32
  | [], cur, hc, u, hu => by
    rw [wordsG] at hu
    split at hu
    · cases hu
    · simp at hu; subst hu; exact hc
  | b :: r, cur, hc, u, hu => by
    rw [wordsG] at hu
    split at hu
    · split at hu
      · exact wordsG_noblank r [] (by simp) u hu
      · rcases List.mem_cons.1 hu with rfl | hu
        · exact hc
        · exact wordsG_noblank r [] (by simp) u hu
    · rename_i hb
      refine wordsG_noblank r (cur ++ [b]) ?_ u hu
      intro x hx
      rcases List.mem_append.1 hx with hx | hx
      · exact hc x hx
      · simp at hx; subst hx; exact hb

theorem words_of_join : ∀ (vs : List (List UInt8)), (∀ u ∈ vs, 0 < u.length ∧ ∀ b ∈ u, b ≠ 32) → wordsL (joinB vs) = vs
  | [], _ => rfl
  | [u], h => by
    have hu := h u (by simp)
    have h1 := wordsG_run u [] [] hu.2
    unfold wordsL
    rw [joinB]
    simp only [List.append_nil, List.nil_append] at h1
    rw [h1, wordsG, if_neg (by omega)]
  | u :: v :: r, h => by
    have hu := h u (by simp)
    have ih := words_of_join (v :: r) (fun x hx => h x (List.mem_cons_of_mem _ hx))
    unfold wordsL at ih ⊢
    rw [joinB, wordsG_run u _ [] hu.2, List.nil_append, wordsG, if_pos rfl, if_neg (by omega), ih]

theorem mapped_words (l : List UInt8) : ∀ u ∈ (wordsL l).map (·.map smallB), 0 < u.length ∧ ∀ b ∈ u, b ≠ 32 := by
  intro u hu
  obtain ⟨x, hx, rfl⟩ := List.mem_map.1 hu
  refine ⟨by rw [List.length_map]; exact wordsL_pos l x hx, ?_⟩
  intro b hb
  obtain ⟨y, hy, rfl⟩ := List.mem_map.1 hb
  exact small_blank y (wordsG_noblank l [] (by simp) x hx y hy)

theorem words_of_fold (l : List UInt8) : wordsL (foldL l) = (wordsL l).map (·.map smallB) := by
  rw [fold_join]
  exact words_of_join _ (mapped_words l)

/-- Fold of Fold is Fold. -/
theorem fold_fold (l : List UInt8) : foldL (foldL l) = foldL l := by
  rw [fold_join (foldL l), words_of_fold, fold_join l]
  congr 1
  rw [List.map_map]
  apply List.map_congr_left
  intro u _
  show (u.map smallB).map smallB = u.map smallB
  rw [List.map_map]
  apply List.map_congr_left
  intro b _
  exact small_small b

theorem join_map_len : ∀ vs : List (List UInt8), (joinB (vs.map (·.map smallB))).length = (joinB vs).length
  | [] => rfl
  | [u] => by simp [joinB]
  | u :: v :: r => by
    have ih := join_map_len (v :: r)
    simp only [List.map_cons, joinB, List.length_append, List.length_cons, List.length_map] at ih ⊢
    rw [ih]

theorem join_len : ∀ (r cur : List UInt8), (joinB (wordsG cur r)).length ≤ cur.length + r.length
  | [], cur => by
    rw [wordsG]
    split
    · simp [joinB]
    · simp [joinB]
  | b :: r, cur => by
    rw [wordsG, List.length_cons]
    split
    · have ih := join_len r []
      simp only [List.length_nil, Nat.zero_add] at ih
      split
      · omega
      · cases h : wordsG [] r with
        | nil => simp only [joinB]; omega
        | cons v t =>
          rw [h] at ih
          simp only [joinB, List.length_append, List.length_cons] at ih ⊢
          omega
    · have ih := join_len r (cur ++ [b])
      rw [List.length_append, List.length_singleton] at ih
      omega

theorem fold_len (l : List UInt8) : (foldL l).length ≤ l.length := by
  rw [fold_join, join_map_len]
  have := join_len l []
  simpa [wordsL] using this

/-- Texts with the same words are folded alike. -/
theorem fold_words (a b : List UInt8) (h : wordsL a = wordsL b) : foldL a = foldL b := by rw [fold_join, fold_join, h]

/-- The words of what is joined by a blank. -/
theorem words_cat : ∀ (a b cur : List UInt8), wordsG cur (a ++ 32 :: b) = wordsG cur a ++ wordsL b
  | [], b, cur => by
    simp only [List.nil_append, wordsG, if_true, wordsL]
    split <;> rfl
  | x :: a, b, cur => by
    rw [List.cons_append, wordsG, wordsG]
    split
    · split
      · exact words_cat a b []
      · rw [words_cat a b []]; rfl
    · exact words_cat a b _

theorem words_ahead : ∀ (n : Nat) (l : List UInt8), wordsL (List.replicate n 32 ++ l) = wordsL l
  | 0, l => rfl
  | n + 1, l => by
    have ih := words_ahead n l
    rw [List.replicate_succ, List.cons_append]
    unfold wordsL at ih ⊢
    rw [wordsG, if_pos rfl, if_pos List.length_nil]
    exact ih

theorem words_blanks (n : Nat) : wordsL (List.replicate n 32) = [] := by
  have := words_ahead n []
  rw [List.append_nil] at this
  rw [this]
  rfl

/-- Blanks between. -/
theorem words_between (n : Nat) (a b : List UInt8) : wordsL (a ++ (List.replicate (n + 1) 32 ++ b)) = wordsL (a ++ 32 :: b) := by
  rw [List.replicate_succ, List.cons_append]
  unfold wordsL
  rw [words_cat, words_cat, words_ahead]

/-- Blanks behind. -/
theorem words_behind (n : Nat) (a : List UInt8) : wordsL (a ++ List.replicate (n + 1) 32) = wordsL a := by
  have h := words_between n a []
  rw [List.append_nil] at h
  rw [h]
  unfold wordsL
  rw [words_cat]
  simp [wordsL, wordsG]

end Go.Proofs.YtgbbgfjamneioaaDoor

namespace Go.Proofs.YtgbbgfjamneioaaDoor
open Go.RowKit Go.Shelf Go.IntWalk

theorem foldS_size (s : ByteArray) : (foldS s).size ≤ s.size := by
  have h := fold_len s.data.toList
  rw [size_len] at h
  exact h

theorem foldS_twice (s : ByteArray) : foldS (foldS s) = foldS s := by
  unfold foldS
  rw [fold_fold]

theorem text_eq (A B : ByteArray) : (A.toList == B.toList) = decide (A = B) := by
  by_cases h : A = B
  · subst h; simp
  · rw [decide_eq_false h, beq_eq_false_iff_ne, ByteArray.toList_eq, ByteArray.toList_eq]
    intro e
    exact h (ByteArray.ext (Array.ext' e))

set_option maxRecDepth 100000 in
theorem same_any (a b : ByteArray) (ha : a.size + 1 ≤ 140737488355328) (hb : b.size + 1 ≤ 140737488355328) (w : World) :
    Calls Tryd.prog 91 #[.string a, .string b] w fun e w' => e = .returned (.bool (decide (foldS a = foldS b))) ∧ Below w.heap.size w w' := by
  have f1 := hide (fun W => fold_any a ha W)
  have f2 := hide (fun W => fold_any b hb W)
  generalize foldS a = A at f1 ⊢
  generalize foldS b = B at f2 ⊢
  have hB := Below.refl w.heap.size w
  go_enter Tryd.func91, Tryd.ntmps91
  go_wp2_with (first
    | (go_at_call_of 102 (Value.string a); refine (f1.out _).mono ?_; rintro e w1 ⟨rfl, h1⟩; replace hB := hB.trans (h1.mono hB.size))
    | (go_at_call_of 102 (Value.string b); refine (f2.out _).mono ?_; rintro e w1 ⟨rfl, h1⟩; replace hB := hB.trans (h1.mono hB.size)))
  go_ret
  refine ⟨?_, hB⟩
  show Ending.returned (Value.bool (A.toList == B.toList)) = _
  rw [text_eq]

end Go.Proofs.YtgbbgfjamneioaaDoor
