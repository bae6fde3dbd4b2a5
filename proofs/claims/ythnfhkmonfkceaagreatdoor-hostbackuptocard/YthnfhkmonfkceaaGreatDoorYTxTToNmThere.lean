/-
  What is folded stays as it is folded again, and is not longer; blanks make no difference. No program.
  TextTwice and TextBlanks answer true, and write nothing that was there.
  Rows of attributes; how many at their beginnings are the same; whether one begins with the other. Contracts of name.shared, Begins, Same.
  A name that may be: chancerylaw12.there answers true.
-/
import Derived.Test.YthnfhkmonfkceaaGreatDoorYTxP4ToSize
import Derived.RegionTactic
import Derived.Deep.RegionHeld3
namespace Go.Proofs.YthnfhkmonfkceaaGreatDoor

theorem small_small (b : UInt8) : smallB (smallB b) = smallB b := by
  have h : ∀ n : Fin 256, smallB (smallB (UInt8.ofNat n.val)) = smallB (UInt8.ofNat n.val) := by decide +kernel
  have hb := b.toNat_lt
  have := h ⟨b.toNat, by omega⟩
  simpa using this

theorem small_blank (b : UInt8) (hb : b ≠ 32) : smallB b ≠ 32 := by
  have h : ∀ n : Fin 256, UInt8.ofNat n.val ≠ 32 → smallB (UInt8.ofNat n.val) ≠ 32 := by decide +kernel
  have hl := b.toNat_lt
  have := h ⟨b.toNat, by omega⟩
  simp only [UInt8.ofNat_toNat] at this
  exact this hb

/-- Words with one blank between. -/
def joinB : List (List UInt8) → List UInt8
  | [] => []
  | [u] => u
  | u :: v :: r => u ++ 32 :: joinB (v :: r)

theorem lay_join : ∀ (ws : List (List UInt8)) (acc : List UInt8), 0 < acc.length → (∀ u ∈ ws, 0 < u.length) → lay acc ws = joinB (acc :: ws.map (·.map smallB))
  | [], acc, _, _ => rfl
  | u :: ws, acc, ha, hw => by
    have hu := hw u (by simp)
    rw [lay, lay_join ws _ (by rw [List.length_append, List.length_map]; omega) (fun x hx => hw x (List.mem_cons_of_mem _ hx))]
    unfold gap
    rw [if_neg (by omega)]
    cases ws with
    | nil => simp [joinB]
    | cons v r => simp [joinB]

theorem fold_join (l : List UInt8) : foldL l = joinB ((wordsL l).map (·.map smallB)) := by
  unfold foldL
  have hp := wordsL_pos l
  cases h : wordsL l with
  | nil => rfl
  | cons u ws =>
    rw [h] at hp
    have hu := hp u (by simp)
    rw [lay, lay_join ws _ (by unfold gap; simp; omega) (fun x hx => hp x (List.mem_cons_of_mem _ hx))]
    simp [gap]

/-- No word has a blank. -/
theorem wordsG_noblank : ∀ (r cur : List UInt8), (∀ b ∈ cur, b ≠ 32) → ∀ u ∈ wordsG cur r, ∀ b ∈ u, b ≠ 32
  | [], cur, hc, u, hu => by
    rw [wordsG] at hu
    split at hu
    · cases hu
    · simp at hu; subst hu; exact hc
  | b :: r, cur, hc, u, hu => by
    rw [wordsG] at hu
    split at hu
    · split at hu
      · exact wordsG_noblank r [] (by simp) u hu
      · rcases List.mem_cons.1 hu with rfl | hu
        · exact hc
        · exact wordsG_noblank r [] (by simp) u hu
    · rename_i hb
      refine wordsG_noblank r (cur ++ [b]) ?_ u hu
      intro x hx
      rcases List.mem_append.1 hx with hx | hx
      · exact hc x hx
      · simp at hx; subst hx; exact hb

theorem words_of_join : ∀ (vs : List (List UInt8)), (∀ u ∈ vs, 0 < u.length ∧ ∀ b ∈ u, b ≠ 32) → wordsL (joinB vs) = vs
  | [], _ => rfl
  | [u], h => by
    have hu := h u (by simp)
    have h1 := wordsG_run u [] [] hu.2
    unfold wordsL
    rw [joinB]
    simp only [List.append_nil, List.nil_append] at h1
    rw [h1, wordsG, if_neg (by omega)]
  | u :: v :: r, h => by
    have hu := h u (by simp)
    have ih := words_of_join (v :: r) (fun x hx => h x (List.mem_cons_of_mem _ hx))
    unfold wordsL at ih ⊢
    rw [joinB, wordsG_run u _ [] hu.2, List.nil_append, wordsG, if_pos rfl, if_neg (by omega), ih]

theorem mapped_words (l : List UInt8) : ∀ u ∈ (wordsL l).map (·.map smallB), 0 < u.length ∧ ∀ b ∈ u, b ≠ 32 := by
  intro u hu
  obtain ⟨x, hx, rfl⟩ := List.mem_map.1 hu
  refine ⟨by rw [List.length_map]; exact wordsL_pos l x hx, ?_⟩
  intro b hb
  obtain ⟨y, hy, rfl⟩ := List.mem_map.1 hb
  exact small_blank y (wordsG_noblank l [] (by simp) x hx y hy)

theorem words_of_fold (l : List UInt8) : wordsL (foldL l) = (wordsL l).map (·.map smallB) := by
  rw [fold_join]
  exact words_of_join _ (mapped_words l)

/-- Fold of Fold is Fold. -/
theorem fold_fold (l : List UInt8) : foldL (foldL l) = foldL l := by
  rw [fold_join (foldL l), words_of_fold, fold_join l]
  congr 1
  rw [List.map_map]
  apply List.map_congr_left
  intro u _
  show (u.map smallB).map smallB = u.map smallB
  rw [List.map_map]
  apply List.map_congr_left
  intro b _
  exact small_small b

theorem join_map_len : ∀ vs : List (List UInt8), (joinB (vs.map (·.map smallB))).length = (joinB vs).length
  | [] => rfl
  | [u] => by simp [joinB]
  | u :: v :: r => by
    have ih := join_map_len (v :: r)
    simp only [List.map_cons, joinB, List.length_append, List.length_cons, List.length_map] at ih ⊢
    rw [ih]

theorem join_len : ∀ (r cur : List UInt8), (joinB (wordsG cur r)).length ≤ cur.length + r.length
  | [], cur => by
    rw [wordsG]
    split
    · simp [joinB]
    · simp [joinB]
  | b :: r, cur => by
    rw [wordsG, List.length_cons]
    split
    · have ih := join_len r []
      simp only [List.length_nil, Nat.zero_add] at ih
      split
      · omega
      · cases h : wordsG [] r with
        | nil => simp only [joinB]; omega
        | cons v t =>
          rw [h] at ih
          simp only [joinB, List.length_append, List.length_cons] at ih ⊢
          omega
    · have ih := join_len r (cur ++ [b])
      rw [List.length_append, List.length_singleton] at ih
      omega

theorem fold_len (l : List UInt8) : (foldL l).length ≤ l.length := by
  rw [fold_join, join_map_len]
  have := join_len l []
  simpa [wordsL] using this

/-- Texts with the same words are folded alike. -/
theorem fold_words (a b : List UInt8) (h : wordsL a = wordsL b) : foldL a = foldL b := by rw [fold_join, fold_join, h]

/-- The words of what is joined by a blank. -/
theorem words_cat : ∀ (a b cur : List UInt8), wordsG cur (a ++ 32 :: b) = wordsG cur a ++ wordsL b
  | [], b, cur => by
    simp only [List.nil_append, wordsG, if_true, wordsL]
    split <;> rfl
  | x :: a, b, cur => by
    rw [List.cons_append, wordsG, wordsG]
    split
    · split
      · exact words_cat a b []
      · rw [words_cat a b []]; rfl
    · exact words_cat a b _

theorem words_ahead : ∀ (n : Nat) (l : List UInt8), wordsL (List.replicate n 32 ++ l) = wordsL l
  | 0, l => rfl
  | n + 1, l => by
    have ih := words_ahead n l
    rw [List.replicate_succ, List.cons_append]
    unfold wordsL at ih ⊢
    rw [wordsG, if_pos rfl, if_pos List.length_nil]
    exact ih

theorem words_blanks (n : Nat) : wordsL (List.replicate n 32) = [] := by
  have := words_ahead n []
  rw [List.append_nil] at this
  rw [this]
  rfl

/-- Blanks between. -/
theorem words_between (n : Nat) (a b : List UInt8) : wordsL (a ++ (List.replicate (n + 1) 32 ++ b)) = wordsL (a ++ 32 :: b) := by
  rw [List.replicate_succ, List.cons_append]
  unfold wordsL
  rw [words_cat, words_cat, words_ahead]

/-- Blanks behind. -/
theorem words_behind (n : Nat) (a : List UInt8) : wordsL (a ++ List.replicate (n + 1) 32) = wordsL a := by
  have h := words_between n a []
  rw [List.append_nil] at h
  rw [h]
  unfold wordsL
  rw [words_cat]
  simp [wordsL, wordsG]

end Go.Proofs.YthnfhkmonfkceaaGreatDoor

namespace Go.Proofs.YthnfhkmonfkceaaGreatDoor
open Go.RowKit Go.Shelf Go.IntWalk

theorem foldS_size (s : ByteArray) : (foldS s).size ≤ s.size := by
  have h := fold_len s.data.toList
  rw [size_len] at h
  exact h

theorem foldS_twice (s : ByteArray) : foldS (foldS s) = foldS s := by
  unfold foldS
  rw [fold_fold]

theorem text_eq (A B : ByteArray) : (A.toList == B.toList) = decide (A = B) := by
  by_cases h : A = B
  · subst h; simp
  · rw [decide_eq_false h, beq_eq_false_iff_ne, ByteArray.toList_eq, ByteArray.toList_eq]
    intro e
    exact h (ByteArray.ext (Array.ext' e))

end Go.Proofs.YthnfhkmonfkceaaGreatDoor

namespace Go.Proofs.YthnfhkmonfkceaaGreatDoor
open Go.RowKit Go.IntWalk Go.Shelf

/-- The slice at 'ao', of n attributes, holds these types and values. -/
structure Ats (w : World) (ao : Option Addr) (n cap : Nat) (xs : List (Int × ByteArray)) : Prop where
  hl : xs.length = n
  hcap : n ≤ cap
  hmax : cap ≤ maxLen
  hsz : ∀ x ∈ xs, x.2.size + 1 ≤ 140737488355328
  hrd : 0 < n → ∃ b off, ao = some ⟨b, off, none⟩ ∧ ∀ i, i < n → w.cell? ⟨b, off + i * 2, none⟩ = some (.int .i64 (xs.getD i (0, ByteArray.empty)).1) ∧ w.cell? ⟨b, off + i * 2 + 1, none⟩ = some (.string (xs.getD i (0, ByteArray.empty)).2)

theorem Ats.below {w w' : World} {ao : Option Addr} {n cap : Nat} {xs : List (Int × ByteArray)} (h : Ats w ao n cap xs) (hb : Below w.heap.size w w') : Ats w' ao n cap xs := by
  refine ⟨h.hl, h.hcap, h.hmax, h.hsz, fun hn => ?_⟩
  obtain ⟨b, off, he, hc⟩ := h.hrd hn
  refine ⟨b, off, he, fun i hi => ?_⟩
  obtain ⟨h1, h2⟩ := hc i hi
  have hlt := lt_of_cell h1
  exact ⟨(hb.cell (p := ⟨b, off + i * 2, none⟩) hlt).trans h1, (hb.cell (p := ⟨b, off + i * 2 + 1, none⟩) hlt).trans h2⟩

theorem Ats.heap {w w' : World} {ao : Option Addr} {n cap : Nat} {xs : List (Int × ByteArray)} (h : Ats w ao n cap xs) (hh : w'.heap = w.heap) : Ats w' ao n cap xs := by
  refine ⟨h.hl, h.hcap, h.hmax, h.hsz, fun hn => ?_⟩
  obtain ⟨b, off, he, hc⟩ := h.hrd hn
  refine ⟨b, off, he, fun i hi => ?_⟩
  have e : ∀ p, w'.cell? p = w.cell? p := fun p => by unfold World.cell?; rw [hh]
  rw [e, e]
  exact hc i hi

theorem Ats.take {w : World} {ao : Option Addr} {n cap : Nat} {xs : List (Int × ByteArray)} (h : Ats w ao n cap xs) {k : Nat} (hk : k ≤ n) : Ats w ao k cap (xs.take k) := by
  have hl := h.hl
  refine ⟨by simp; omega, by have := h.hcap; omega, h.hmax, fun x hx => h.hsz x (List.mem_of_mem_take hx), fun hn => ?_⟩
  obtain ⟨b, off, he, hc⟩ := h.hrd (by omega)
  refine ⟨b, off, he, fun i hi => ?_⟩
  have e : (xs.take k).getD i (0, ByteArray.empty) = xs.getD i (0, ByteArray.empty) := by simp [List.getD, hi]
  rw [e]
  exact hc i (by omega)

/-- What two attributes that are the same have in common. -/
def key (x : Int × ByteArray) : Int × ByteArray := (x.1, foldS x.2)
/-- Whether a begins with b. -/
def bg (A B : List (Int × ByteArray)) : Bool := decide (A.take B.length = B)
theorem bg_self (A : List (Int × ByteArray)) : bg A A = true := by unfold bg; simp
theorem bg_take (A : List (Int × ByteArray)) (n : Nat) : bg A (A.take n) = true := by
  unfold bg
  rw [List.length_take, decide_eq_true_eq]
  by_cases h : n ≤ A.length
  · rw [Nat.min_eq_left h]
  · rw [Nat.min_eq_right (by omega), List.take_of_length_le (Nat.le_refl _), List.take_of_length_le (by omega)]
theorem bg_back (A : List (Int × ByteArray)) (n : Nat) (h : n ≤ A.length) : bg (A.take n) A = decide (n = A.length) := by
  unfold bg
  rw [List.take_take, Nat.min_eq_right h]
  congr 1
  refine propext ⟨fun e => ?_, fun e => ?_⟩
  · have := congrArg List.length e
    simp at this
    omega
  · rw [e, List.take_of_length_le (Nat.le_refl _)]
theorem bg_trans {A B C : List (Int × ByteArray)} (h1 : bg A B = true) (h2 : bg B C = true) : bg A C = true := by
  unfold bg at *
  rw [decide_eq_true_eq] at *
  have hl : C.length ≤ B.length := by have := congrArg List.length h2; simp at this; omega
  rw [← h1, List.take_take, Nat.min_eq_left hl] at h2
  exact h2
theorem bg_both (A B : List (Int × ByteArray)) : decide (A = B) = (bg A B && bg B A) := by
  by_cases h : A = B
  · subst h
    rw [bg_self]
    simp
  · rw [decide_eq_false h]
    symm
    rw [Bool.and_eq_false_iff]
    by_cases h1 : bg A B = true
    · right
      rw [Bool.eq_false_iff]
      intro h2
      unfold bg at h1 h2
      rw [decide_eq_true_eq] at h1 h2
      have l1 := congrArg List.length h1
      have l2 := congrArg List.length h2
      simp at l1 l2
      have : A.length = B.length := by omega
      rw [← this, List.take_of_length_le (Nat.le_refl _)] at h1
      exact h h1
    · left
      simpa using h1
theorem sm_len (A B : List (Int × ByteArray)) (h : A.length = B.length) : bg A B = decide (A = B) := by
  unfold bg
  rw [← h, List.take_of_length_le (Nat.le_refl _)]

/-- How many at the beginning are the same. -/
def shN : List (Int × ByteArray) → List (Int × ByteArray) → Nat
  | x :: A, y :: B => if x = y then shN A B + 1 else 0
  | _, _ => 0
theorem shN_at : ∀ (A B : List (Int × ByteArray)) (i : Nat), i ≤ A.length → i ≤ B.length → (∀ j, j < i → A[j]? = B[j]?) → (i = A.length ∨ i = B.length ∨ A[i]? ≠ B[i]?) → shN A B = i
  | [], B, i, h1, _, _, _ => by simp at h1; subst h1; cases B <;> rfl
  | x :: A, [], i, _, h2, _, _ => by simp at h2; subst h2; rfl
  | x :: A, y :: B, 0, _, _, _, h4 => by
    rw [shN, if_neg]
    rintro rfl
    simp at h4
  | x :: A, y :: B, i + 1, h1, h2, h3, h4 => by
    have e := h3 0 (by omega)
    simp at e
    rw [shN, if_pos e, shN_at A B i (by simpa using h1) (by simpa using h2) (fun j hj => by simpa using h3 (j + 1) (by omega)) (by simpa using h4)]
theorem shN_le : ∀ (A B : List (Int × ByteArray)), shN A B ≤ B.length
  | [], B => by cases B <;> simp [shN]
  | x :: A, [] => by simp [shN]
  | x :: A, y :: B => by
    rw [shN]
    have := shN_le A B
    split <;> simp <;> omega
theorem shN_bg : ∀ (A B : List (Int × ByteArray)), decide (shN A B = B.length) = bg A B
  | [], [] => rfl
  | x :: A, [] => rfl
  | [], y :: B => by unfold bg; simp [shN]
  | x :: A, y :: B => by
    have h := shN_bg A B
    unfold bg at *
    rw [shN]
    by_cases e : x = y
    · subst e
      rw [if_pos rfl]
      simpa using h
    · rw [if_neg e]
      simp [e]

theorem getD_mem {xs : List (Int × ByteArray)} {i : Nat} (h : i < xs.length) : xs.getD i (0, ByteArray.empty) ∈ xs := by
  rw [List.getD, List.getElem?_eq_getElem h]
  exact List.getElem_mem _
theorem key_at {xs : List (Int × ByteArray)} {i : Nat} (h : i < xs.length) : (xs.map key)[i]? = some (key (xs.getD i (0, ByteArray.empty))) := by
  simp [h, List.getD]

theorem nbelow (W : World) (o : Obj) : Below W.heap.size W (W.alloc o) := (Below.refl _ _).alloc (Nat.le_refl _) _

end Go.Proofs.YthnfhkmonfkceaaGreatDoor

namespace Go.Proofs.YthnfhkmonfkceaaGreatDoor
open Go.RowKit Go.IntWalk Go.Shelf

theorem may_de (k : Int) (hk : k = 12 ∨ k = 19) : mayL k [68, 69] = true := by
  rcases hk with rfl | rfl <;> decide

theorem great_any (b : Int) (h1 : 65 ≤ b) (h2 : b ≤ 90) (w : World) :
    Calls Tryz.prog 144 #[.int .u8 b] w fun e w' => e = .returned (.bool true) ∧ w' = w := by
  go_enter Tryz.func144, Tryz.ntmps144
  go_wp2
  go_ret
  exact ⟨rfl, rfl⟩

set_option maxRecDepth 100000 in
theorem country_de (w : World) :
    Calls Tryz.prog 132 #[.string ⟨#[68, 69]⟩] w fun e w' => e = .returned (.bool true) ∧ w' = w := by
  go_enter Tryz.func132, Tryz.ntmps132
  go_wp2_with (go_at_call 144; refine (great_any _ (by decide) (by decide) _).mono ?_; rintro e w1 ⟨rfl, hw⟩; have hw2 := hw.symm; subst hw2)
  go_ret
  exact ⟨rfl, rfl⟩

set_option maxRecDepth 100000 in
theorem mayBe_de (w : World) :
    Calls Tryz.prog 111 #[.agg #[.int .i64 6, .string ⟨#[68, 69]⟩]] w fun e w' => e = .returned (.bool true) ∧ Below w.heap.size w w' := by
  have m1 := hide (fun W => may_any 19 ⟨#[68, 69]⟩ (by decide) W)
  have m2 := hide (fun W => may_any 12 ⟨#[68, 69]⟩ (by decide) W)
  have e1 := may_de 19 (.inr rfl)
  have e2 := may_de 12 (.inl rfl)
  have hB := nbelow w (.cells #[.int .i64 6, .string ⟨#[68, 69]⟩] 67)
  go_enter Tryz.func111, Tryz.ntmps111
  go_wp2_with (first
    | (go_at_call 132; refine (country_de _).mono ?_; rintro e w1 ⟨rfl, hw⟩; have hw2 := hw.symm; subst hw2)
    | (go_at_call_of 133 (19 : Int); refine (m1.out _).mono ?_; rintro e w1 ⟨rfl, L1⟩; have c1 := (L1.cell (p := ⟨w.heap.size, 1, none⟩) (by simp)).trans (show (w.alloc (.cells #[.int .i64 6, .string ⟨#[68, 69]⟩] 67)).cell? ⟨w.heap.size, 1, none⟩ = some (.string ⟨#[68, 69]⟩) by simp); replace hB := hB.trans (L1.mono hB.size); rw [e1])
    | (go_at_call_of 133 (12 : Int); refine (m2.out _).mono ?_; rintro e w2 ⟨rfl, L2⟩; replace hB := hB.trans (L2.mono hB.size); rw [e2]))
  go_ret
  exact ⟨rfl, hB⟩

set_option maxRecDepth 100000 in
theorem may_one (w : World) :
    Calls Tryz.prog 87 #[.slice (some ⟨w.heap.size, 0, none⟩) 1 1] (w.alloc (.cells #[.int .i64 6, .string ⟨#[68, 69]⟩] 67)) fun e w' => e = .returned (.bool true) ∧ Below w.heap.size w w' := by
  have hm := hide mayBe_de
  have hB := nbelow w (.cells #[.int .i64 6, .string ⟨#[68, 69]⟩] 67)
  have c0 : (w.alloc (.cells #[.int .i64 6, .string ⟨#[68, 69]⟩] 67)).cell? ⟨w.heap.size, 0, none⟩ = some (.int .i64 6) := by simp
  have c1 : (w.alloc (.cells #[.int .i64 6, .string ⟨#[68, 69]⟩] 67)).cell? ⟨w.heap.size, 1, none⟩ = some (.string ⟨#[68, 69]⟩) := by simp
  generalize (w.alloc (.cells #[.int .i64 6, .string ⟨#[68, 69]⟩] 67)) = W at hB c0 c1 ⊢
  have hs := hB.size
  generalize w.heap.size = g at hB c0 c1 hs ⊢
  go_enter Tryz.func87, Tryz.ntmps87
  go_wp2
  go_loopw [10] (fun v wr => (v = .int .i64 0 ∧ wr = W) ∨ (v = .int .i64 1 ∧ Below W.heap.size W wr)) (fun v _ => 1 - (intOf v).toNat)
  case atStart => exact .inl ⟨rfl, rfl⟩
  case round =>
    rcases hrel with ⟨rfl, rfl⟩ | ⟨rfl, hQ⟩
    · go_wp2_with (go_at_call 111; refine (hm.out _).mono ?_; rintro e w1 ⟨rfl, h1⟩)
      go_roundw
      case rel => exact .inr ⟨rfl, (nbelow _ _).trans (h1.mono (by simp))⟩
      case measure => simp [intOf]
    · go_wp2
      go_ret
      exact ⟨rfl, hB.trans (hQ.mono hs)⟩

end Go.Proofs.YthnfhkmonfkceaaGreatDoor
