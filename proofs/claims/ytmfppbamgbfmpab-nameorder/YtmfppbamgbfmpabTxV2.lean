/-
  The document's character: how many bytes the character has that begins at a place.
-/
import Derived.Test.YtmfppbamgbfmpabTxV1
namespace Go.Proofs.Ytmfppbamgbfmpab
open Go.RowKit Go.IntWalk

theorem bt_one (l : List UInt8) (k : Nat) : bt (l.drop 1) k = bt l (k + 1) := by unfold bt; rw [List.getD_eq_getElem?_getD, List.getD_eq_getElem?_getD, List.getElem?_drop, Nat.add_comm]
theorem ct_one (l : List UInt8) (k : Nat) : ct (l.drop 1) k = ct l (k + 1) := by
  unfold ct
  rw [bt_one, List.length_drop]
  congr 1
  exact decide_eq_decide.2 (by omega)

theorem mores_1 (l : List UInt8) : mores (l.drop 1) 1 = ct l 1 := by unfold mores mores; rw [ct_one]; rfl
theorem mores_2 (l : List UInt8) : mores (l.drop 1) 2 = (ct l 1 && ct l 2) := by unfold mores; rw [mores_1, ct_one]
theorem mores_3 (l : List UInt8) : mores (l.drop 1) 3 = ((ct l 1 && ct l 2) && ct l 3) := by unfold mores; rw [mores_2, ct_one]

/-- A character's number, so far. -/
def vAt (l : List UInt8) (v : Int) : Nat → Int
  | 0 => v
  | k + 1 => 64 * vAt l v k + (bt l (k + 1) : Int) - 128

theorem vAt_in (l : List UInt8) (v : Int) (h0 : 0 ≤ v) (h1 : v ≤ 31) : ∀ (k : Nat), k ≤ 3 → (∀ j, j < k → ct l (j + 1) = true) → 0 ≤ vAt l v k ∧ vAt l v k ≤ 16777215
  | 0, _, _ => by simp [vAt]; omega
  | 1, _, hc => by have a1 := ((ct_iff _ _).1 (hc 0 (by omega))).2; simp only [vAt]; simp only [Nat.zero_add] at *; omega
  | 2, _, hc => by have a1 := ((ct_iff _ _).1 (hc 0 (by omega))).2; have a2 := ((ct_iff _ _).1 (hc 1 (by omega))).2; simp only [vAt]; simp only [Nat.zero_add, Nat.reduceAdd] at *; omega
  | 3, _, hc => by
    have a1 := ((ct_iff _ _).1 (hc 0 (by omega))).2; have a2 := ((ct_iff _ _).1 (hc 1 (by omega))).2; have a3 := ((ct_iff _ _).1 (hc 2 (by omega))).2
    simp only [vAt]; simp only [Nat.zero_add, Nat.reduceAdd] at *; omega
  | k + 4, h, _ => by omega

/-- Is a number none of a character of so many bytes? -/
def noV (least v : Int) : Prop := v < least ∨ 1114111 < v ∨ (55296 ≤ v ∧ v ≤ 57343)

theorem charL_1 (l : List UInt8) (h : bt l 0 < 128) : charL l = 1 := by unfold charL; rw [if_pos h]
theorem charL_0 (l : List UInt8) (h : 128 ≤ bt l 0) (h2 : bt l 0 < 192 ∨ 247 < bt l 0) : charL l = 0 := by
  have := bt_lt l 0
  unfold charL
  rw [if_neg (by omega), if_neg (by omega), if_neg (by omega), if_neg (by omega)]
theorem charL_2 (l : List UInt8) (h : 192 ≤ bt l 0) (h2 : bt l 0 < 224) :
    (ct l 1 = false → charL l = 0) ∧ (ct l 1 = true → (noV 128 (vAt l ((bt l 0 : Int) - 192) 1) → charL l = 0) ∧ (¬ noV 128 (vAt l ((bt l 0 : Int) - 192) 1) → charL l = 2)) := by
  have g1 := bt_lt l 1
  refine ⟨fun hc => ?_, fun hc => ?_⟩
  · unfold charL
    rw [if_neg (by omega), if_neg (by rw [hc]; simp), if_neg (by omega), if_neg (by omega)]
  · have q := ((ct_iff _ _).1 hc).2
    unfold charL noV
    rw [if_neg (by omega), if_pos ⟨by omega, hc⟩]
    simp only [vAt, Nat.zero_add]
    constructor
    · intro h; rw [if_neg (by omega)]
    · intro h; rw [if_pos (by omega)]
theorem charL_3 (l : List UInt8) (h : 224 ≤ bt l 0) (h2 : bt l 0 < 240) :
    (ct l 1 = false ∨ ct l 2 = false → charL l = 0) ∧ (ct l 1 = true → ct l 2 = true → (noV 2048 (vAt l ((bt l 0 : Int) - 224) 2) → charL l = 0) ∧ (¬ noV 2048 (vAt l ((bt l 0 : Int) - 224) 2) → charL l = 3)) := by
  have g1 := bt_lt l 1
  have g2 := bt_lt l 2
  refine ⟨fun hc => ?_, fun hc hd => ?_⟩
  · unfold charL
    rw [if_neg (by omega), if_neg (by omega), if_neg (by rcases hc with hc | hc <;> rw [hc] <;> simp), if_neg (by omega)]
  · have q := ((ct_iff _ _).1 hc).2
    have q2 := ((ct_iff _ _).1 hd).2
    unfold charL noV
    rw [if_neg (by omega), if_neg (by omega), if_pos ⟨by omega, hc, hd⟩]
    simp only [vAt, Nat.zero_add, Nat.reduceAdd]
    constructor
    · intro h; rw [if_neg (by omega)]
    · intro h; rw [if_pos (by omega)]
theorem charL_4 (l : List UInt8) (h : 240 ≤ bt l 0) (h2 : bt l 0 ≤ 247) :
    (ct l 1 = false ∨ ct l 2 = false ∨ ct l 3 = false → charL l = 0) ∧ (ct l 1 = true → ct l 2 = true → ct l 3 = true → (noV 65536 (vAt l ((bt l 0 : Int) - 240) 3) → charL l = 0) ∧ (¬ noV 65536 (vAt l ((bt l 0 : Int) - 240) 3) → charL l = 4)) := by
  have g1 := bt_lt l 1
  have g2 := bt_lt l 2
  have g3 := bt_lt l 3
  refine ⟨fun hc => ?_, fun hc hd he => ?_⟩
  · unfold charL
    rw [if_neg (by omega), if_neg (by omega), if_neg (by omega), if_neg (by rcases hc with hc | hc | hc <;> rw [hc] <;> simp)]
  · have q := ((ct_iff _ _).1 hc).2
    have q2 := ((ct_iff _ _).1 hd).2
    have q3 := ((ct_iff _ _).1 he).2
    unfold charL noV
    rw [if_neg (by omega), if_neg (by omega), if_neg (by omega), if_pos ⟨by omega, hc, hd, he⟩]
    simp only [vAt, Nat.zero_add, Nat.reduceAdd]
    constructor
    · intro h; rw [if_neg (by omega)]
    · intro h; rw [if_pos (by omega)]


end Go.Proofs.Ytmfppbamgbfmpab
