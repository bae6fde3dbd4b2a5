/-
  What is read as a time is the content that this time has. Plain.
-/
import Derived.Test.YtnpimjfdidbdfabDoorTakM
namespace Go.Proofs.YtnpimjfdidbdfabDoor
open Go.RowKit

theorem once_23 (xs : List Int) (hf : formB 2 xs = true) (ok : Okc (tkY 23 (numB (seg xs 0 2))) (numB (seg xs 2 4)) (numB (seg xs 4 6)) (numB (seg xs 6 8)) (numB (seg xs 8 10)) (numB (seg xs 10 12))) (hs : ¬ ((23 : Int) = 24 ∧ tkY 23 (numB (seg xs 0 2)) ≤ 2049)) :
    ∃ y m q h i s : Nat, (y : Int) = tkY 23 (numB (seg xs 0 2)) ∧ (m : Int) = numB (seg xs 2 4) ∧ (q : Int) = numB (seg xs 4 6) ∧ (h : Int) = numB (seg xs 6 8) ∧ (i : Int) = numB (seg xs 8 10) ∧ (s : Int) = numB (seg xs 10 12) ∧ conV 2 y m q h i s = xs := by
  obtain ⟨hl, hz, hd⟩ := formB_parts hf
  match xs, hl with
  | [a0, a1, a2, a3, a4, a5, a6, a7, a8, a9, a10, a11, a12], _ =>
    simp only [List.take_succ_cons, List.take_zero, List.mem_cons, List.not_mem_nil, or_false, forall_eq_or_imp, forall_eq] at hd
    simp at hz
    obtain ⟨d0, d1, d2, d3, d4, d5, d6, d7, d8, d9, d10, d11⟩ := hd
    have e0 : numB (seg [a0, a1, a2, a3, a4, a5, a6, a7, a8, a9, a10, a11, a12] 0 2) = 10 * (10 * (0) + (a0 - 48)) + (a1 - 48) := by simp [seg, numB]
    have e1 : numB (seg [a0, a1, a2, a3, a4, a5, a6, a7, a8, a9, a10, a11, a12] 2 4) = 10 * (10 * (0) + (a2 - 48)) + (a3 - 48) := by simp [seg, numB]
    have e2 : numB (seg [a0, a1, a2, a3, a4, a5, a6, a7, a8, a9, a10, a11, a12] 4 6) = 10 * (10 * (0) + (a4 - 48)) + (a5 - 48) := by simp [seg, numB]
    have e3 : numB (seg [a0, a1, a2, a3, a4, a5, a6, a7, a8, a9, a10, a11, a12] 6 8) = 10 * (10 * (0) + (a6 - 48)) + (a7 - 48) := by simp [seg, numB]
    have e4 : numB (seg [a0, a1, a2, a3, a4, a5, a6, a7, a8, a9, a10, a11, a12] 8 10) = 10 * (10 * (0) + (a8 - 48)) + (a9 - 48) := by simp [seg, numB]
    have e5 : numB (seg [a0, a1, a2, a3, a4, a5, a6, a7, a8, a9, a10, a11, a12] 10 12) = 10 * (10 * (0) + (a10 - 48)) + (a11 - 48) := by simp [seg, numB]
    rw [e0, e1, e2, e3, e4, e5, tkY_23] at ok
    rw [e0, tkY_23] at hs
    rw [e0, e1, e2, e3, e4, e5, tkY_23]
    obtain ⟨y1, y2, m1, m2, q1, q2, h1, h2, i1, i2, s1, s2⟩ := ok
    have hY : (full (10 * (10 * (0) + (a0 - 48)) + (a1 - 48)) = 2000 + (10 * (10 * (0) + (a0 - 48)) + (a1 - 48)) ∧ 10 * (10 * (0) + (a0 - 48)) + (a1 - 48) < 50) ∨ (full (10 * (10 * (0) + (a0 - 48)) + (a1 - 48)) = 1900 + (10 * (10 * (0) + (a0 - 48)) + (a1 - 48)) ∧ 50 ≤ 10 * (10 * (0) + (a0 - 48)) + (a1 - 48)) := by
      unfold full
      split
      · exact .inl ⟨rfl, by assumption⟩
      · exact .inr ⟨rfl, by omega⟩
    generalize full (10 * (10 * (0) + (a0 - 48)) + (a1 - 48)) = Y at *
    refine ⟨(Y).toNat, (10 * (10 * 0 + (a2 - 48)) + (a3 - 48)).toNat, (10 * (10 * 0 + (a4 - 48)) + (a5 - 48)).toNat, (10 * (10 * 0 + (a6 - 48)) + (a7 - 48)).toNat, (10 * (10 * 0 + (a8 - 48)) + (a9 - 48)).toNat, (10 * (10 * 0 + (a10 - 48)) + (a11 - 48)).toNat, by omega, by omega, by omega, by omega, by omega, by omega, ?_⟩
    simp only [conV, dg, List.cons_append, List.nil_append, Nat.reducePow, List.cons.injEq, and_true]
    refine ⟨by omega, by omega, by omega, by omega, by omega, by omega, by omega, by omega, by omega, by omega, by omega, by omega, by omega⟩

theorem once_24 (xs : List Int) (hf : formB 4 xs = true) (ok : Okc (tkY 24 (numB (seg xs 0 4))) (numB (seg xs 4 6)) (numB (seg xs 6 8)) (numB (seg xs 8 10)) (numB (seg xs 10 12)) (numB (seg xs 12 14))) (hs : ¬ ((24 : Int) = 24 ∧ tkY 24 (numB (seg xs 0 4)) ≤ 2049)) :
    ∃ y m q h i s : Nat, (y : Int) = tkY 24 (numB (seg xs 0 4)) ∧ (m : Int) = numB (seg xs 4 6) ∧ (q : Int) = numB (seg xs 6 8) ∧ (h : Int) = numB (seg xs 8 10) ∧ (i : Int) = numB (seg xs 10 12) ∧ (s : Int) = numB (seg xs 12 14) ∧ conV 4 y m q h i s = xs := by
  obtain ⟨hl, hz, hd⟩ := formB_parts hf
  match xs, hl with
  | [a0, a1, a2, a3, a4, a5, a6, a7, a8, a9, a10, a11, a12, a13, a14], _ =>
    simp only [List.take_succ_cons, List.take_zero, List.mem_cons, List.not_mem_nil, or_false, forall_eq_or_imp, forall_eq] at hd
    simp at hz
    obtain ⟨d0, d1, d2, d3, d4, d5, d6, d7, d8, d9, d10, d11, d12, d13⟩ := hd
    have e0 : numB (seg [a0, a1, a2, a3, a4, a5, a6, a7, a8, a9, a10, a11, a12, a13, a14] 0 4) = 10 * (10 * (10 * (10 * (0) + (a0 - 48)) + (a1 - 48)) + (a2 - 48)) + (a3 - 48) := by simp [seg, numB]
    have e1 : numB (seg [a0, a1, a2, a3, a4, a5, a6, a7, a8, a9, a10, a11, a12, a13, a14] 4 6) = 10 * (10 * (0) + (a4 - 48)) + (a5 - 48) := by simp [seg, numB]
    have e2 : numB (seg [a0, a1, a2, a3, a4, a5, a6, a7, a8, a9, a10, a11, a12, a13, a14] 6 8) = 10 * (10 * (0) + (a6 - 48)) + (a7 - 48) := by simp [seg, numB]
    have e3 : numB (seg [a0, a1, a2, a3, a4, a5, a6, a7, a8, a9, a10, a11, a12, a13, a14] 8 10) = 10 * (10 * (0) + (a8 - 48)) + (a9 - 48) := by simp [seg, numB]
    have e4 : numB (seg [a0, a1, a2, a3, a4, a5, a6, a7, a8, a9, a10, a11, a12, a13, a14] 10 12) = 10 * (10 * (0) + (a10 - 48)) + (a11 - 48) := by simp [seg, numB]
    have e5 : numB (seg [a0, a1, a2, a3, a4, a5, a6, a7, a8, a9, a10, a11, a12, a13, a14] 12 14) = 10 * (10 * (0) + (a12 - 48)) + (a13 - 48) := by simp [seg, numB]
    rw [e0, e1, e2, e3, e4, e5, tkY_24] at ok
    rw [e0, tkY_24] at hs
    rw [e0, e1, e2, e3, e4, e5, tkY_24]
    obtain ⟨y1, y2, m1, m2, q1, q2, h1, h2, i1, i2, s1, s2⟩ := ok
    refine ⟨((10 * (10 * (10 * (10 * (0) + (a0 - 48)) + (a1 - 48)) + (a2 - 48)) + (a3 - 48))).toNat, (10 * (10 * 0 + (a4 - 48)) + (a5 - 48)).toNat, (10 * (10 * 0 + (a6 - 48)) + (a7 - 48)).toNat, (10 * (10 * 0 + (a8 - 48)) + (a9 - 48)).toNat, (10 * (10 * 0 + (a10 - 48)) + (a11 - 48)).toNat, (10 * (10 * 0 + (a12 - 48)) + (a13 - 48)).toNat, by omega, by omega, by omega, by omega, by omega, by omega, ?_⟩
    simp only [conV, dg, List.cons_append, List.nil_append, Nat.reducePow, List.cons.injEq, and_true]
    refine ⟨by omega, by omega, by omega, by omega, by omega, by omega, by omega, by omega, by omega, by omega, by omega, by omega, by omega, by omega, by omega⟩

theorem civN_of {y m q h i s : Nat} (ok : Okc y m q h i s) : isT (secV y m q h i s) ∧ CivN (secV y m q h i s) y m q h i s := by
  obtain ⟨y1, y2, m1, m2, q1, q2, h1, h2, i1, i2, s1, s2⟩ := ok
  have A : AtDay (dby y + cum y m + q - 1) y m q := ⟨y1, y2, m1, m2, q1, q2, rfl⟩
  have d := A.days
  have e1 : dayOf (secV y m q h i s) = dby y + cum y m + q - 1 := by unfold dayOf secV; omega
  have e2 : secOf (secV y m q h i s) = h * 3600 + i * 60 + s := by unfold secOf secV; omega
  refine ⟨?_, ?_, ?_, ?_, ?_⟩
  · unfold isT secV; omega
  · rw [e1]; exact A
  · rw [e2]; omega
  · rw [e2]; omega
  · rw [e2]; omega

theorem tkV_err {tag v0 v1 v2 v3 v4 v5 : Int} (h : (tkV tag v0 v1 v2 v3 v4 v5).2 ≠ 0) : (tkV tag v0 v1 v2 v3 v4 v5).1 = 0 := by
  by_cases ok : Okc (tkY tag v0) v1 v2 v3 v4 v5
  · by_cases k : tag = 24 ∧ tkY tag v0 ≤ 2049
    · rw [tkV_shape ok k]
    · rw [tkV_ok ok k] at h
      exact absurd rfl h
  · rw [tkV_no ok]

theorem takS_err {tag : Int} {xs : List Int} (h : (takS tag xs).2 ≠ 0) : (takS tag xs).1 = 0 := by
  unfold takS at h ⊢
  by_cases h1 : tag = 23
  · rw [if_pos h1] at h ⊢
    by_cases hf : formB 2 xs = true
    · rw [if_pos hf] at h ⊢; exact tkV_err h
    · rw [if_neg hf]
  · rw [if_neg h1] at h ⊢
    by_cases h2 : tag = 24
    · rw [if_pos h2] at h ⊢
      by_cases hf : formB 4 xs = true
      · rw [if_pos hf] at h ⊢; exact tkV_err h
      · rw [if_neg hf]
    · rw [if_neg h2]

theorem tkV_zero {tag v0 v1 v2 v3 v4 v5 : Int} (h : (tkV tag v0 v1 v2 v3 v4 v5).2 = 0) : Okc (tkY tag v0) v1 v2 v3 v4 v5 ∧ ¬ (tag = 24 ∧ tkY tag v0 ≤ 2049) ∧ (tkV tag v0 v1 v2 v3 v4 v5).1 = secV (tkY tag v0) v1 v2 v3 v4 v5 := by
  by_cases ok : Okc (tkY tag v0) v1 v2 v3 v4 v5
  · by_cases k : tag = 24 ∧ tkY tag v0 ≤ 2049
    · rw [tkV_shape ok k] at h; exact absurd h (by decide)
    · exact ⟨ok, k, by rw [tkV_ok ok k]⟩
  · rw [tkV_no ok] at h; exact absurd h (by decide)

theorem takS_once {tag : Int} {xs : List Int} (h : (takS tag xs).2 = 0) :
    ∃ y m q H i s : Nat, isT (takS tag xs).1 ∧ CivN (takS tag xs).1 y m q H i s ∧ ((tag = 23 ∧ (y : Int) ≤ 2049 ∧ conV 2 y m q H i s = xs) ∨ (tag = 24 ∧ 2049 < (y : Int) ∧ conV 4 y m q H i s = xs)) := by
  unfold takS at h ⊢
  by_cases h1 : tag = 23
  · subst h1
    rw [if_pos rfl] at h ⊢
    by_cases hf : formB 2 xs = true
    · rw [if_pos hf] at h ⊢
      obtain ⟨ok, k, e⟩ := tkV_zero h
      obtain ⟨y, m, q, H, i, s, e0, e1, e2, e3, e4, e5, ec⟩ := once_23 xs hf ok k
      rw [e]
      have hy : (y : Int) ≤ 2049 := by
        obtain ⟨hl, _, hd⟩ := formB_parts hf
        have b := numB_bd 2 (seg xs 0 2) (by unfold seg; simp; omega) (by omega) (seg_dig hd 0 2 (by omega))
        rw [e0, tkY_23]
        unfold full
        simp at b
        split <;> omega
      rw [← e0, ← e1, ← e2, ← e3, ← e4, ← e5] at ok ⊢
      obtain ⟨c1, c2⟩ := civN_of ok
      exact ⟨y, m, q, H, i, s, c1, c2, .inl ⟨rfl, hy, ec⟩⟩
    · rw [if_neg hf] at h; exact absurd h (by decide)
  · rw [if_neg h1] at h ⊢
    by_cases h2 : tag = 24
    · subst h2
      rw [if_pos rfl] at h ⊢
      by_cases hf : formB 4 xs = true
      · rw [if_pos hf] at h ⊢
        obtain ⟨ok, k, e⟩ := tkV_zero h
        obtain ⟨y, m, q, H, i, s, e0, e1, e2, e3, e4, e5, ec⟩ := once_24 xs hf ok k
        rw [e]
        have hy : 2049 < (y : Int) := by rw [e0]; omega
        rw [← e0, ← e1, ← e2, ← e3, ← e4, ← e5] at ok ⊢
        obtain ⟨c1, c2⟩ := civN_of ok
        exact ⟨y, m, q, H, i, s, c1, c2, .inr ⟨rfl, hy, ec⟩⟩
      · rw [if_neg hf] at h; exact absurd h (by decide)
    · rw [if_neg h2] at h; exact absurd h (by decide)

end Go.Proofs.YtnpimjfdidbdfabDoor
