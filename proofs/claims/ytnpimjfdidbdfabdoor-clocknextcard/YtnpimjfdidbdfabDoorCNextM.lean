/-
  The second behind a time has the next place in the calendar: 'next' tells it.
-/
import Derived.Test.YtnpimjfdidbdfabDoorCNext
namespace Go.Proofs.YtnpimjfdidbdfabDoor
open Go.RowKit

theorem civA_eq (y m q R : Int) : civA y m q R = agg6 y m q (R / 3600) (R / 60 % 60) (R % 60) := rfl

theorem agg6_eq {a b c d e f a' b' c' d' e' f' : Int} (h1 : a = a') (h2 : b = b') (h3 : c = c') (h4 : d = d') (h5 : e = e') (h6 : f = f') : agg6 a b c d e f = agg6 a' b' c' d' e' f' := by
  rw [h1, h2, h3, h4, h5, h6]

theorem next_day {d y m q : Int} (h : AtDay d y m q) (h' : d + 1 < 2940202) :
    (q < dim y m ∧ AtDay (d + 1) y m (q + 1)) ∨ (q = dim y m ∧ m < 12 ∧ AtDay (d + 1) y (m + 1) 1) ∨ (q = dim y m ∧ m = 12 ∧ AtDay (d + 1) (y + 1) 1 1) := by
  have e := h.eq
  have c := cum_succ y m h.m1 h.m2
  have s := dby_succ y
  obtain ⟨y1, y2, m1, m2, q1, q2, _⟩ := h
  by_cases hq : q < dim y m
  · exact .inl ⟨hq, y1, y2, m1, m2, by omega, by omega, by omega⟩
  · by_cases hm : m < 12
    · exact .inr (.inl ⟨by omega, hm, y1, y2, by omega, by omega, by omega, by have := dim_in y (m + 1) (by omega) (by omega); omega, by omega⟩)
    · obtain rfl : m = 12 := by omega
      have c13 : cum y (12 + 1) = 365 + lp y := rfl
      have hy : y < 9999 := by
        by_cases hy : y < 9999
        · exact hy
        · obtain rfl : y = 9999 := by omega
          have := dby_10000
          have e1 : dby (9999 + 1) = dby 10000 := rfl
          omega
      refine .inr (.inr ⟨by omega, rfl, by omega, by omega, by omega, by omega, by omega, ?_, ?_⟩)
      · have := dim_in (y + 1) 1 (by omega) (by omega); omega
      · rw [cum_one]; omega

theorem okc_of {d y m q R : Int} (h : AtDay d y m q) (h0 : 0 ≤ R) (h1 : R < 86400) : Okc y m q (R / 3600) (R / 60 % 60) (R % 60) :=
  ⟨h.y1, h.y2, h.m1, h.m2, h.q1, h.q2, by omega, by omega, by omega, by omega, by omega, by omega⟩

theorem next_at (t : Int) (k : isT (t + 1)) (y m q : Int) (ha : AtDay (dayOf t) y m q) (y' m' q' : Int) (hb : AtDay (dayOf (t + 1)) y' m' q') (w : World) (ht : Tab w) :
    Calls Tryd.prog 12 #[civA y m q (secOf t)] w fun e w' => e = .returned (civA y' m' q' (secOf (t + 1))) ∧ Below w.heap.size w w' := by
  have r0 : 0 ≤ secOf t ∧ secOf t < 86400 := by unfold secOf; omega
  have ok := okc_of ha r0.1 r0.2
  rw [civA_eq, civA_eq]
  by_cases hR : secOf t < 86399
  · have e1 : dayOf (t + 1) = dayOf t := by unfold secOf at hR; unfold dayOf; omega
    have e2 : secOf (t + 1) = secOf t + 1 := by unfold secOf at hR ⊢; omega
    rw [e1] at hb
    obtain ⟨rfl, rfl, rfl⟩ := hb.one ha
    rw [e2]
    generalize secOf t = R at *
    by_cases hs : R % 60 < 59
    · refine (next_A _ _ _ _ _ _ ok hs w ht).mono fun e w' ⟨he, hB⟩ => ⟨?_, hB⟩
      rw [he, agg6_eq rfl rfl rfl (show R / 3600 = (R + 1) / 3600 by omega) (show R / 60 % 60 = (R + 1) / 60 % 60 by omega) (show R % 60 + 1 = (R + 1) % 60 by omega)]
    · by_cases hi : R / 60 % 60 < 59
      · refine (next_B _ _ _ _ _ _ ok (by omega) hi w ht).mono fun e w' ⟨he, hB⟩ => ⟨?_, hB⟩
        rw [he, agg6_eq rfl rfl rfl (show R / 3600 = (R + 1) / 3600 by omega) (show R / 60 % 60 + 1 = (R + 1) / 60 % 60 by omega) (show 0 = (R + 1) % 60 by omega)]
      · refine (next_C _ _ _ _ _ _ ok (by omega) (by omega) (by omega) w ht).mono fun e w' ⟨he, hB⟩ => ⟨?_, hB⟩
        rw [he, agg6_eq rfl rfl rfl (show R / 3600 + 1 = (R + 1) / 3600 by omega) (show 0 = (R + 1) / 60 % 60 by omega) (show 0 = (R + 1) % 60 by omega)]
  · have e1 : dayOf (t + 1) = dayOf t + 1 := by unfold secOf at hR; unfold dayOf; omega
    have e2 : secOf (t + 1) = 0 := by unfold secOf at hR ⊢; omega
    have e3 : secOf t = 86399 := by omega
    have hd := (dayOf_in k).2
    rw [e1] at hb hd
    rw [e2, e3]
    rw [e3] at ok
    rcases next_day ha hd with ⟨hq, hn⟩ | ⟨hq, hm, hn⟩ | ⟨hq, hm, hn⟩
    · obtain ⟨rfl, rfl, rfl⟩ := hb.one hn
      exact next_D _ _ _ _ _ _ ok (by decide) (by decide) (by decide) hq w ht
    · obtain ⟨rfl, rfl, rfl⟩ := hb.one hn
      exact next_E _ _ _ _ _ _ ok (by decide) (by decide) (by decide) hq hm w ht
    · obtain ⟨rfl, rfl, rfl⟩ := hb.one hn
      exact next_F _ _ _ _ _ _ ok (by decide) (by decide) (by decide) hq hm w ht

end Go.Proofs.YtnpimjfdidbdfabDoor
