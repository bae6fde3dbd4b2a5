/-
  The document's host: mail addresses.
-/
import Derived.Test.YtpdomfifoplbnaaHoR3
namespace Go.Proofs.Ytpdomfifoplbnaa
open Go.RowKit Go.IntWalk

theorem cutD_at (d : UInt8) : ∀ (l : List UInt8) (k : Nat), (∀ (i : Nat) (h : i < l.length), i < k → l[i]'h ≠ d) → (h : k < l.length) → l[k]'h = d → (cutD d l).1 = l.take k ∧ (cutD d l).2.1 = l.drop (k + 1)
  | c :: r, 0, _, h, e => by
    have e2 : c = d := e
    rw [cutD, if_pos e2]
    simp
  | c :: r, k + 1, hn, h, e => by
    have hc : c ≠ d := hn 0 (by simp) (by omega)
    have ih := cutD_at d r k (fun i hi hik => hn (i + 1) (by simp; omega) (by omega)) (by simpa using h) (by simpa using e)
    rw [cutD, if_neg hc]
    simp [ih.1, ih.2]
theorem cutD_none (d : UInt8) : ∀ (l : List UInt8), (∀ (i : Nat) (h : i < l.length), l[i]'h ≠ d) → (cutD d l).2.1 = []
  | [], _ => rfl
  | c :: r, hn => by
    have hc : c ≠ d := hn 0 (by simp)
    rw [cutD, if_neg hc]
    exact cutD_none d r (fun i hi => hn (i + 1) (by simp; omega))

theorem locS_at (p : Bool) (l : List UInt8) (k : Nat) (h : k < l.length) : locS p (l.drop k) = if l[k]'h = 46 then (!p && locS true (l.drop (k + 1))) else (locN (l[k]'h).toNat && locS false (l.drop (k + 1))) := by
  rw [List.drop_eq_getElem_cons h, locS]

theorem locN_split (n : Nat) : locN n = ((ltN n || digN n) || (decide (n = 95) || (decide (n = 43) || decide (n = 45)))) := by unfold locN; rw [plN_split]
theorem locS_nodot (p q : Bool) : ∀ l : List UInt8, l ≠ [] → (∀ h : 0 < l.length, l[0]'h ≠ 46) → locS p l = locS q l
  | [], h, _ => absurd rfl h
  | c :: r, _, h => by
    have hc : c ≠ 46 := h (by simp)
    rw [locS, locS, if_neg hc, if_neg hc]

/-- Is a local part right: no dot ahead, none behind, no two in a row. -/
theorem locS_last : ∀ (l : List UInt8) (p : Bool), locS p l = true → (h : 0 < l.length) → l[l.length - 1]'(by omega) ≠ 46
  | [c], p, hl, _ => by
    intro e
    have e2 : c = 46 := e
    rw [locS, if_pos e2] at hl
    simp [locS] at hl
  | c :: d :: r, p, hl, _ => by
    have h2 : ∃ q, locS q (d :: r) = true := by
      rw [locS] at hl
      split at hl
      · exact ⟨_, (Bool.and_eq_true _ _ ▸ hl).2⟩
      · exact ⟨_, (Bool.and_eq_true _ _ ▸ hl).2⟩
    obtain ⟨q, hq⟩ := h2
    have ih := locS_last (d :: r) q hq (by simp)
    simpa using ih

end Go.Proofs.Ytpdomfifoplbnaa
