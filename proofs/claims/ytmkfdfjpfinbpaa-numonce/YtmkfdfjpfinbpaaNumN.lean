/-
  The same of natural numbers, truth values, bits and flags. Plain lists and numbers; no program.
-/
import Derived.Test.YtmkfdfjpfinbpaaNumM
import Derived.Test.YtmkfdfjpfinbpaaToFlags
import Derived.Test.YtmkfdfjpfinbpaaFlagM
import Derived.Test.YtmkfdfjpfinbpaaBool
import Derived.Test.YtmkfdfjpfinbpaaNat
import Derived.Test.YtmkfdfjpfinbpaaBits
namespace Go.Proofs.Ytmkfdfjpfinbpaa
open Go.RowKit Go.IntWalk

/- Natural numbers. -/

theorem natS_one (x : Int) (r : List Int) (h0 : x ≠ 0) : natS (x :: r) = if 128 ≤ x then 0 :: x :: r else x :: r := by
  rw [natS_eq]
  unfold bareS
  rw [if_neg h0]
  rfl

theorem nat_once (xs : List Int) (hb : ∀ x ∈ xs, 0 ≤ x ∧ x < 256) (h : toNatE xs = 0) : natS (toNatV xs) = xs ∧ (toNatV xs = [] ∨ (toNatV xs).getD 0 0 ≠ 0) := by
  unfold toNatE at h
  unfold toNatV
  by_cases hi : isIntS xs = true
  · rw [if_pos hi] at h ⊢
    by_cases h1 : 128 ≤ xs.getD 0 0
    · rw [if_pos h1] at h
      omega
    · rw [if_neg h1]
      cases xs with
      | nil => simp [isIntS] at hi
      | cons x r =>
        have hx : (x :: r).getD 0 0 = x := rfl
        rw [hx] at h1 ⊢
        by_cases h2 : x = 0
        · subst h2
          rw [if_pos rfl]
          cases r with
          | nil => exact ⟨rfl, .inl rfl⟩
          | cons y r =>
            have hy := hb y (by simp)
            unfold isIntS idleS at hi
            simp at hi
            show natS (y :: r) = _ ∧ ((y :: r) = [] ∨ y ≠ 0)
            rw [natS_one y r (by omega), if_pos (by omega)]
            exact ⟨rfl, .inr (by omega)⟩
        · rw [if_neg h2, natS_one x r h2, if_neg h1]
          exact ⟨rfl, .inr h2⟩
  · rw [if_neg hi] at h
    omega

theorem natR_int (l : List Int) (hl : l = [] ∨ l.getD 0 0 ≠ 0) (hb : ∀ x ∈ l, 0 ≤ x ∧ x < 256) : isIntS (natR l) = true ∧ ¬ 128 ≤ (natR l).getD 0 0 ∧ toNatV (natR l) = l := by
  cases l with
  | nil => exact ⟨rfl, by decide, rfl⟩
  | cons y r =>
    have h0 : y ≠ 0 := hl.elim (fun h => absurd h (by simp)) (fun h => h)
    show isIntS (if 128 ≤ y then 0 :: y :: r else y :: r) = true ∧ ¬ 128 ≤ (if 128 ≤ y then 0 :: y :: r else y :: r).getD 0 0 ∧ toNatV (if 128 ≤ y then 0 :: y :: r else y :: r) = y :: r
    by_cases h : 128 ≤ y
    · rw [if_pos h]
      have hi : isIntS (0 :: y :: r) = true := by unfold isIntS idleS; simp; omega
      refine ⟨hi, (show ¬ (128 : Int) ≤ 0 by omega), ?_⟩
      unfold toNatV
      rw [if_pos hi]
      rfl
    · rw [if_neg h]
      have hi : isIntS (y :: r) = true := by
        cases r with
        | nil => rfl
        | cons z r => unfold isIntS idleS; simp; omega
      refine ⟨hi, h, ?_⟩
      unfold toNatV
      rw [if_pos hi, if_neg (show ¬ 128 ≤ (y :: r).getD 0 0 from h), if_neg (show ¬ (y :: r).getD 0 0 = 0 from h0)]

theorem bareS_head : ∀ xs : List Int, bareS xs = [] ∨ (bareS xs).getD 0 0 ≠ 0
  | [] => .inl rfl
  | x :: r => by
    unfold bareS
    by_cases h : x = 0
    · rw [if_pos h]; exact bareS_head r
    · rw [if_neg h]; exact .inr h

theorem nat_back (xs : List Int) (hb : ∀ x ∈ xs, 0 ≤ x ∧ x < 256) : toNatE (natS xs) = 0 ∧ toNatV (natS xs) = bareS xs := by
  have h := natR_int (bareS xs) (bareS_head xs) (fun x hx => hb x (bareS_mem xs x hx))
  rw [natS_eq]
  refine ⟨?_, h.2.2⟩
  unfold toNatE
  rw [if_pos h.1, if_neg h.2.1]

theorem bareS_drop : ∀ xs : List Int, bareS xs = xs.drop (xs.length - (bareS xs).length) ∧ ∀ i, i < xs.length - (bareS xs).length → xs.getD i 0 = 0
  | [] => ⟨rfl, by intro i hi; simp at hi⟩
  | x :: r => by
    have ih := bareS_drop r
    have hl := bareS_len r
    unfold bareS
    by_cases h : x = 0
    · rw [if_pos h, List.length_cons, show r.length + 1 - (bareS r).length = (r.length - (bareS r).length) + 1 by omega]
      refine ⟨ih.1, fun i hi => ?_⟩
      cases i with
      | zero => exact h
      | succ i => exact ih.2 i (by omega)
    · rw [if_neg h]
      simp

/- Truth values. -/

theorem bool_once (xs : List Int) (h : toBoolE xs = 0) : boolS (toBoolV xs) = xs := by
  unfold toBoolE at h
  by_cases h1 : xs = [0] ∨ xs = [255]
  · rcases h1 with rfl | rfl <;> rfl
  · rw [if_neg h1] at h
    omega

theorem bool_back (v : Bool) : toBoolE (boolS v) = 0 ∧ toBoolV (boolS v) = v := by cases v <;> exact ⟨by decide, by decide⟩

/- Bits. -/

theorem bits_once (xs : List Int) : (toBitsE xs = 0 ∧ bitsB (toBitsV xs) (toBitsU xs) = true ∧ toBitsU xs :: toBitsV xs = xs) ∨ (toBitsE xs = 20 ∧ toBitsV xs = [] ∧ toBitsU xs = 0) := by
  unfold toBitsE toBitsV toBitsU
  cases xs with
  | nil => exact .inr ⟨rfl, rfl, rfl⟩
  | cons x r =>
    by_cases h : isBS (x :: r) = true
    · left
      rw [if_pos h, if_pos h, if_pos h]
      exact ⟨rfl, h, rfl⟩
    · right
      rw [if_neg h, if_neg h, if_neg h]
      exact ⟨rfl, rfl, rfl⟩

theorem bits_back (xs : List Int) : bitsC xs 0 = 0 :: xs ∧ bitsE xs 0 = 0 ∧ toBitsE (0 :: xs) = 0 ∧ toBitsV (0 :: xs) = xs ∧ toBitsU (0 :: xs) = 0 := by
  have h : bitsB xs 0 = true := by
    unfold bitsB
    by_cases hx : xs = []
    · simp [hx]
    · simp [hx, Int.emod_one]
  have h' : isBS (0 :: xs) = true := h
  refine ⟨by unfold bitsC; rw [if_pos h], by unfold bitsE; rw [if_pos h], ?_, ?_, ?_⟩
  · unfold toBitsE; rw [if_pos h']
  · unfold toBitsV; rw [if_pos h']; rfl
  · unfold toBitsU; rw [if_pos h']; rfl

/- Flags. -/

theorem byte_twice : ∀ a : Nat, a < 256 → Go.Lib.rev8 (Go.Lib.rev8 a) = a := by decide +kernel
theorem byte_ends : ∀ a : Nat, a < 256 → a ≠ 0 → 1 ≤ Go.Lib.len8 a ∧ Go.Lib.rev8 a % ((2 ^ (8 - Go.Lib.len8 a).toNat : Nat) : Int) = 0 ∧ Go.Lib.rev8 a / ((2 ^ (8 - Go.Lib.len8 a).toNat : Nat) : Int) % 2 ≠ 0 := by decide +kernel
theorem byte_once : ∀ p : Nat, p < 256 → ∀ u : Nat, u < 8 → (p : Int) % ((2 ^ u : Nat) : Int) = 0 → (p : Int) / ((2 ^ u : Nat) : Int) % 2 ≠ 0 → Go.Lib.len8 (Go.Lib.rev8 p) = 8 - (u : Int) ∧ 1 ≤ Go.Lib.rev8 p := by decide +kernel

theorem flagsS_low (s : Int) (h0 : 0 < s) (h1 : s < 256) : flagsS s = [8 - Go.Lib.len8 s, Go.Lib.rev8 s] := by
  obtain ⟨n, rfl⟩ := Int.eq_ofNat_of_zero_le (show 0 ≤ s by omega)
  have hl := len8_in (n : Int) (by omega) h1
  have he := (byte_ends n (by omega) (by omega)).1
  have hr := rev8_in (n : Int) (by omega) h1
  have e1 : lenS n = Go.Lib.len8 n := by unfold lenS; rw [if_neg (by omega)]
  have e2 : sizeS n = 1 := by unfold sizeS; rw [e1]; omega
  have e3 : revS n / 256 = Go.Lib.rev8 n := by
    unfold revS
    rw [show (n : Int) % 256 = n by omega, show (n : Int) / 256 = 0 by omega, show Go.Lib.rev8 0 = 0 by decide +kernel]
    omega
  unfold flagsS
  rw [e1, e2, e3]
  simp

theorem flagsS_high (s : Int) (h0 : 256 ≤ s) (h1 : s < 65536) : flagsS s = [8 - Go.Lib.len8 (s / 256), Go.Lib.rev8 (s % 256), Go.Lib.rev8 (s / 256)] := by
  obtain ⟨n, hn⟩ := Int.eq_ofNat_of_zero_le (show 0 ≤ s / 256 by omega)
  have hl := len8_in (s / 256) (by omega) (by omega)
  have he := (byte_ends n (by omega) (by omega)).1
  rw [← hn] at he
  have hr := rev8_in (s / 256) (by omega) (by omega)
  have hr' := rev8_in (s % 256) (by omega) (by omega)
  have e1 : lenS s = 8 + Go.Lib.len8 (s / 256) := by unfold lenS; rw [if_pos h0]
  have e2 : sizeS s = 2 := by unfold sizeS; rw [e1]; omega
  have e3 : revS s / 256 = Go.Lib.rev8 (s % 256) := by unfold revS; omega
  have e4 : revS s % 256 = Go.Lib.rev8 (s / 256) := by unfold revS; omega
  unfold flagsS
  rw [e1, e2, e3, e4]
  simp
  omega

theorem read_one (u p : Int) (h0 : 0 ≤ u) (h7 : u ≤ 7) (h1 : p % ((2 ^ u.toNat : Nat) : Int) = 0) (h2 : p / ((2 ^ u.toNat : Nat) : Int) % 2 ≠ 0) : toFlagsE [u, p] = 0 ∧ toFlagsV [u, p] = revS (p * 256) := by
  have hb : isBS [u, p] = true := by
    show bitsB [p] u = true
    unfold bitsB
    simp only [List.getD, List.length_singleton, Nat.sub_self, List.getElem?_cons_zero, Option.getD_some]
    rw [h1]
    simp [h0, h7]
  have he : endsB (List.drop 1 [u, p]) (([u, p] : List Int).getD 0 0) = false := by
    show endsB [p] u = false
    unfold endsB
    simp only [List.getD, List.length_singleton, Nat.sub_self, List.getElem?_cons_zero, Option.getD_some]
    simp only [h2, decide_false, Bool.and_false]
  have := toFlags_ok [u, p] hb he (by simp)
  refine ⟨this.1, ?_⟩
  rw [this.2]
  show revS (p * 256 + 0) = _
  rw [Int.add_zero]

theorem read_two (u p q : Int) (h0 : 0 ≤ u) (h7 : u ≤ 7) (h1 : q % ((2 ^ u.toNat : Nat) : Int) = 0) (h2 : q / ((2 ^ u.toNat : Nat) : Int) % 2 ≠ 0) : toFlagsE [u, p, q] = 0 ∧ toFlagsV [u, p, q] = revS (p * 256 + q) := by
  have hb : isBS [u, p, q] = true := by
    show bitsB [p, q] u = true
    unfold bitsB
    rw [if_neg (by simp), show ([p, q] : List Int).getD (([p, q] : List Int).length - 1) 0 = q from rfl, h1]
    simp [h0, h7]
  have he : endsB (List.drop 1 [u, p, q]) (([u, p, q] : List Int).getD 0 0) = false := by
    show endsB [p, q] u = false
    unfold endsB
    rw [show ([p, q] : List Int).getD (([p, q] : List Int).length - 1) 0 = q from rfl]
    simp only [h2, decide_false, Bool.and_false]
  exact toFlags_ok [u, p, q] hb he (by simp)

theorem revS_low (p : Int) : revS (p * 256) = Go.Lib.rev8 p := by
  unfold revS
  rw [show p * 256 % 256 = 0 by omega, show p * 256 / 256 = p by omega, show Go.Lib.rev8 0 = 0 by decide +kernel]
  omega

theorem revS_two (p q : Int) (h2 : 0 ≤ q) (h3 : q < 256) : revS (p * 256 + q) = Go.Lib.rev8 q * 256 + Go.Lib.rev8 p := by
  unfold revS
  rw [show (p * 256 + q) % 256 = q by omega, show (p * 256 + q) / 256 = p by omega]

theorem rev_twice (x : Int) (h0 : 0 ≤ x) (h1 : x < 256) : Go.Lib.rev8 (Go.Lib.rev8 x) = x := by
  obtain ⟨n, rfl⟩ := Int.eq_ofNat_of_zero_le h0
  exact byte_twice n (by omega)

theorem flags_back (s : Int) (h0 : 0 ≤ s) (h1 : s < 65536) : toFlagsE (flagsS s) = 0 ∧ toFlagsV (flagsS s) = s := by
  by_cases hz : s = 0
  · subst hz
    have e : flagsS 0 = [0] := by decide +kernel
    rw [e]
    exact ⟨by decide +kernel, by decide +kernel⟩
  · by_cases hl : s < 256
    · obtain ⟨n, rfl⟩ := Int.eq_ofNat_of_zero_le h0
      have hb := byte_ends n (by omega) (by omega)
      have hl8 := len8_in (n : Int) (by omega) hl
      have hr := rev8_in (n : Int) (by omega) hl
      rw [flagsS_low n (by omega) hl]
      have := read_one (8 - Go.Lib.len8 n) (Go.Lib.rev8 n) (by omega) (by omega) hb.2.1 hb.2.2
      refine ⟨this.1, ?_⟩
      rw [this.2, revS_low _, byte_twice n (by omega)]
    · have hr := rev8_in (s / 256) (by omega) (by omega)
      have hr' := rev8_in (s % 256) (by omega) (by omega)
      have hl8 := len8_in (s / 256) (by omega) (by omega)
      obtain ⟨n, hn⟩ := Int.eq_ofNat_of_zero_le (show 0 ≤ s / 256 by omega)
      have hb := byte_ends n (by omega) (by omega)
      rw [← hn] at hb
      rw [flagsS_high s (by omega) h1]
      have := read_two (8 - Go.Lib.len8 (s / 256)) (Go.Lib.rev8 (s % 256)) (Go.Lib.rev8 (s / 256)) (by omega) (by omega) hb.2.1 hb.2.2
      refine ⟨this.1, ?_⟩
      rw [this.2, revS_two _ _ hr.1 (by omega), rev_twice (s / 256) (by omega) (by omega), rev_twice (s % 256) (by omega) (by omega)]
      omega

theorem flags_once (xs : List Int) (hb : ∀ x ∈ xs, 0 ≤ x ∧ x < 256) (h : toFlagsE xs = 0) : flagsS (toFlagsV xs) = xs ∧ 0 ≤ toFlagsV xs ∧ toFlagsV xs < 65536 := by
  have h' := h
  unfold toFlagsE at h'
  by_cases hg : (isBS xs && !endsB (xs.drop 1) (xs.getD 0 0)) = true
  · rw [if_pos hg] at h'
    by_cases h3 : 3 < xs.length
    · rw [if_pos h3] at h'
      omega
    · simp only [Bool.and_eq_true, Bool.not_eq_true'] at hg
      obtain ⟨hi, he⟩ := hg
      match xs, hb, h, hi, he, h3 with
      | [], _, _, hi, _, _ => simp [isBS] at hi
      | [u], _, _, hi, _, _ =>
        have : u = 0 := by
          have h2 : bitsB [] u = true := hi
          unfold bitsB at h2
          simp at h2
          omega
        subst this
        exact ⟨by decide +kernel, by decide +kernel, by decide +kernel⟩
      | [u, p], hb, _, hi, he, _ =>
        have hu := bits_in [p] u hi
        have hp := hb p (by simp)
        have h1 : p % ((2 ^ u.toNat : Nat) : Int) = 0 := by
          have h2 : bitsB [p] u = true := hi
          unfold bitsB at h2
          rw [if_neg (by simp)] at h2
          simp only [Bool.and_eq_true, decide_eq_true_eq] at h2
          exact h2.2
        have h2 : p / ((2 ^ u.toNat : Nat) : Int) % 2 ≠ 0 := by
          have h3 : endsB [p] u = false := he
          unfold endsB at h3
          simp only [List.cons_ne_nil, decide_false, Bool.not_false, Bool.true_and, decide_eq_false_iff_not] at h3
          exact h3
        obtain ⟨P, rfl⟩ := Int.eq_ofNat_of_zero_le hp.1
        obtain ⟨U, rfl⟩ := Int.eq_ofNat_of_zero_le hu.1
        have hr := rev8_in (P : Int) hp.1 hp.2
        have hc := byte_once P (by omega) U (by omega) h1 h2
        have hv := read_one U P hu.1 hu.2 h1 h2
        rw [hv.2, revS_low P]
        refine ⟨?_, hr.1, by omega⟩
        rw [flagsS_low _ (by omega) (by omega), hc.1, byte_twice P (by omega)]
        congr 1
        omega
      | [u, p, q], hb, _, hi, he, _ =>
        have hu := bits_in [p, q] u hi
        have hp := hb p (by simp)
        have hq := hb q (by simp)
        have h1 : q % ((2 ^ u.toNat : Nat) : Int) = 0 := by
          have h2 : bitsB [p, q] u = true := hi
          unfold bitsB at h2
          rw [if_neg (by simp)] at h2
          simp only [Bool.and_eq_true, decide_eq_true_eq] at h2
          exact h2.2
        have h2 : q / ((2 ^ u.toNat : Nat) : Int) % 2 ≠ 0 := by
          have h3 : endsB [p, q] u = false := he
          unfold endsB at h3
          simp only [List.cons_ne_nil, decide_false, Bool.not_false, Bool.true_and, decide_eq_false_iff_not] at h3
          exact h3
        obtain ⟨Q, rfl⟩ := Int.eq_ofNat_of_zero_le hq.1
        obtain ⟨U, rfl⟩ := Int.eq_ofNat_of_zero_le hu.1
        have hr := rev8_in (Q : Int) hq.1 hq.2
        have hr' := rev8_in p hp.1 hp.2
        have hc := byte_once Q (by omega) U (by omega) h1 h2
        have hv := read_two U p Q hu.1 hu.2 h1 h2
        rw [hv.2, revS_two p Q hq.1 hq.2]
        refine ⟨?_, by omega, by omega⟩
        rw [flagsS_high _ (by omega) (by omega), show (Go.Lib.rev8 Q * 256 + Go.Lib.rev8 p) / 256 = Go.Lib.rev8 Q by omega, show (Go.Lib.rev8 Q * 256 + Go.Lib.rev8 p) % 256 = Go.Lib.rev8 p by omega, hc.1, byte_twice Q (by omega), rev_twice p hp.1 hp.2]
        congr 1
        omega
      | _ :: _ :: _ :: _ :: _, _, _, _, _, h3 => exact absurd h3 (by simp)
  · rw [if_neg hg] at h'
    omega

end Go.Proofs.Ytmkfdfjpfinbpaa
