/-
  oid.May says of any list of numbers whether it is an object identifier (mayS); it writes nothing.
  The document's May says of any list of numbers whether it is an object identifier (mayS); it writes nothing.
  oid.size: how many digits to the base 128 a number has (sizeS); with math/bits.Len, whose text is walked.
-/
import Derived.Test.YtgbbgfjamneioaaDoorYLenToKept3
import Derived.Test.YtgbbgfjamneioaaDoorYMoreIToSize
import Derived.Lib.Tables
namespace Go.Proofs.YtgbbgfjamneioaaDoor
open Go.RowKit Go.IntWalk

/-- Is one arc within its bounds? -/
def arcB (x : Int) : Bool := decide (0 ≤ x) && decide (x ≤ 2147483647)

/-- Is the second arc within its bounds under the first? -/
def pairB (x y : Int) : Bool := if x < 2 then decide (y ≤ 39) else if x = 2 then decide (y ≤ 2147483567) else false

/-- Are these arcs an object identifier? -/
def mayS (xs : List Int) : Bool := decide (2 ≤ xs.length) && decide (xs.length ≤ 20) && xs.all arcB && pairB (xs.getD 0 0) (xs.getD 1 0)

theorem all_next {xs : List Int} (k : Nat) (h : (xs.take k).all arcB = true) (hk : k < xs.length) (hx : arcB (xs.getD k 0) = true) : (xs.take (k + 1)).all arcB = true := by
  rw [List.take_add_one, List.all_append, h]
  rw [List.getD, List.getElem?_eq_getElem hk] at hx
  rw [List.getElem?_eq_getElem hk]
  simpa using hx

theorem all_not {xs : List Int} (k : Nat) (hk : k < xs.length) (hx : arcB (xs.getD k 0) = false) : xs.all arcB = false := by
  rw [List.getD, List.getElem?_eq_getElem hk] at hx
  rw [List.all_eq_false]
  exact ⟨xs[k], List.getElem_mem _, by simpa using hx⟩

theorem mayS_not {xs : List Int} (h : xs.all arcB = false) : mayS xs = false := by unfold mayS; rw [h]; simp

set_option maxRecDepth 100000 in
set_option maxHeartbeats 1000000 in
theorem mayI_any (ao : Option Addr) (n cap : Nat) (xs : List Int) (w : World) (hs : SrcI w ao n cap xs) :
    Calls Tryd.prog 70 #[.slice ao n cap] w fun e w' => e = .returned (.bool (mayS xs)) ∧ Drawn w w' := by
  have HL := hide hs.hlen
  by_cases h2 : n < 2
  · have HV := hide (show mayS xs = false by unfold mayS; rw [HL.out, decide_eq_false (by omega)]; rfl)
    go_enter Tryd.func70, Tryd.ntmps70
    go_wp2
    go_ret
    exact ⟨by rw [HV.out]; rfl, Drawn.refl _⟩
  by_cases h20 : 20 < n
  · have HV := hide (show mayS xs = false by unfold mayS; rw [HL.out, decide_eq_false (show ¬ n ≤ 20 by omega)]; simp)
    obtain ⟨m1, _⟩ := hs.lenI
    have hI : (20 : Int) < (n : Int) := by omega
    go_enter Tryd.func70, Tryd.ntmps70
    go_wp2
    go_ret
    exact ⟨by rw [HV.out]; rfl, Drawn.refl _⟩
  have hI : ¬ (20 : Int) < (n : Int) := by omega
  have hJ : ¬ (n : Int) < (2 : Int) := by omega
  go_enter Tryd.func70, Tryd.ntmps70
  go_wp2
  go_loop [4, 17] (fun _ i => ∃ k : Nat, k ≤ n ∧ i = .int .i64 k ∧ (xs.take k).all arcB = true) (fun _ i => n - (intOf i).toNat)
  case atStart => exact ⟨0, Nat.zero_le _, rfl, by simp⟩
  case round =>
    obtain ⟨k, hk1, rfl, he⟩ := hrel
    have HE := hide he
    clear he
    by_cases hx : k < n
    · obtain ⟨b, o, rfl, e1⟩ := hs.at k hx
      by_cases ha : arcB (xs.getD k 0) = true
      · have HV := hide (all_next k HE.out (by rw [HL.out]; exact hx) ha)
        generalize xs.getD k 0 = x at e1 ha
        unfold arcB at ha
        simp at ha
        obtain ⟨ha1, ha2⟩ := ha
        have hb1 : ¬ x < 0 := by omega
        have hb2 : ¬ 2147483647 < x := by omega
        go_wp2
        go_round
        case rel => exact ⟨k + 1, by omega, by go_num, HV.out⟩
        case measure => simp [intOf]; omega
      · have HV := hide (mayS_not (all_not k (by rw [HL.out]; exact hx) (by simpa using ha)))
        generalize xs.getD k 0 = x at e1 ha
        unfold arcB at ha
        simp at ha
        by_cases hb1 : x < 0
        · clear ha
          go_wp2
          go_ret
          exact ⟨by rw [HV.out]; rfl, Drawn.refl _⟩
        · have hb2 : 2147483647 < x := by have := ha (by omega); omega
          clear ha
          go_wp2
          go_ret
          exact ⟨by rw [HV.out]; rfl, Drawn.refl _⟩
    · obtain ⟨b, o, rfl, e1⟩ := hs.at 0 (by omega)
      obtain ⟨b', o', hbo, e2⟩ := hs.at 1 (by omega)
      simp at hbo
      obtain ⟨rfl, rfl⟩ := hbo
      rw [Nat.add_zero] at e1
      have HV := hide (show mayS xs = pairB (xs.getD 0 0) (xs.getD 1 0) by
        unfold mayS
        have h1 := HE.out
        rw [List.take_of_length_le (by rw [HL.out]; omega)] at h1
        rw [h1, HL.out, decide_eq_true (by omega), decide_eq_true (show n ≤ 20 by omega)]
        rfl)
      generalize xs.getD 0 0 = x at e1 HV
      generalize xs.getD 1 0 = y at e2 HV
      have hn2 : (1 : Int) < (n : Int) := by omega
      have hn1 : (0 : Int) < (n : Int) := by omega
      rcases (show x < 2 ∨ x = 2 ∨ 2 < x by omega) with hx2 | hx2 | hx2
      · have HW := hide (show pairB x y = decide (y ≤ 39) by unfold pairB; rw [if_pos hx2])
        go_wp2_with fail
        go_quiet (fail)
        go_wp2
        go_ret
        exact ⟨by rw [HV.out, HW.out]; rfl, by first | exact Drawn.refl _ | exact (Drawn.refl _).more _⟩
      · have HW := hide (show pairB x y = decide (y ≤ 2147483567) by unfold pairB; rw [if_neg (by omega), if_pos hx2])
        subst hx2
        go_wp2_with fail
        go_quiet (fail)
        go_wp2
        go_ret
        exact ⟨by rw [HV.out, HW.out]; rfl, by first | exact Drawn.refl _ | exact (Drawn.refl _).more _⟩
      · have HW := hide (show pairB x y = false by unfold pairB; rw [if_neg (by omega), if_neg (by omega)])
        have hb : (x == 2) = false := by simp; omega
        have hb' : ¬ x < 2 := by omega
        go_wp2_with fail
        go_quiet (fail)
        go_wp2
        go_ret
        exact ⟨by rw [HV.out, HW.out]; rfl, by first | exact Drawn.refl _ | exact (Drawn.refl _).more _⟩

theorem mayI_12 (w : World) (g : Nat) (hs : SrcI w (some ⟨g, 0, none⟩) 2 2 [1, 2]) : Calls Tryd.prog 70 #[.slice (some ⟨g, 0, none⟩) 2 2] w fun e w' => e = .returned (.bool true) ∧ Drawn w w' :=
  (mayI_any _ _ _ [1, 2] w hs).mono fun _ _ h => h

end Go.Proofs.YtgbbgfjamneioaaDoor

namespace Go.Proofs.YtgbbgfjamneioaaDoor
open Go.RowKit Go.IntWalk

set_option maxRecDepth 100000 in
set_option maxHeartbeats 1000000 in
theorem refMayI_any (ao : Option Addr) (n cap : Nat) (xs : List Int) (w : World) (hs : SrcI w ao n cap xs) :
    Calls Tryd.prog 48 #[.slice ao n cap] w fun e w' => e = .returned (.bool (mayS xs)) ∧ Drawn w w' := by
  have HL := hide hs.hlen
  by_cases h2 : n < 2
  · have HV := hide (show mayS xs = false by unfold mayS; rw [HL.out, decide_eq_false (by omega)]; rfl)
    go_enter Tryd.func48, Tryd.ntmps48
    go_wp2
    go_ret
    exact ⟨by rw [HV.out]; rfl, Drawn.refl _⟩
  by_cases h20 : 20 < n
  · have HV := hide (show mayS xs = false by unfold mayS; rw [HL.out, decide_eq_false (show ¬ n ≤ 20 by omega)]; simp)
    obtain ⟨m1, _⟩ := hs.lenI
    have hI : (20 : Int) < (n : Int) := by omega
    go_enter Tryd.func48, Tryd.ntmps48
    go_wp2
    go_ret
    exact ⟨by rw [HV.out]; rfl, Drawn.refl _⟩
  have hI : ¬ (20 : Int) < (n : Int) := by omega
  have hJ : ¬ (n : Int) < (2 : Int) := by omega
  go_enter Tryd.func48, Tryd.ntmps48
  go_wp2
  go_loopw [3] (fun i wr => ∃ k : Nat, k ≤ n ∧ i = .int .i64 k ∧ (xs.take k).all arcB = true ∧ Drawn w wr) (fun i _ => n - (intOf i).toNat)
  case atStart => exact ⟨0, Nat.zero_le _, rfl, by simp, Drawn.refl _⟩
  case round =>
    obtain ⟨k, hk1, rfl, he, hD⟩ := hrel
    have HE := hide he
    clear he
    have hs := hD.src hs
    by_cases hx : k < n
    · obtain ⟨b, o, rfl, e1⟩ := hs.at k hx
      by_cases ha : arcB (xs.getD k 0) = true
      · have HV := hide (all_next k HE.out (by rw [HL.out]; exact hx) ha)
        generalize xs.getD k 0 = x at e1 ha
        unfold arcB at ha
        simp at ha
        obtain ⟨ha1, ha2⟩ := ha
        have hb1 : decide (x < 0) = false := decide_eq_false (by omega)
        have hb2 : ¬ 2147483647 < x := by omega
        go_wp2_with fail
        try go_quiet (fail)
        go_wp2
        go_roundw
        case rel => exact ⟨k + 1, by omega, by go_num, HV.out, by first | exact hD | exact hD.more _⟩
        case measure => simp [intOf]; omega
      · have HV := hide (mayS_not (all_not k (by rw [HL.out]; exact hx) (by simpa using ha)))
        generalize xs.getD k 0 = x at e1 ha
        unfold arcB at ha
        simp at ha
        by_cases hb1 : x < 0
        · clear ha
          have hb1' : decide (x < 0) = true := decide_eq_true hb1
          go_wp2_with fail
          try go_quiet (fail)
          go_wp2
          go_ret
          exact ⟨by rw [HV.out]; rfl, by first | exact hD | exact hD.more _⟩
        · have hb2 : 2147483647 < x := by have := ha (by omega); omega
          have hb1' : decide (x < 0) = false := decide_eq_false hb1
          clear ha
          go_wp2_with fail
          try go_quiet (fail)
          go_wp2
          go_ret
          exact ⟨by rw [HV.out]; rfl, by first | exact hD | exact hD.more _⟩
    · obtain ⟨b, o, rfl, e1⟩ := hs.at 0 (by omega)
      obtain ⟨b', o', hbo, e2⟩ := hs.at 1 (by omega)
      simp at hbo
      obtain ⟨rfl, rfl⟩ := hbo
      rw [Nat.add_zero] at e1
      have HV := hide (show mayS xs = pairB (xs.getD 0 0) (xs.getD 1 0) by
        unfold mayS
        have h1 := HE.out
        rw [List.take_of_length_le (by rw [HL.out]; omega)] at h1
        rw [h1, HL.out, decide_eq_true (by omega), decide_eq_true (show n ≤ 20 by omega)]
        rfl)
      generalize xs.getD 0 0 = x at e1 HV
      generalize xs.getD 1 0 = y at e2 HV
      have hn2 : (1 : Int) < (n : Int) := by omega
      have hn1 : (0 : Int) < (n : Int) := by omega
      rcases (show x < 2 ∨ x = 2 ∨ 2 < x by omega) with hx2 | hx2 | hx2
      · have HW := hide (show pairB x y = decide (y ≤ 39) by unfold pairB; rw [if_pos hx2])
        have hx3 : ¬ 2 < x := by omega
        go_wp2
        go_ret
        exact ⟨by rw [HV.out, HW.out]; rfl, hD⟩
      · have HW := hide (show pairB x y = decide (y ≤ 2147483567) by unfold pairB; rw [if_neg (by omega), if_pos hx2])
        subst hx2
        go_wp2
        go_ret
        exact ⟨by rw [HV.out, HW.out]; rfl, hD⟩
      · have HW := hide (show pairB x y = false by unfold pairB; rw [if_neg (by omega), if_neg (by omega)])
        go_wp2
        go_ret
        exact ⟨by rw [HV.out, HW.out]; rfl, hD⟩

end Go.Proofs.YtgbbgfjamneioaaDoor

namespace Go.Proofs.YtgbbgfjamneioaaDoor
open Go.RowKit Go.IntWalk

theorem foldO_len : ({ data := (([0, 1, 2, 2, 3, 3, 3, 3, 4, 4, 4, 4, 4, 4, 4, 4, 5, 5, 5, 5, 5, 5, 5, 5, 5, 5, 5, 5, 5, 5, 5, 5, 6, 6, 6, 6, 6, 6, 6, 6, 6, 6, 6, 6, 6, 6, 6, 6, 6, 6, 6, 6, 6, 6, 6, 6, 6, 6, 6, 6, 6, 6, 6, 6].append [7, 7, 7, 7, 7, 7, 7, 7, 7, 7, 7, 7, 7, 7, 7, 7, 7, 7, 7, 7, 7, 7, 7, 7, 7, 7, 7, 7, 7, 7, 7, 7, 7, 7, 7, 7, 7, 7, 7, 7, 7, 7, 7, 7, 7, 7, 7, 7, 7, 7, 7, 7, 7, 7, 7, 7, 7, 7, 7, 7, 7, 7, 7, 7]).append ([8, 8, 8, 8, 8, 8, 8, 8, 8, 8, 8, 8, 8, 8, 8, 8, 8, 8, 8, 8, 8, 8, 8, 8, 8, 8, 8, 8, 8, 8, 8, 8, 8, 8, 8, 8, 8, 8, 8, 8, 8, 8, 8, 8, 8, 8, 8, 8, 8, 8, 8, 8, 8, 8, 8, 8, 8, 8, 8, 8, 8, 8, 8, 8].append [8, 8, 8, 8, 8, 8, 8, 8, 8, 8, 8, 8, 8, 8, 8, 8, 8, 8, 8, 8, 8, 8, 8, 8, 8, 8, 8, 8, 8, 8, 8, 8, 8, 8, 8, 8, 8, 8, 8, 8, 8, 8, 8, 8, 8, 8, 8, 8, 8, 8, 8, 8, 8, 8, 8, 8, 8, 8, 8, 8, 8, 8, 8, 8])).toArray } : ByteArray) = Go.Lib.len8tab := by decide +kernel
attribute [local go_sem ↓] foldO_len

theorem len8_thr : ∀ b : Nat, b < 256 → (1 ≤ Go.Lib.len8 b ↔ 1 ≤ b) ∧ (Go.Lib.len8 b ≤ 4 ↔ b < 16) ∧ (Go.Lib.len8 b ≤ 5 ↔ b < 32) ∧ (Go.Lib.len8 b ≤ 6 ↔ b < 64) ∧ (Go.Lib.len8 b ≤ 7 ↔ b < 128) ∧ 0 ≤ Go.Lib.len8 b ∧ Go.Lib.len8 b ≤ 8 := by decide +kernel

theorem len8_t (x : Int) (h0 : 0 ≤ x) (h1 : x < 256) : (1 ≤ Go.Lib.len8 x ↔ 1 ≤ x) ∧ (Go.Lib.len8 x ≤ 4 ↔ x < 16) ∧ (Go.Lib.len8 x ≤ 5 ↔ x < 32) ∧ (Go.Lib.len8 x ≤ 6 ↔ x < 64) ∧ (Go.Lib.len8 x ≤ 7 ↔ x < 128) ∧ 0 ≤ Go.Lib.len8 x ∧ Go.Lib.len8 x ≤ 8 := by
  obtain ⟨n, rfl⟩ := Int.eq_ofNat_of_zero_le h0
  have := len8_thr n (by omega)
  omega

/-- How many bits a number below 2^32 has. -/
def lenW (n : Int) : Int := if 65536 ≤ n then (if 16777216 ≤ n then 24 + Go.Lib.len8 (n / 65536 / 256) else 16 + Go.Lib.len8 (n / 65536)) else (if 256 ≤ n then 8 + Go.Lib.len8 (n / 256) else Go.Lib.len8 n)

/-- How many digits to the base 128 it has. -/
def sizeS (n : Int) : Int := if n < 128 then 1 else if n < 16384 then 2 else if n < 2097152 then 3 else if n < 268435456 then 4 else 5

theorem sizeO_len (n : Int) (h0 : 0 ≤ n) (h1 : n < 4294967296) : max 1 ((lenW n + 6) / 7) = sizeS n ∧ 0 ≤ lenW n ∧ lenW n ≤ 32 := by
  unfold lenW sizeS
  by_cases h2 : 65536 ≤ n
  · rw [if_pos h2]
    by_cases h3 : 16777216 ≤ n
    · rw [if_pos h3]
      have := len8_t (n / 65536 / 256) (by omega) (by omega)
      split <;> omega
    · rw [if_neg h3]
      have := len8_t (n / 65536) (by omega) (by omega)
      split <;> omega
  · rw [if_neg h2]
    by_cases h3 : 256 ≤ n
    · rw [if_pos h3]
      have := len8_t (n / 256) (by omega) (by omega)
      split <;> omega
    · rw [if_neg h3]
      have := len8_t n h0 (by omega)
      split <;> omega

set_option maxRecDepth 100000 in
set_option maxHeartbeats 1000000 in
theorem len64_any (n : Int) (h0 : 0 ≤ n) (h1 : n < 4294967296) (w : World) :
    Calls Tryd.prog 112 #[.int .u64 n] w fun e w' => e = .returned (.int .i64 (lenW n)) ∧ w' = w := by
  have g0 : ¬ 4294967296 ≤ n := by omega
  by_cases h2 : 65536 ≤ n
  · have d0 : 0 ≤ n / 65536 := by omega
    have d1 : n / 65536 < 65536 := by omega
    by_cases h3 : 16777216 ≤ n
    · have h4 : 256 ≤ n / 65536 := by omega
      have e1 := hide (show lenW n = 24 + Go.Lib.len8 (n / 65536 / 256) by unfold lenW; rw [if_pos h2, if_pos h3])
      have d2 : 0 ≤ n / 65536 / 256 := by omega
      have d3 : n / 65536 / 256 ≤ 255 := by omega
      have d4 := len8_t (n / 65536 / 256) d2 (by omega)
      obtain ⟨_, _, _, _, _, p0, p1⟩ := d4
      go_enter Tryd.func112, Tryd.ntmps112
      go_wp2
      go_ret
      rw [e1.out]
      exact ⟨by first | rfl | (simp; done), rfl⟩
    · have h4 : ¬ 256 ≤ n / 65536 := by omega
      have e1 := hide (show lenW n = 16 + Go.Lib.len8 (n / 65536) by unfold lenW; rw [if_pos h2, if_neg h3])
      have d3 : n / 65536 ≤ 255 := by omega
      have d4 := len8_t (n / 65536) d0 (by omega)
      obtain ⟨_, _, _, _, _, p0, p1⟩ := d4
      go_enter Tryd.func112, Tryd.ntmps112
      go_wp2
      go_ret
      rw [e1.out]
      exact ⟨by first | rfl | (simp; done), rfl⟩
  · by_cases h3 : 256 ≤ n
    · have e1 := hide (show lenW n = 8 + Go.Lib.len8 (n / 256) by unfold lenW; rw [if_neg h2, if_pos h3])
      have d2 : 0 ≤ n / 256 := by omega
      have d3 : n / 256 ≤ 255 := by omega
      have d4 := len8_t (n / 256) d2 (by omega)
      obtain ⟨_, _, _, _, _, p0, p1⟩ := d4
      go_enter Tryd.func112, Tryd.ntmps112
      go_wp2
      go_ret
      rw [e1.out]
      exact ⟨by first | rfl | (simp; done), rfl⟩
    · have e1 := hide (show lenW n = Go.Lib.len8 n by unfold lenW; rw [if_neg h2, if_neg h3])
      have d3 : n ≤ 255 := by omega
      have d4 := len8_t n h0 (by omega)
      obtain ⟨_, _, _, _, _, p0, p1⟩ := d4
      go_enter Tryd.func112, Tryd.ntmps112
      go_wp2
      go_ret
      rw [e1.out]
      exact ⟨by first | rfl | (simp; done), rfl⟩

theorem len_any (n : Int) (h0 : 0 ≤ n) (h1 : n < 4294967296) (w : World) :
    Calls Tryd.prog 101 #[.int .u64 n] w fun e w' => e = .returned (.int .i64 (lenW n)) ∧ w' = w := by
  go_enter Tryd.func101, Tryd.ntmps101
  go_wp2_with (go_at_call 112; refine (len64_any n h0 h1 _).mono ?_; rintro e w1 ⟨rfl, hw⟩; have hw2 := hw.symm; subst hw2)
  go_ret
  exact ⟨rfl, rfl⟩

set_option maxRecDepth 100000 in
set_option maxHeartbeats 1000000 in
theorem osize_any (n : Int) (h0 : 0 ≤ n) (h1 : n < 4294967296) (w : World) :
    Calls Tryd.prog 90 #[.int .i64 n] w fun e w' => e = .returned (.int .i64 (sizeS n)) ∧ w' = w := by
  obtain ⟨e1, e2, e3⟩ := sizeO_len n h0 h1
  have HE := hide e1
  have hq : Int.tdiv (lenW n + 6) 7 = (lenW n + 6) / 7 := Int.tdiv_eq_ediv_of_nonneg (by omega)
  clear e1
  have hu : IntKind.u64.wrap n = n := by rw [IntKind.wrap_u64]; omega
  obtain ⟨L, hL⟩ : ∃ L, lenW n = L := ⟨_, rfl⟩
  rw [hL] at HE e2 e3 hq
  have HL := hide hL
  clear hL
  go_enter Tryd.func90, Tryd.ntmps90
  go_wp2_with (first | (go_at_call 101; refine (len_any n h0 h1 _).mono ?_; rintro e w1 ⟨rfl, hw⟩; have hw2 := hw.symm; subst hw2; rw [HL.out]))
  all_goals (go_ret; rw [← HE.out]; refine ⟨congrArg Ending.returned (congrArg (Value.int IntKind.i64) ?_), rfl⟩; omega)

end Go.Proofs.YtgbbgfjamneioaaDoor
