/-
  The document's Take.
-/
import Derived.Test.YtnpimjfdidbdfaaDoorRNum4
import Derived.Test.YtnpimjfdidbdfaaDoorCTake
import Derived.Test.YtnpimjfdidbdfaaDoorSecWalk
namespace Go.Proofs.YtnpimjfdidbdfaaDoor
open Go.RowKit


set_option maxRecDepth 100000 in
set_option maxHeartbeats 8000000 in
theorem refTake_23 (xs : List Int) (hb : ∀ x ∈ xs, 0 ≤ x ∧ x < 256) (hm : xs.length ≤ 140737488355328) (w : World) :
    Calls Tryd.prog 26 #[.int .i64 23, .string (strOfNums xs)] w fun e w' => e = .returned (.tuple #[.int .i64 (takS 23 xs).1, .int .i64 (takS 23 xs).2]) ∧ Below w.heap.size w w' := by
  have E : Hid (takS 23 xs = if formB 2 xs then tkV 23 (numB (seg xs 0 2)) (numB (seg xs 2 4)) (numB (seg xs 4 6)) (numB (seg xs 6 8)) (numB (seg xs 8 10)) (numB (seg xs 10 12)) else (0, 20)) := by unfold Hid takS; simp
  have AT := hide (fun i hi => str_at xs hb i hi)
  have SZ := hide (strOfNums_size xs)
  have NN : Hid (formB 2 xs = true → ∀ a k, a + k ≤ 12 → k ≤ 4 → ∀ W, Calls Tryd.prog 42 #[.string (strOfNums xs), .int .i64 ((a : Nat) : Int), .int .i64 ((k : Nat) : Int)] W fun e w' => e = .returned (.int .i64 (numB (seg xs a (a + k)))) ∧ w' = W) := by
    intro hf a k hak hk W
    obtain ⟨hl, _, hd⟩ := formB_parts hf
    exact refNumber_any xs a k hb (by omega) hk (by omega) (seg_dig hd a (a + k) (by omega)) W
  have BD : Hid (formB 2 xs = true → ∀ a k, a + k ≤ 12 → k ≤ 4 → 0 ≤ numB (seg xs a (a + k)) ∧ numB (seg xs a (a + k)) ≤ 9999) := by
    intro hf a k hak hk
    obtain ⟨hl, _, hd⟩ := formB_parts hf
    exact numB_4 _ (by unfold seg; simp; omega) (seg_dig hd a (a + k) (by omega))
  clear hb
  generalize takS 23 xs = R at *
  generalize strOfNums xs = SX at *
  by_cases hn : xs.length = 13
  · have HN := hide hn
    have hz : SX.size = 13 := by rw [SZ.out, hn]
    have hzI : ((SX.size : Int) != 13) = false := by rw [hz]; rfl
    have hatz := AT.out 12 (by omega)
    by_cases h90 : xs.getD 12 0 = 90
    · have H90 := hide h90
      rw [h90] at hatz
      clear h90 hn
      go_enter Tryd.func26, Tryd.ntmps26
      go_wp2
      clear hatz
      go_loop [7] (fun i => ∃ I : Nat, I ≤ 12 ∧ i = .int .i64 I ∧ Hid (∀ J, J < I → 48 ≤ xs.getD J 0 ∧ xs.getD J 0 ≤ 57)) (fun i => 12 - (intOf i).toNat)
      case atStart => exact ⟨0, Nat.zero_le _, rfl, fun J hJ => absurd hJ (by omega)⟩
      case round =>
        obtain ⟨I, hI, rfl, hA⟩ := hrel
        by_cases hlt : I < 12
        · have hsz : I < SX.size := by omega
          have hat := AT.out I hsz
          have kI : (I : Int) < 12 := by omega
          have kS : (I : Int) < (SX.size : Int) := by omega
          by_cases hd : 48 ≤ xs.getD I 0 ∧ xs.getD I 0 ≤ 57
          · have hnx : Hid (∀ J, J < I + 1 → 48 ≤ xs.getD J 0 ∧ xs.getD J 0 ≤ 57) := by
              intro J hJ
              by_cases e : J = I
              · rw [e]; exact hd
              · exact hA.out J (by omega)
            generalize xs.getD I 0 = x at hat hd
            have k1 : ¬ x < 48 := by omega
            have k2 : ¬ 57 < x := by omega
            go_wp2
            go_round
            case rel => exact ⟨I + 1, by omega, by go_num, hnx⟩
            case measure => simp [intOf]; omega
          · have hf := hide (formB_no3 (k := 2) I hlt HN.out hd)
            rw [hf.out] at E
            generalize xs.getD I 0 = x at hat hd
            by_cases k1 : x < 48
            · go_wp2
              go_ret2
              rw [E.out]
              exact ⟨rfl, Below.refl _ _⟩
            · have k2 : 57 < x := by omega
              have k3 : decide (x < 48) = false := by simpa using k1
              go_wp2
              go_ret2
              rw [E.out]
              exact ⟨rfl, Below.refl _ _⟩
        · have kI : ¬ (I : Int) < 12 := by omega
          have hf := hide (formB_yes (k := 2) HN.out H90.out (fun J hJ => hA.out J (by omega)))
          rw [hf.out, if_pos rfl] at E
          have N0 : Hid (∀ W, Calls Tryd.prog 42 #[.string SX, .int .i64 0, .int .i64 2] W fun e w' => e = .returned (.int .i64 (numB (seg xs 0 2))) ∧ w' = W) := fun W => NN.out hf.out 0 2 (by omega) (by omega) W
          have b0 : 0 ≤ numB (seg xs 0 2) ∧ numB (seg xs 0 2) ≤ 9999 := BD.out hf.out 0 2 (by omega) (by omega)
          have N1 : Hid (∀ W, Calls Tryd.prog 42 #[.string SX, .int .i64 2, .int .i64 2] W fun e w' => e = .returned (.int .i64 (numB (seg xs 2 4))) ∧ w' = W) := fun W => NN.out hf.out 2 2 (by omega) (by omega) W
          have N2 : Hid (∀ W, Calls Tryd.prog 42 #[.string SX, .int .i64 4, .int .i64 2] W fun e w' => e = .returned (.int .i64 (numB (seg xs 4 6))) ∧ w' = W) := fun W => NN.out hf.out 4 2 (by omega) (by omega) W
          have N3 : Hid (∀ W, Calls Tryd.prog 42 #[.string SX, .int .i64 6, .int .i64 2] W fun e w' => e = .returned (.int .i64 (numB (seg xs 6 8))) ∧ w' = W) := fun W => NN.out hf.out 6 2 (by omega) (by omega) W
          have N4 : Hid (∀ W, Calls Tryd.prog 42 #[.string SX, .int .i64 8, .int .i64 2] W fun e w' => e = .returned (.int .i64 (numB (seg xs 8 10))) ∧ w' = W) := fun W => NN.out hf.out 8 2 (by omega) (by omega) W
          have N5 : Hid (∀ W, Calls Tryd.prog 42 #[.string SX, .int .i64 10, .int .i64 2] W fun e w' => e = .returned (.int .i64 (numB (seg xs 10 12))) ∧ w' = W) := fun W => NN.out hf.out 10 2 (by omega) (by omega) W
          have b0' : numB (seg xs 0 2) < 100 ∨ True := .inr trivial
          clear b0'
          generalize numB (seg xs 0 2) = v0 at *
          generalize numB (seg xs 2 4) = v1 at *
          generalize numB (seg xs 4 6) = v2 at *
          generalize numB (seg xs 6 8) = v3 at *
          generalize numB (seg xs 8 10) = v4 at *
          generalize numB (seg xs 10 12) = v5 at *
          clear hA hI NN BD hf
          have S1 : Hid (∀ W, Calls Tryd.prog 19 #[agg6 (full v0) v1 v2 v3 v4 v5] W fun e w' => ∃ sv se, e = .returned (.tuple #[.int .i64 sv, .int .i64 se]) ∧ ((se = 0 ∧ Hid (Okc (full v0) v1 v2 v3 v4 v5) ∧ sv = secV (full v0) v1 v2 v3 v4 v5) ∨ (se = 40 ∧ Hid (¬ Okc (full v0) v1 v2 v3 v4 v5) ∧ sv = 0)) ∧ Below W.heap.size W w') := by
            intro W
            by_cases ok : Okc (full v0) v1 v2 v3 v4 v5
            · exact (refSeconds_ok _ _ _ _ _ _ ok W).mono fun e w' ⟨h1, h2⟩ => ⟨_, _, h1, .inl ⟨rfl, ok, (sec_same ..).symm⟩, h2⟩
            · exact (refSeconds_no _ _ _ _ _ _ ok W).mono fun e w' ⟨h1, h2⟩ => ⟨_, _, h1, .inr ⟨rfl, ok, rfl⟩, h2⟩
          unfold agg6 at S1
          by_cases h50 : v0 < 50
          · have ef : full v0 = 1900 + v0 + 100 := by unfold full; rw [if_pos h50]; omega
            have ef2 : full v0 = v0 + 1900 + 100 := by omega
            clear ef
            rw [ef2] at S1
            have EF := hide ef2
            clear ef2
            go_wp2_with (first | (go_at_call_of 42 (Value.int .i64 10); refine (N5.out _).mono ?_; rintro e w6 ⟨rfl, rfl⟩) | (go_at_call_of 42 (Value.int .i64 8); refine (N4.out _).mono ?_; rintro e w5 ⟨rfl, rfl⟩) | (go_at_call_of 42 (Value.int .i64 6); refine (N3.out _).mono ?_; rintro e w4 ⟨rfl, rfl⟩) | (go_at_call_of 42 (Value.int .i64 4); refine (N2.out _).mono ?_; rintro e w3 ⟨rfl, rfl⟩) | (go_at_call_of 42 (Value.int .i64 0); refine (N0.out _).mono ?_; rintro e w1 ⟨rfl, rfl⟩) | (go_at_call_of 42 (Value.int .i64 2); refine (N1.out _).mono ?_; rintro e w2 ⟨rfl, rfl⟩) | fail)
            refine (S1.out _).mono ?_
            rintro e w9 ⟨sv, se, rfl, hc, B9⟩
            have HB := hide B9
            clear B9
            rcases hc with ⟨rfl, ok, rfl⟩ | ⟨rfl, no, rfl⟩
            · have E2 := hide (tkV_ok (tag := 23) (v0 := v0) (by rw [tkY_23, EF.out]; exact ok.out) (by omega))
              go_wp2
              go_ret2
              rw [E.out, E2.out, tkY_23, EF.out]
              exact ⟨rfl, HB.out⟩
            · have E2 := hide (tkV_no (tag := 23) (v0 := v0) (by rw [tkY_23, EF.out]; exact no.out))
              go_wp2
              go_ret2
              rw [E.out, E2.out]
              exact ⟨rfl, HB.out⟩
          · have ef2 : full v0 = v0 + 1900 := by unfold full; rw [if_neg h50]; omega
            rw [ef2] at S1
            have EF := hide ef2
            clear ef2
            go_wp2_with (first | (go_at_call_of 42 (Value.int .i64 10); refine (N5.out _).mono ?_; rintro e w6 ⟨rfl, rfl⟩) | (go_at_call_of 42 (Value.int .i64 8); refine (N4.out _).mono ?_; rintro e w5 ⟨rfl, rfl⟩) | (go_at_call_of 42 (Value.int .i64 6); refine (N3.out _).mono ?_; rintro e w4 ⟨rfl, rfl⟩) | (go_at_call_of 42 (Value.int .i64 4); refine (N2.out _).mono ?_; rintro e w3 ⟨rfl, rfl⟩) | (go_at_call_of 42 (Value.int .i64 0); refine (N0.out _).mono ?_; rintro e w1 ⟨rfl, rfl⟩) | (go_at_call_of 42 (Value.int .i64 2); refine (N1.out _).mono ?_; rintro e w2 ⟨rfl, rfl⟩) | fail)
            refine (S1.out _).mono ?_
            rintro e w9 ⟨sv, se, rfl, hc, B9⟩
            have HB := hide B9
            clear B9
            rcases hc with ⟨rfl, ok, rfl⟩ | ⟨rfl, no, rfl⟩
            · have E2 := hide (tkV_ok (tag := 23) (v0 := v0) (by rw [tkY_23, EF.out]; exact ok.out) (by omega))
              go_wp2
              go_ret2
              rw [E.out, E2.out, tkY_23, EF.out]
              exact ⟨rfl, HB.out⟩
            · have E2 := hide (tkV_no (tag := 23) (v0 := v0) (by rw [tkY_23, EF.out]; exact no.out))
              go_wp2
              go_ret2
              rw [E.out, E2.out]
              exact ⟨rfl, HB.out⟩
    · have hf := hide (formB_no2 (k := 2) h90)
      rw [hf.out] at E
      have hne : ((xs.getD 12 0) != 90) = true := by rw [bne_iff_ne]; exact h90
      generalize xs.getD 12 0 = z at *
      clear h90 hn
      go_enter Tryd.func26, Tryd.ntmps26
      go_wp2
      go_ret2
      rw [E.out]
      exact ⟨rfl, Below.refl _ _⟩
  · have hf := hide (formB_no1 (k := 2) hn)
    rw [hf.out] at E
    have hzI : ((SX.size : Int) != 13) = true := by rw [SZ.out]; simp; omega
    have hsz : (SX.size : Int) ≤ 140737488355328 := by rw [SZ.out]; omega
    clear hn
    go_enter Tryd.func26, Tryd.ntmps26
    go_wp2
    go_ret2
    rw [E.out]
    exact ⟨rfl, Below.refl _ _⟩

set_option maxRecDepth 100000 in
set_option maxHeartbeats 8000000 in
theorem refTake_24 (xs : List Int) (hb : ∀ x ∈ xs, 0 ≤ x ∧ x < 256) (hm : xs.length ≤ 140737488355328) (w : World) :
    Calls Tryd.prog 26 #[.int .i64 24, .string (strOfNums xs)] w fun e w' => e = .returned (.tuple #[.int .i64 (takS 24 xs).1, .int .i64 (takS 24 xs).2]) ∧ Below w.heap.size w w' := by
  have E : Hid (takS 24 xs = if formB 4 xs then tkV 24 (numB (seg xs 0 4)) (numB (seg xs 4 6)) (numB (seg xs 6 8)) (numB (seg xs 8 10)) (numB (seg xs 10 12)) (numB (seg xs 12 14)) else (0, 20)) := by unfold Hid takS; simp
  have AT := hide (fun i hi => str_at xs hb i hi)
  have SZ := hide (strOfNums_size xs)
  have NN : Hid (formB 4 xs = true → ∀ a k, a + k ≤ 14 → k ≤ 4 → ∀ W, Calls Tryd.prog 42 #[.string (strOfNums xs), .int .i64 ((a : Nat) : Int), .int .i64 ((k : Nat) : Int)] W fun e w' => e = .returned (.int .i64 (numB (seg xs a (a + k)))) ∧ w' = W) := by
    intro hf a k hak hk W
    obtain ⟨hl, _, hd⟩ := formB_parts hf
    exact refNumber_any xs a k hb (by omega) hk (by omega) (seg_dig hd a (a + k) (by omega)) W
  have BD : Hid (formB 4 xs = true → ∀ a k, a + k ≤ 14 → k ≤ 4 → 0 ≤ numB (seg xs a (a + k)) ∧ numB (seg xs a (a + k)) ≤ 9999) := by
    intro hf a k hak hk
    obtain ⟨hl, _, hd⟩ := formB_parts hf
    exact numB_4 _ (by unfold seg; simp; omega) (seg_dig hd a (a + k) (by omega))
  clear hb
  generalize takS 24 xs = R at *
  generalize strOfNums xs = SX at *
  by_cases hn : xs.length = 15
  · have HN := hide hn
    have hz : SX.size = 15 := by rw [SZ.out, hn]
    have hzI : ((SX.size : Int) != 15) = false := by rw [hz]; rfl
    have hatz := AT.out 14 (by omega)
    by_cases h90 : xs.getD 14 0 = 90
    · have H90 := hide h90
      rw [h90] at hatz
      clear h90 hn
      go_enter Tryd.func26, Tryd.ntmps26
      go_wp2
      clear hatz
      go_loop [7] (fun i => ∃ I : Nat, I ≤ 14 ∧ i = .int .i64 I ∧ Hid (∀ J, J < I → 48 ≤ xs.getD J 0 ∧ xs.getD J 0 ≤ 57)) (fun i => 14 - (intOf i).toNat)
      case atStart => exact ⟨0, Nat.zero_le _, rfl, fun J hJ => absurd hJ (by omega)⟩
      case round =>
        obtain ⟨I, hI, rfl, hA⟩ := hrel
        by_cases hlt : I < 14
        · have hsz : I < SX.size := by omega
          have hat := AT.out I hsz
          have kI : (I : Int) < 14 := by omega
          have kS : (I : Int) < (SX.size : Int) := by omega
          by_cases hd : 48 ≤ xs.getD I 0 ∧ xs.getD I 0 ≤ 57
          · have hnx : Hid (∀ J, J < I + 1 → 48 ≤ xs.getD J 0 ∧ xs.getD J 0 ≤ 57) := by
              intro J hJ
              by_cases e : J = I
              · rw [e]; exact hd
              · exact hA.out J (by omega)
            generalize xs.getD I 0 = x at hat hd
            have k1 : ¬ x < 48 := by omega
            have k2 : ¬ 57 < x := by omega
            go_wp2
            go_round
            case rel => exact ⟨I + 1, by omega, by go_num, hnx⟩
            case measure => simp [intOf]; omega
          · have hf := hide (formB_no3 (k := 4) I hlt HN.out hd)
            rw [hf.out] at E
            generalize xs.getD I 0 = x at hat hd
            by_cases k1 : x < 48
            · go_wp2
              go_ret2
              rw [E.out]
              exact ⟨rfl, Below.refl _ _⟩
            · have k2 : 57 < x := by omega
              have k3 : decide (x < 48) = false := by simpa using k1
              go_wp2
              go_ret2
              rw [E.out]
              exact ⟨rfl, Below.refl _ _⟩
        · have kI : ¬ (I : Int) < 14 := by omega
          have hf := hide (formB_yes (k := 4) HN.out H90.out (fun J hJ => hA.out J (by omega)))
          rw [hf.out, if_pos rfl] at E
          have N0 : Hid (∀ W, Calls Tryd.prog 42 #[.string SX, .int .i64 0, .int .i64 4] W fun e w' => e = .returned (.int .i64 (numB (seg xs 0 4))) ∧ w' = W) := fun W => NN.out hf.out 0 4 (by omega) (by omega) W
          have b0 : 0 ≤ numB (seg xs 0 4) ∧ numB (seg xs 0 4) ≤ 9999 := BD.out hf.out 0 4 (by omega) (by omega)
          have N1 : Hid (∀ W, Calls Tryd.prog 42 #[.string SX, .int .i64 4, .int .i64 2] W fun e w' => e = .returned (.int .i64 (numB (seg xs 4 6))) ∧ w' = W) := fun W => NN.out hf.out 4 2 (by omega) (by omega) W
          have N2 : Hid (∀ W, Calls Tryd.prog 42 #[.string SX, .int .i64 6, .int .i64 2] W fun e w' => e = .returned (.int .i64 (numB (seg xs 6 8))) ∧ w' = W) := fun W => NN.out hf.out 6 2 (by omega) (by omega) W
          have N3 : Hid (∀ W, Calls Tryd.prog 42 #[.string SX, .int .i64 8, .int .i64 2] W fun e w' => e = .returned (.int .i64 (numB (seg xs 8 10))) ∧ w' = W) := fun W => NN.out hf.out 8 2 (by omega) (by omega) W
          have N4 : Hid (∀ W, Calls Tryd.prog 42 #[.string SX, .int .i64 10, .int .i64 2] W fun e w' => e = .returned (.int .i64 (numB (seg xs 10 12))) ∧ w' = W) := fun W => NN.out hf.out 10 2 (by omega) (by omega) W
          have N5 : Hid (∀ W, Calls Tryd.prog 42 #[.string SX, .int .i64 12, .int .i64 2] W fun e w' => e = .returned (.int .i64 (numB (seg xs 12 14))) ∧ w' = W) := fun W => NN.out hf.out 12 2 (by omega) (by omega) W
          generalize numB (seg xs 0 4) = v0 at *
          generalize numB (seg xs 4 6) = v1 at *
          generalize numB (seg xs 6 8) = v2 at *
          generalize numB (seg xs 8 10) = v3 at *
          generalize numB (seg xs 10 12) = v4 at *
          generalize numB (seg xs 12 14) = v5 at *
          clear hA hI NN BD hf
          have S1 : Hid (∀ W, Calls Tryd.prog 19 #[agg6 (v0) v1 v2 v3 v4 v5] W fun e w' => ∃ sv se, e = .returned (.tuple #[.int .i64 sv, .int .i64 se]) ∧ ((se = 0 ∧ Hid (Okc (v0) v1 v2 v3 v4 v5) ∧ sv = secV (v0) v1 v2 v3 v4 v5) ∨ (se = 40 ∧ Hid (¬ Okc (v0) v1 v2 v3 v4 v5) ∧ sv = 0)) ∧ Below W.heap.size W w') := by
            intro W
            by_cases ok : Okc (v0) v1 v2 v3 v4 v5
            · exact (refSeconds_ok _ _ _ _ _ _ ok W).mono fun e w' ⟨h1, h2⟩ => ⟨_, _, h1, .inl ⟨rfl, ok, (sec_same ..).symm⟩, h2⟩
            · exact (refSeconds_no _ _ _ _ _ _ ok W).mono fun e w' ⟨h1, h2⟩ => ⟨_, _, h1, .inr ⟨rfl, ok, rfl⟩, h2⟩
          unfold agg6 at S1
          by_cases h50 : v0 < 2050
          · go_wp2_with (first | (go_at_call_of 42 (Value.int .i64 12); refine (N5.out _).mono ?_; rintro e w6 ⟨rfl, rfl⟩) | (go_at_call_of 42 (Value.int .i64 10); refine (N4.out _).mono ?_; rintro e w5 ⟨rfl, rfl⟩) | (go_at_call_of 42 (Value.int .i64 8); refine (N3.out _).mono ?_; rintro e w4 ⟨rfl, rfl⟩) | (go_at_call_of 42 (Value.int .i64 6); refine (N2.out _).mono ?_; rintro e w3 ⟨rfl, rfl⟩) | (go_at_call_of 42 (Value.int .i64 0); refine (N0.out _).mono ?_; rintro e w1 ⟨rfl, rfl⟩) | (go_at_call_of 42 (Value.int .i64 4); refine (N1.out _).mono ?_; rintro e w2 ⟨rfl, rfl⟩) | fail)
            refine (S1.out _).mono ?_
            rintro e w9 ⟨sv, se, rfl, hc, B9⟩
            have HB := hide B9
            clear B9
            rcases hc with ⟨rfl, ok, rfl⟩ | ⟨rfl, no, rfl⟩
            · have E2 := hide (tkV_shape (tag := 24) (v0 := v0) (by rw [tkY_24]; exact ok.out) ⟨rfl, by rw [tkY_24]; omega⟩)
              go_wp2
              go_ret2
              rw [E.out, E2.out]
              exact ⟨rfl, HB.out⟩
            · have E2 := hide (tkV_no (tag := 24) (v0 := v0) (by rw [tkY_24]; exact no.out))
              go_wp2
              go_ret2
              rw [E.out, E2.out]
              exact ⟨rfl, HB.out⟩
          · go_wp2_with (first | (go_at_call_of 42 (Value.int .i64 12); refine (N5.out _).mono ?_; rintro e w6 ⟨rfl, rfl⟩) | (go_at_call_of 42 (Value.int .i64 10); refine (N4.out _).mono ?_; rintro e w5 ⟨rfl, rfl⟩) | (go_at_call_of 42 (Value.int .i64 8); refine (N3.out _).mono ?_; rintro e w4 ⟨rfl, rfl⟩) | (go_at_call_of 42 (Value.int .i64 6); refine (N2.out _).mono ?_; rintro e w3 ⟨rfl, rfl⟩) | (go_at_call_of 42 (Value.int .i64 0); refine (N0.out _).mono ?_; rintro e w1 ⟨rfl, rfl⟩) | (go_at_call_of 42 (Value.int .i64 4); refine (N1.out _).mono ?_; rintro e w2 ⟨rfl, rfl⟩) | fail)
            refine (S1.out _).mono ?_
            rintro e w9 ⟨sv, se, rfl, hc, B9⟩
            have HB := hide B9
            clear B9
            rcases hc with ⟨rfl, ok, rfl⟩ | ⟨rfl, no, rfl⟩
            · have E2 := hide (tkV_ok (tag := 24) (v0 := v0) (by rw [tkY_24]; exact ok.out) (by rw [tkY_24]; omega))
              go_wp2
              go_ret2
              rw [E.out, E2.out, tkY_24]
              exact ⟨rfl, HB.out⟩
            · have E2 := hide (tkV_no (tag := 24) (v0 := v0) (by rw [tkY_24]; exact no.out))
              go_wp2
              go_ret2
              rw [E.out, E2.out]
              exact ⟨rfl, HB.out⟩
    · have hf := hide (formB_no2 (k := 4) h90)
      rw [hf.out] at E
      have hne : ((xs.getD 14 0) != 90) = true := by rw [bne_iff_ne]; exact h90
      generalize xs.getD 14 0 = z at *
      clear h90 hn
      go_enter Tryd.func26, Tryd.ntmps26
      go_wp2
      go_ret2
      rw [E.out]
      exact ⟨rfl, Below.refl _ _⟩
  · have hf := hide (formB_no1 (k := 4) hn)
    rw [hf.out] at E
    have hzI : ((SX.size : Int) != 15) = true := by rw [SZ.out]; simp; omega
    have hsz : (SX.size : Int) ≤ 140737488355328 := by rw [SZ.out]; omega
    clear hn
    go_enter Tryd.func26, Tryd.ntmps26
    go_wp2
    go_ret2
    rw [E.out]
    exact ⟨rfl, Below.refl _ _⟩

set_option maxRecDepth 100000 in
theorem refTake_tag (tag : Int) (h1 : tag ≠ 23) (h2 : tag ≠ 24) (s : ByteArray) (w : World) :
    Calls Tryd.prog 26 #[.int .i64 tag, .string s] w fun e w' => e = .returned (.tuple #[.int .i64 0, .int .i64 11]) ∧ Below w.heap.size w w' := by
  have b1 : (tag != 23) = true := by simp [h1]
  have b2 : (tag != 24) = true := by simp [h2]
  clear h1 h2
  go_enter Tryd.func26, Tryd.ntmps26
  go_wp2
  go_ret2
  exact ⟨rfl, Below.refl _ _⟩

theorem refTake_any (tag : Int) (xs : List Int) (hb : ∀ x ∈ xs, 0 ≤ x ∧ x < 256) (hm : xs.length ≤ 140737488355328) (w : World) :
    Calls Tryd.prog 26 #[.int .i64 tag, .string (strOfNums xs)] w fun e w' => e = .returned (.tuple #[.int .i64 (takS tag xs).1, .int .i64 (takS tag xs).2]) ∧ Below w.heap.size w w' := by
  by_cases h1 : tag = 23
  · subst h1; exact refTake_23 xs hb hm w
  · by_cases h2 : tag = 24
    · subst h2; exact refTake_24 xs hb hm w
    · have E : takS tag xs = (0, 11) := by simp [takS, h1, h2]
      rw [E]
      exact refTake_tag tag h1 h2 _ w

end Go.Proofs.YtnpimjfdidbdfaaDoor
