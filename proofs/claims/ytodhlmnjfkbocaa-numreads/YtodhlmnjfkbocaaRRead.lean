/-
  The reference's Shortest, ToInt, ToNat, ToBool tell of any bytes what the plain functions say.
-/
import Derived.Test.YtodhlmnjfkbocaaToX
import Derived.Test.YtodhlmnjfkbocaaBool
namespace Go.Proofs.Ytodhlmnjfkbocaa
open Go.RowKit Go.IntWalk

theorem idle_first (x y : Int) (hx : 0 ≤ x ∧ x < 256) (hy : 0 ≤ y ∧ y < 256) : (!idleS x y) = (decide (x * 2 + y / 128 ≠ 0) && decide (x * 2 + y / 128 ≠ 511)) := by
  unfold idleS
  by_cases h : (x = 0 ∧ y < 128) ∨ (x = 255 ∧ 128 ≤ y)
  · rcases h with ⟨rfl, h⟩ | ⟨rfl, h⟩
    · have e : y / 128 = 0 := by omega
      simp [h, e]
    · have e : y / 128 = 1 := by omega
      simp [h, e]
  · have h1 : x * 2 + y / 128 ≠ 0 := by omega
    have h2 : x * 2 + y / 128 ≠ 511 := by omega
    rw [decide_eq_true h1, decide_eq_true h2]
    simp
    omega

set_option maxRecDepth 100000 in
set_option maxHeartbeats 1000000 in
theorem refShort_any (ao : Option Addr) (n cap : Nat) (xs : List Int) (w : World) (hs : Src w ao n cap xs) :
    Calls Try.prog 56 #[.slice ao n cap] w fun e w' => e = .returned (.bool (isIntS xs)) ∧ Drawn w w' := by
  have hl := hs.hlen
  match xs, hs, hl with
  | [], hs, hl =>
    obtain rfl : n = 0 := by simpa using hl.symm
    go_enter Try.func56, Try.ntmps56
    go_wp2
    go_ret
    exact ⟨rfl, Drawn.refl _⟩
  | [x], hs, hl =>
    obtain rfl : n = 1 := by simpa using hl.symm
    go_enter Try.func56, Try.ntmps56
    go_wp2
    go_ret
    exact ⟨rfl, Drawn.refl _⟩
  | x :: y :: r, hs, hl =>
    obtain ⟨m, rfl⟩ : ∃ m, n = m + 2 := ⟨n - 2, by simp at hl; omega⟩
    obtain ⟨b, off, rfl, c0⟩ := hs.at 0 (by omega)
    obtain ⟨b', off', hbo, c1⟩ := hs.at 1 (by omega)
    simp at hbo
    obtain ⟨rfl, rfl⟩ := hbo
    simp only [Nat.add_zero, List.getD, List.getElem?_cons_zero, List.getElem?_cons_succ, Option.getD_some] at c0 c1
    have hx := hs.hbyt x (by simp)
    have hy := hs.hbyt y (by simp)
    have HV : Hid (isIntS (x :: y :: r) = (decide (x * 2 + y / 128 ≠ 0) && decide (x * 2 + y / 128 ≠ 511))) := by unfold Hid isIntS; exact idle_first x y hx hy
    obtain ⟨hx0, hx1⟩ := hx
    obtain ⟨hy0, hy1⟩ := hy
    have g1 : ((m : Int) + 2 == 0) = false := by simp; omega
    have g2 : ((m : Int) + 2 == 1) = false := by simp; omega
    have g3 : (1 : Int) < (m : Int) + 2 := by omega
    have g4 : (0 : Int) < (m : Int) + 2 := by omega
    have q1 : Int.tdiv y 128 = y / 128 := Int.tdiv_eq_ediv_of_nonneg hy0
    have q2 : 0 ≤ y / 128 := by omega
    have q3 : y / 128 ≤ 1 := by omega
    obtain ⟨Y, hY⟩ : ∃ Y, y / 128 = Y := ⟨_, rfl⟩
    rw [hY] at q1 q2 q3 HV
    clear hl hY
    by_cases h0 : x * 2 + Y = 0
    · have HW := hide (show isIntS (x :: y :: r) = false by rw [HV.out, decide_eq_false (by omega)]; rfl)
      have g5 : (x * 2 + Y != 0) = false := by simp [h0]
      clear h0 HV
      go_enter Try.func56, Try.ntmps56
      go_wp2_with fail
      go_quiet (fail)
      go_wp2
      go_ret
      exact ⟨by rw [HW.out]; rfl, by first | exact Drawn.refl _ | exact (Drawn.refl _).more _⟩
    · have HW := hide (show isIntS (x :: y :: r) = (x * 2 + Y != 511) by rw [HV.out, decide_eq_true h0]; by_cases h : x * 2 + Y = 511 <;> simp [h])
      have g5 : (x * 2 + Y != 0) = true := by simp [h0]
      clear h0 HV
      go_enter Try.func56, Try.ntmps56
      go_wp2_with fail
      go_quiet (fail)
      go_wp2
      go_ret
      exact ⟨by rw [HW.out]; rfl, by first | exact Drawn.refl _ | exact (Drawn.refl _).more _⟩

theorem valF_bound (x : Int) (r : List Int) (hx : 0 ≤ x ∧ x < 256) (hb : ∀ x ∈ r, 0 ≤ x ∧ x < 256) (j : Nat) (hj : j ≤ 6) : -36028797018963968 ≤ valF (sgn x) (r.take j) ∧ valF (sgn x) (r.take j) < 36028797018963968 := by
  have hsg : -128 ≤ sgn x ∧ sgn x < 128 := by unfold sgn; split <;> omega
  have h1 := valF_in (r.take j) (sgn x) 128 (fun y hy => hb y (List.mem_of_mem_take hy)) hsg.1 hsg.2
  have h2 : (r.take j).length ≤ 6 := by simp; omega
  exact pow_in _ h2 _ h1

theorem getD_b (r : List Int) (hb : ∀ x ∈ r, 0 ≤ x ∧ x < 256) (j : Nat) : 0 ≤ r.getD j 0 ∧ r.getD j 0 < 256 := by
  by_cases h : j < r.length
  · refine hb _ ?_
    rw [List.getD, List.getElem?_eq_getElem h]
    exact List.getElem_mem _
  · rw [List.getD, List.getElem?_eq_none (by omega)]
    decide

set_option maxRecDepth 100000 in
set_option maxHeartbeats 1000000 in
theorem refToInt_any (ao : Option Addr) (n cap : Nat) (xs : List Int) (w : World) (hs : Src w ao n cap xs) :
    Calls Try.prog 32 #[.slice ao n cap] w fun e w' => e = .returned (.tuple #[.int .i64 (toIntV xs), .int .i64 (toIntE xs)]) ∧ Drawn w w' := by
  have HL := hide hs.hlen
  have Hc := hide (refShort_any ao n cap xs w hs)
  have hN : n ≤ 9223372036854775807 := by have h1 := hs.hcap; have h2 := hs.hmax; unfold maxLen at h2; omega
  by_cases h : isIntS xs = true
  · rw [h] at Hc
    by_cases h8 : 8 < n
    · obtain ⟨e1, e2⟩ := toInt_big xs h (by rw [HL.out]; exact h8)
      rw [e1, e2]
      clear e1 e2
      have g8 : (8 : Int) < (n : Int) := by omega
      go_enter Try.func32, Try.ntmps32
      go_wp2_with fail
      refine Hc.out.mono ?_
      rintro e w0 ⟨rfl, hd⟩
      go_wp2
      exact bodyPost_ret (v := .tuple #[.int .i64 0, .int .i64 21]) (by simp [results, Try.results32, go_sem]) rfl ⟨rfl, hd⟩
    · obtain ⟨e1, e2⟩ := toInt_ok xs h (by rw [HL.out]; exact h8)
      rw [e1, e2]
      clear e1 e2
      obtain ⟨x, r, rfl⟩ : ∃ x r, xs = x :: r := by
        cases xs with
        | nil => simp [isIntS] at h
        | cons x r => exact ⟨x, r, rfl⟩
      have hl : r.length + 1 = n := by have := hs.hlen; simpa using this
      have HR := hide hl
      have h1n : 1 ≤ n := by omega
      clear hl
      obtain ⟨b, off, rfl, c0⟩ := hs.at 0 (by omega)
      simp only [Nat.add_zero, List.getD, List.getElem?_cons_zero, Option.getD_some] at c0
      have hx := hs.hbyt x (List.mem_cons_self ..)
      have HB := hide hs.hbyt
      have g8 : ¬ (8 : Int) < (n : Int) := by omega
      have gn : (0 : Int) < (n : Int) := by omega
      have HC : Hid (∀ k, k < n → ∀ W, Drawn w W → W.cell? ⟨b, off + k, none⟩ = some (.int .u8 ((x :: r).getD k 0))) := by
        intro k hk W hD
        obtain ⟨b', off', he, hc⟩ := hs.at k hk
        simp at he
        obtain ⟨rfl, rfl⟩ := he
        rw [hD.cell]
        exact hc
      have Hs : Hid (∀ N0 : Int, N0 = (if 128 ≤ x then -1 else 0) → N0 * 256 + x = sgn x) := by
        intro N0 h0
        unfold sgn
        subst h0
        split <;> omega
      obtain ⟨N0, hN0⟩ : ∃ N0 : Int, N0 = (if 128 ≤ x then -1 else 0) := ⟨_, rfl⟩
      have HS := hide (Hs.out N0 hN0)
      have hNb : -1 ≤ N0 ∧ N0 ≤ 0 := by rw [hN0]; split <;> omega
      by_cases hx8 : 128 ≤ x
      · rw [if_pos hx8] at hN0
        subst hN0
        obtain ⟨hx0, hx1⟩ := hx
        clear Hs hNb
        go_enter Try.func32, Try.ntmps32
        go_wp2_with fail
        refine Hc.out.mono ?_
        rintro e w0 ⟨rfl, hd⟩
        have c1 := (hd.cell ⟨b, off, none⟩).trans c0
        go_wp2
        clear c1
        have HC0 := hide (fun k hk => HC.out k hk w0 hd)
        go_loop [4, 5] (fun v i => ∃ (k : Nat) (N : Int), k ≤ n ∧ v = .int .i64 N ∧ i = .int .i64 k ∧ ((k = 0 ∧ N * 256 + x = sgn x ∧ -1 ≤ N ∧ N ≤ 0) ∨ (1 ≤ k ∧ N = valF (sgn x) (r.take (k - 1))))) (fun _ i => n - (intOf i).toNat)
        case atStart => exact ⟨0, _, Nat.zero_le _, rfl, rfl, .inl ⟨rfl, HS.out, by omega, by omega⟩⟩
        case round =>
          obtain ⟨k, N, hk, rfl, rfl, hrel⟩ := hrel
          by_cases hlt : k < n
          · have hcell := HC0.out k hlt
            have hnext : Hid (∀ y, (x :: r).getD k 0 = y → 1 ≤ k + 1 ∧ N * 256 + y = valF (sgn x) (r.take (k + 1 - 1))) := by
              intro y hy
              refine ⟨by omega, ?_⟩
              rcases hrel with ⟨rfl, hN, _, _⟩ | ⟨h1, rfl⟩
              · simp [List.getD] at hy
                subst hy
                simp [valF, hN]
              · obtain ⟨j, rfl⟩ : ∃ j, k = j + 1 := ⟨k - 1, by omega⟩
                have hr := HR.out
                rw [show j + 1 + 1 - 1 = j + 1 by omega, take_next r j (by omega), valF_snoc, ← hy]
                simp [List.getD]
            have hbd : -36028797018963968 ≤ N ∧ N < 36028797018963968 := by
              rcases hrel with ⟨rfl, hN, _, _⟩ | ⟨h1, rfl⟩
              · omega
              · exact valF_bound x r ⟨hx0, hx1⟩ (fun y hy => HB.out y (List.mem_cons_of_mem _ hy)) (k - 1) (by omega)
            have hy := getD_b (x :: r) HB.out k
            generalize (x :: r).getD k 0 = y at hcell hnext hy
            have HX := hide (hnext.out y rfl)
            obtain ⟨hb1, hb2⟩ := hbd
            obtain ⟨hy1, hy2⟩ := hy
            clear hrel hnext
            go_wp2
            go_round
            case rel => exact ⟨k + 1, N * 256 + y, by omega, by first | rfl | go_num, by go_num, .inr HX.out⟩
            case measure => simp [intOf]; omega
          · have HF : Hid (N = valF (sgn x) r) := by
              unfold Hid
              rcases hrel with ⟨rfl, hN, _, _⟩ | ⟨h1, rfl⟩
              · omega
              · rw [List.take_of_length_le (by have := HR.out; omega)]
            clear hrel
            go_wp2
            exact bodyPost_ret (v := .tuple #[.int .i64 N, .int .i64 0]) (by simp [results, Try.results32, go_sem]) rfl ⟨by rw [HF.out]; rfl, hd⟩
      · rw [if_neg hx8] at hN0
        subst hN0
        obtain ⟨hx0, hx1⟩ := hx
        clear Hs hNb
        go_enter Try.func32, Try.ntmps32
        go_wp2_with fail
        refine Hc.out.mono ?_
        rintro e w0 ⟨rfl, hd⟩
        have c1 := (hd.cell ⟨b, off, none⟩).trans c0
        go_wp2
        clear c1
        have HC0 := hide (fun k hk => HC.out k hk w0 hd)
        go_loop [4, 5] (fun v i => ∃ (k : Nat) (N : Int), k ≤ n ∧ v = .int .i64 N ∧ i = .int .i64 k ∧ ((k = 0 ∧ N * 256 + x = sgn x ∧ -1 ≤ N ∧ N ≤ 0) ∨ (1 ≤ k ∧ N = valF (sgn x) (r.take (k - 1))))) (fun _ i => n - (intOf i).toNat)
        case atStart => exact ⟨0, _, Nat.zero_le _, rfl, rfl, .inl ⟨rfl, HS.out, by omega, by omega⟩⟩
        case round =>
          obtain ⟨k, N, hk, rfl, rfl, hrel⟩ := hrel
          by_cases hlt : k < n
          · have hcell := HC0.out k hlt
            have hnext : Hid (∀ y, (x :: r).getD k 0 = y → 1 ≤ k + 1 ∧ N * 256 + y = valF (sgn x) (r.take (k + 1 - 1))) := by
              intro y hy
              refine ⟨by omega, ?_⟩
              rcases hrel with ⟨rfl, hN, _, _⟩ | ⟨h1, rfl⟩
              · simp [List.getD] at hy
                subst hy
                simp [valF, hN]
              · obtain ⟨j, rfl⟩ : ∃ j, k = j + 1 := ⟨k - 1, by omega⟩
                have hr := HR.out
                rw [show j + 1 + 1 - 1 = j + 1 by omega, take_next r j (by omega), valF_snoc, ← hy]
                simp [List.getD]
            have hbd : -36028797018963968 ≤ N ∧ N < 36028797018963968 := by
              rcases hrel with ⟨rfl, hN, _, _⟩ | ⟨h1, rfl⟩
              · omega
              · exact valF_bound x r ⟨hx0, hx1⟩ (fun y hy => HB.out y (List.mem_cons_of_mem _ hy)) (k - 1) (by omega)
            have hy := getD_b (x :: r) HB.out k
            generalize (x :: r).getD k 0 = y at hcell hnext hy
            have HX := hide (hnext.out y rfl)
            obtain ⟨hb1, hb2⟩ := hbd
            obtain ⟨hy1, hy2⟩ := hy
            clear hrel hnext
            go_wp2
            go_round
            case rel => exact ⟨k + 1, N * 256 + y, by omega, by first | rfl | go_num, by go_num, .inr HX.out⟩
            case measure => simp [intOf]; omega
          · have HF : Hid (N = valF (sgn x) r) := by
              unfold Hid
              rcases hrel with ⟨rfl, hN, _, _⟩ | ⟨h1, rfl⟩
              · omega
              · rw [List.take_of_length_le (by have := HR.out; omega)]
            clear hrel
            go_wp2
            exact bodyPost_ret (v := .tuple #[.int .i64 N, .int .i64 0]) (by simp [results, Try.results32, go_sem]) rfl ⟨by rw [HF.out]; rfl, hd⟩
  · simp only [Bool.not_eq_true] at h
    rw [h] at Hc
    obtain ⟨e1, e2⟩ := toInt_bad xs h
    rw [e1, e2]
    clear e1 e2
    go_enter Try.func32, Try.ntmps32
    go_wp2_with fail
    refine Hc.out.mono ?_
    rintro e w0 ⟨rfl, hd⟩
    go_wp2
    exact bodyPost_ret (v := .tuple #[.int .i64 0, .int .i64 20]) (by simp [results, Try.results32, go_sem]) rfl ⟨rfl, hd⟩

end Go.Proofs.Ytodhlmnjfkbocaa
