/-
  der.putLength lays the bytes of a length behind a row of the call's own.
-/
import Derived.Test.YtaeddbkkkiefcaaSize
import Derived.WalkSpells
namespace Go.Proofs.Ytaeddbkkkiefcaa
open Go.RowKit Go.IntWalk

theorem digs_three (n : Nat) (h : 65536 ≤ n) : digs n = [((n / 65536 : Nat) : Int), ((n / 256 % 256 : Nat) : Int), ((n % 256 : Nat) : Int)] := by
  unfold digs; rw [if_neg (by omega), if_neg (by omega), if_neg (by omega)]
theorem digs_two (n : Nat) (h : 256 ≤ n) (h' : n < 65536) : digs n = [((n / 256 : Nat) : Int), ((n % 256 : Nat) : Int)] := by
  unfold digs; rw [if_neg (by omega), if_neg (by omega), if_pos h']
theorem digs_one (n : Nat) (h : 0 < n) (h' : n < 256) : digs n = [(n : Int)] := by
  unfold digs; rw [if_neg (by omega), if_pos h']

theorem digs_size (n : Nat) (h : 127 < n) (h' : n < 16777216) : sizeN n = 2 + ((digs n).length : Int) := by
  have := sizeN_eq n h'
  unfold lenB at this
  rw [if_neg (by omega)] at this
  simp at this
  omega

theorem dig_at (n : Nat) (h : 127 < n) (h' : n < 16777216) (i j : Nat) (hij : i + j = (digs n).length) (hj : 1 ≤ j) :
    (digs n).take (i + 1) = (digs n).take i ++ [((n / 256 ^ (j - 1) % 256 : Nat) : Int)] := by
  by_cases h1 : n < 256
  · rw [digs_one n (by omega) h1] at *
    simp at hij
    obtain ⟨rfl, rfl⟩ : i = 0 ∧ j = 1 := by omega
    simp; omega
  · by_cases h2 : n < 65536
    · rw [digs_two n (by omega) h2] at *
      simp at hij
      rcases (show (i = 0 ∧ j = 2) ∨ (i = 1 ∧ j = 1) by omega) with ⟨rfl, rfl⟩ | ⟨rfl, rfl⟩
      · simp; omega
      · simp
    · rw [digs_three n (by omega)] at *
      simp at hij
      rcases (show (i = 0 ∧ j = 3) ∨ (i = 1 ∧ j = 2) ∨ (i = 2 ∧ j = 1) by omega) with ⟨rfl, rfl⟩ | ⟨rfl, rfl⟩ | ⟨rfl, rfl⟩
      · simp; omega
      · simp
      · simp

set_option maxRecDepth 100000 in
set_option maxHeartbeats 2000000 in
theorem putLen_any (base g m c : Nat) (ys : List Int) (n : Nat) (w : World) (ho : OwnB w base (.slice (some ⟨g, 0, none⟩) m c) ys) (hn : (n : Int) ≤ 16777215) (hm : m ≤ 140737488355320) (hb : base ≤ w.heap.size) (hgb : base ≤ g) :
    Calls Try.prog 85 #[.slice (some ⟨g, 0, none⟩) m c, .int .i64 n] w fun e w' => ∃ g' c', e = .returned (.slice (some ⟨g', 0, none⟩) (m + (lenB n).length) c') ∧
      OwnB w' base (.slice (some ⟨g', 0, none⟩) (m + (lenB n).length) c') (ys ++ lenB n) ∧ base ≤ g' ∧ Below base w w' := by
  have hl := hide ho.eqlen
  by_cases h1 : (n : Int) ≤ 127
  · have eL := hide (show lenB n = [(n : Int)] by unfold lenB; rw [if_pos (by omega)])
    go_enter Try.func85, Try.ntmps85
    go_wp2_with (at_builtin; refine wpList_appN _ rfl (.tmp 8) (.tmp 11) rfl base (.slice (some ⟨g, 0, none⟩) m c) ys rfl (ho.alloc _) (some ⟨w.heap.size, 0, none⟩) 1 1 [(n : Int)] rfl (Src.lit [(n : Int)] _ 1 rfl rfl (by simp; omega) (by decide)) (m + 1) (by simp [hl.out]) (.inl (by simp)) (by omega) (by simp; omega) ?_; intro g1 c1 w1 ho1 hb1 hl1 hc1 hm1 hg1)
    go_ret
    rw [eL.out]
    exact ⟨g1, c1, rfl, ho1, hb1, ((Below.refl _ _).alloc hb _).grown hg1 (by simp; omega) (by intro k hk; cases hk; exact hgb)⟩
  · have hk3 := digs_len n
    have hS := digs_size n (by omega) (by omega)
    have eL := hide (show lenB n = (128 + ((digs n).length : Int)) :: digs n by unfold lenB; rw [if_neg (by omega)])
    have hdig0 := hide (dig_at n (by omega) (by omega))
    obtain ⟨k, hk⟩ : ∃ k, (digs n).length = k := ⟨_, rfl⟩
    rw [hk] at hS hk3 eL hdig0
    have HK := hide hk
    clear hk
    go_enter Try.func85, Try.ntmps85
    go_wp2_with (first | (go_at_call 84; refine (size_any n _).mono ?_; rintro e w0 ⟨rfl, hw0⟩; have hw1 := hw0.symm; subst hw1; rw [hS]) | (at_builtin; refine wpList_appN _ rfl (.tmp 16) (.tmp 20) rfl base (.slice (some ⟨g, 0, none⟩) m c) ys rfl (ho.alloc _) (some ⟨w.heap.size, 0, none⟩) 1 1 [128 + (2 + (k : Int) - 2)] rfl (Src.lit [128 + (2 + (k : Int) - 2)] _ 1 rfl rfl (by simp; omega) (by decide)) (m + 1) (by simp [hl.out]) (.inl (by simp)) (by omega) (by simp; omega) ?_; intro ga ca wa hoa hba hla hca hma hga))
    rw [show (128 : Int) + (2 + (k : Int) - 2) = 128 + (k : Int) by omega] at hoa
    have hbela : Below base w wa := ((Below.refl _ _).alloc hb _).grown hga (by simp; omega) (by intro k hk; cases hk; exact hgb)
    go_loopw [0, 5] (fun v s wr => ∃ i j : Nat, i + j = k ∧ s = .int .i64 ((j : Int) - 1) ∧ ∃ g' c', v = .slice (some ⟨g', 0, none⟩) (m + 1 + i) c' ∧ OwnB wr base (.slice (some ⟨g', 0, none⟩) (m + 1 + i) c') (ys ++ [128 + (k : Int)] ++ (digs n).take i) ∧ base ≤ g' ∧ Below base w wr)
      (fun _ s _ => (intOf s + 1).toNat)
    case atStart => exact ⟨0, k, by omega, by go_num, ga, ca, rfl, by simpa using hoa, hba, hbela⟩
    case round =>
      obtain ⟨i, j, hij, rfl, g', c', rfl, hoy, hgb', hbel⟩ := hrel
      have hbw : base ≤ wr.heap.size := Nat.le_trans hb hbel.size
      have hdig := fun h => hide (hdig0.out i j hij h)
      clear hoa hga
      rcases (show j = 0 ∨ j = 1 ∨ j = 2 ∨ j = 3 by omega) with rfl | rfl | rfl | rfl
      · go_wp2
        go_ret
        have eT : (digs n).take i = digs n := List.take_of_length_le (by rw [HK.out]; omega)
        rw [eT] at hoy
        have eN : m + (lenB n).length = m + 1 + i := by rw [eL.out]; simp [HK.out]; omega
        rw [eN, eL.out]
        exact ⟨g', c', rfl, by simpa using hoy, hgb', hbel⟩
      · have hdig : Hid ((digs n).take (i + 1) = (digs n).take i ++ [(n : Int) % 256]) := by
          have h := (hdig (by omega)).out
          unfold Hid
          rw [h, show ((n / 256 ^ (1 - 1) % 256 : Nat) : Int) = (n : Int) % 256 by simp only [Nat.reducePow, Nat.reduceSub]; omega]
        have Hij := hide hij
        have hik : i ≤ 3 := by omega
        clear hij
        go_wp2_with (at_builtin; refine wpList_appN _ rfl (.tmp 28) (.tmp 34) rfl base (.slice (some ⟨g', 0, none⟩) (m + 1 + i) c') (ys ++ [128 + (k : Int)] ++ (digs n).take i) rfl (hoy.alloc _) (some ⟨wr.heap.size, 0, none⟩) 1 1 [(n : Int) % 256] rfl (Src.lit [(n : Int) % 256] _ 1 rfl rfl (by simp; omega) (by decide)) (m + 1 + (i + 1)) (by have := hoy.eqlen; simp only [List.length_append] at this ⊢; simp at this ⊢; omega) (.inl (by simp)) (by omega) (by simp; omega) ?_; intro g1 c1 w1 ho1 hb1 hl1 hc1 hm1 hg1)
        go_roundw
        case rel => exact ⟨i + 1, 0, by have := Hij.out; omega, by go_num, g1, c1, rfl, by rw [List.append_assoc, ← hdig.out] at ho1; exact ho1, hb1, (hbel.alloc hbw _).grown hg1 (by simp; omega) (by intro k hk; cases hk; exact hgb')⟩
        case measure => simp [intOf]
      · have hdig : Hid ((digs n).take (i + 1) = (digs n).take i ++ [(n : Int) / 256 % 256]) := by
          have h := (hdig (by omega)).out
          unfold Hid
          rw [h, show ((n / 256 ^ (2 - 1) % 256 : Nat) : Int) = (n : Int) / 256 % 256 by simp only [Nat.reducePow, Nat.reduceSub]; omega]
        have Hij := hide hij
        have hik : i ≤ 3 := by omega
        clear hij
        go_wp2_with (at_builtin; refine wpList_appN _ rfl (.tmp 28) (.tmp 34) rfl base (.slice (some ⟨g', 0, none⟩) (m + 1 + i) c') (ys ++ [128 + (k : Int)] ++ (digs n).take i) rfl (hoy.alloc _) (some ⟨wr.heap.size, 0, none⟩) 1 1 [(n : Int) / 256 % 256] rfl (Src.lit [(n : Int) / 256 % 256] _ 1 rfl rfl (by simp; omega) (by decide)) (m + 1 + (i + 1)) (by have := hoy.eqlen; simp only [List.length_append] at this ⊢; simp at this ⊢; omega) (.inl (by simp)) (by omega) (by simp; omega) ?_; intro g1 c1 w1 ho1 hb1 hl1 hc1 hm1 hg1)
        go_roundw
        case rel => exact ⟨i + 1, 1, by have := Hij.out; omega, by go_num, g1, c1, rfl, by rw [List.append_assoc, ← hdig.out] at ho1; exact ho1, hb1, (hbel.alloc hbw _).grown hg1 (by simp; omega) (by intro k hk; cases hk; exact hgb')⟩
        case measure => simp [intOf]
      · have hdig : Hid ((digs n).take (i + 1) = (digs n).take i ++ [(n : Int) / 65536]) := by
          have h := (hdig (by omega)).out
          unfold Hid
          rw [h, show ((n / 256 ^ (3 - 1) % 256 : Nat) : Int) = (n : Int) / 65536 by simp only [Nat.reducePow, Nat.reduceSub]; omega]
        have Hij := hide hij
        have hik : i ≤ 3 := by omega
        clear hij
        go_wp2_with (at_builtin; refine wpList_appN _ rfl (.tmp 28) (.tmp 34) rfl base (.slice (some ⟨g', 0, none⟩) (m + 1 + i) c') (ys ++ [128 + (k : Int)] ++ (digs n).take i) rfl (hoy.alloc _) (some ⟨wr.heap.size, 0, none⟩) 1 1 [(n : Int) / 65536] rfl (Src.lit [(n : Int) / 65536] _ 1 rfl rfl (by simp; omega) (by decide)) (m + 1 + (i + 1)) (by have := hoy.eqlen; simp only [List.length_append] at this ⊢; simp at this ⊢; omega) (.inl (by simp)) (by omega) (by simp; omega) ?_; intro g1 c1 w1 ho1 hb1 hl1 hc1 hm1 hg1)
        go_roundw
        case rel => exact ⟨i + 1, 2, by have := Hij.out; omega, by go_num, g1, c1, rfl, by rw [List.append_assoc, ← hdig.out] at ho1; exact ho1, hb1, (hbel.alloc hbw _).grown hg1 (by simp; omega) (by intro k hk; cases hk; exact hgb')⟩
        case measure => simp [intOf]

end Go.Proofs.Ytaeddbkkkiefcaa
