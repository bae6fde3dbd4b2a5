/-
  der.find answers the element with which bytes begin, by places, or the error, as the plain function of the bytes says.
-/
import Derived.Test.YtdjlaaflmbdomaaTLen
namespace Go.Proofs.Ytdjlaaflmbdomaa
open Go.RowKit Go.IntWalk

/-- What find answers. -/
def spanV (r : Int × Int × Int × Int) : Value := .tuple #[.agg #[.int .i64 r.1, .int .i64 r.2.1, .int .i64 r.2.2.1], .int .i64 r.2.2.2]

theorem takeLenS_bd (xs : List Int) (hb : ∀ x ∈ xs, 0 ≤ x ∧ x < 256) : 0 ≤ (takeLenS xs).1 ∧ (takeLenS xs).1 < 16777216 ∧ 0 ≤ (takeLenS xs).2.1 ∧ (takeLenS xs).2.1 ≤ 4 ∧ 0 ≤ (takeLenS xs).2.2 ∧ (takeLenS xs).2.2 ≤ 12 := by
  have h0 : 0 ≤ xs.getD 0 0 ∧ xs.getD 0 0 < 256 := by
    rcases Nat.lt_or_ge 0 xs.length with h | h
    · exact hb _ (by simp [List.getD, List.getElem?_eq_getElem h])
    · simp [List.getD, List.getElem?_eq_none h]
  unfold takeLenS
  split
  · simp only []; omega
  · split
    · simp
    · split
      · simp
      · split
        · simp
        · have := numPart (xs.drop 1) (xs.getD 0 0 - 128).toNat (by omega) (fun x hx => hb x (List.mem_of_mem_drop hx))
          split
          · simp
          · simp only []
            omega

set_option maxRecDepth 100000 in
set_option maxHeartbeats 2000000 in
theorem find_any (ao : Option Addr) (n cap : Nat) (xs : List Int) (w : World) (hs : Src w ao n cap xs) (hN : (n : Int) ≤ 140737488355328) :
    Calls Try.prog 17 #[.slice ao n cap] w fun e w' => e = .returned (spanV (findS xs)) ∧ Below w.heap.size w w' := by
  have hl := hs.hlen
  have hnc := hs.hcap
  by_cases h0 : n = 0
  · have E := hide (show findS xs = (0, 0, 0, 10) by unfold findS; rw [if_pos (by omega)])
    subst h0
    clear hl
    go_enter Try.func17, Try.ntmps17
    go_wp2
    refine bodyPost_ret (v := spanV (0, 0, 0, 10)) (by simp [results, Try.results17, go_sem, spanV]) rfl ⟨by rw [E.out], ?_⟩
    exact (Below.refl _ _).alloc (Nat.le_refl _) _
  · obtain ⟨b, off, rfl, _⟩ := hs.hrd (by intro h; rw [h] at hl; simp at hl; omega)
    have c0 := hs.cell 0 (by omega)
    rw [Nat.add_zero] at c0
    have hb0 := hs.byte 0
    have hbl : b < w.heap.size := lt_of_cell c0
    obtain ⟨t, ht⟩ : ∃ t, xs.getD 0 0 = t := ⟨_, rfl⟩
    rw [ht] at c0 hb0
    obtain ⟨g0, g1⟩ := hb0
    have hn0 : ((n : Int) == 0) = false := by simp; omega
    have hnI : (0 : Int) < (n : Int) := by omega
    cases hT : isTagB t with
    | false =>
      have E := hide (show findS xs = (0, 0, 0, 11) by unfold findS; rw [if_neg (by omega), ht, if_pos hT])
      have HT := hide hT
      clear hl ht hT
      go_enter Try.func17, Try.ntmps17
      go_wp2_with (go_at_call 25; refine (isTag_any t _).mono ?_; rintro e w' ⟨rfl, hw⟩; subst hw; rw [HT.out])
      refine bodyPost_ret (v := spanV (0, 0, 0, 11)) (by simp [results, Try.results17, go_sem, spanV]) rfl ⟨by rw [E.out], ?_⟩
      exact (Below.refl _ _).alloc (Nat.le_refl _) _
    | true =>
      by_cases h1 : n = 1
      · have E := hide (show findS xs = (0, 0, 0, 10) by unfold findS; rw [if_neg (by omega), ht, if_neg (by rw [hT]; simp), if_pos (by omega)])
        have HT := hide hT
        subst h1
        clear hl ht hT
        go_enter Try.func17, Try.ntmps17
        go_wp2_with (go_at_call 25; refine (isTag_any t _).mono ?_; rintro e w' ⟨rfl, hw⟩; subst hw; rw [HT.out])
        refine bodyPost_ret (v := spanV (0, 0, 0, 10)) (by simp [results, Try.results17, go_sem, spanV]) rfl ⟨by rw [E.out], ?_⟩
        exact (Below.refl _ _).alloc (Nat.le_refl _) _
      · have hs1 := hs.cut 1 n (by omega) (Nat.le_refl _)
        have sl := fun W => slice_lo W (some ⟨b, off, none⟩) n cap 1 1 rfl (by omega)
        generalize hA : cutA (some ⟨b, off, none⟩) cap 1 = A at hs1 sl
        have ed : ((xs.take n).drop 1) = xs.drop 1 := by rw [List.take_of_length_le (by omega)]
        rw [ed] at hs1
        clear ed hA
        obtain ⟨b1, off1, rfl, _⟩ := hs1.hrd (by intro h; have := congrArg List.length h; simp [hl] at this; omega)
        have hn1 : ((n : Int) == 1) = false := by simp; omega
        have hbd := takeLenS_bd (xs.drop 1) hs1.hbyt
        have eF : findS xs = if (takeLenS (xs.drop 1)).2.2 ≠ 0 then (0, 0, 0, (takeLenS (xs.drop 1)).2.2)
            else if (n : Int) - (1 + (takeLenS (xs.drop 1)).2.1) < (takeLenS (xs.drop 1)).1 then (0, 0, 0, 10)
            else (t, 1 + (takeLenS (xs.drop 1)).2.1, 1 + (takeLenS (xs.drop 1)).2.1 + (takeLenS (xs.drop 1)).1, 0) := by
          unfold findS
          rw [if_neg (by omega), ht, if_neg (by rw [hT]; simp), if_neg (by omega), hl]
        have hcall := fun W (h : Src W (some ⟨b1, off1, none⟩) (n - 1) (cap - 1) (xs.drop 1)) => takeLen_any b1 off1 (n - 1) (cap - 1) (xs.drop 1) W h (by omega) (by omega)
        obtain ⟨r, hr⟩ : ∃ r, takeLenS (xs.drop 1) = r := ⟨_, rfl⟩
        rw [hr] at hbd eF hcall
        obtain ⟨N, size, err⟩ := r
        simp only at hbd eF hcall
        obtain ⟨q1, q2, q3, q4, q5, q6⟩ := hbd
        have HC := hide hcall
        have HT := hide hT
        clear hl ht hT hr hcall
        by_cases h2 : err = 0
        · subst h2
          rw [if_neg (by simp)] at eF
          by_cases h3 : (n : Int) - (1 + size) < N
          · rw [if_pos h3] at eF
            have E := hide eF
            clear eF
            go_enter Try.func17, Try.ntmps17
            go_wp2_with (first | (go_at_call 25; refine (isTag_any t _).mono ?_; rintro e w' ⟨rfl, hw⟩; subst hw; rw [HT.out]) | (go_at_call 26; refine (HC.out _ (hs1.alloc _)).mono ?_; rintro e w' ⟨rfl, hw⟩; subst hw))
            refine bodyPost_ret (v := spanV (0, 0, 0, 10)) (by simp [results, Try.results17, go_sem, spanV]) rfl ⟨by rw [E.out], ?_⟩
            exact (Below.refl _ _).alloc (Nat.le_refl _) _
          · rw [if_neg h3] at eF
            have E := hide eF
            clear eF
            go_enter Try.func17, Try.ntmps17
            go_wp2_with (first | (go_at_call 25; refine (isTag_any t _).mono ?_; rintro e w' ⟨rfl, hw⟩; subst hw; rw [HT.out]) | (go_at_call 26; refine (HC.out _ (hs1.alloc _)).mono ?_; rintro e w' ⟨rfl, hw⟩; subst hw))
            refine bodyPost_ret (v := spanV (t, 1 + size, 1 + size + N, 0)) (by simp [results, Try.results17, go_sem, spanV]) rfl ⟨by rw [E.out], ?_⟩
            exact (Below.refl _ _).alloc (Nat.le_refl _) _
        · rw [if_pos h2] at eF
          have E := hide eF
          have h2' : (err != 0) = true := by simpa using h2
          clear eF h2
          go_enter Try.func17, Try.ntmps17
          go_wp2_with (first | (go_at_call 25; refine (isTag_any t _).mono ?_; rintro e w' ⟨rfl, hw⟩; subst hw; rw [HT.out]) | (go_at_call 26; refine (HC.out _ (hs1.alloc _)).mono ?_; rintro e w' ⟨rfl, hw⟩; subst hw))
          refine bodyPost_ret (v := spanV (0, 0, 0, err)) (by simp [results, Try.results17, go_sem, spanV]) rfl ⟨by rw [E.out], ?_⟩
          exact (Below.refl _ _).alloc (Nat.le_refl _) _

end Go.Proofs.Ytdjlaaflmbdomaa
