/-
  der.takeLength answers as the plain function of the bytes says, and writes nothing.
  der.find answers the element with which bytes begin, by places, or the error, as the plain function of the bytes says.
-/
import Derived.Test.YtgbbgfjamneioaaDoorXCloneToFind
namespace Go.Proofs.YtgbbgfjamneioaaDoor
open Go.RowKit Go.IntWalk

theorem Src.cell {w : World} {b off n cap : Nat} {xs : List Int} (hs : Src w (some ⟨b, off, none⟩) n cap xs) (i : Nat) (hi : i < n) :
    w.cell? ⟨b, off + i, none⟩ = some (.int .u8 (xs.getD i 0)) := by
  have hl := hs.hlen
  obtain ⟨b', off', he, hc⟩ := hs.hrd (by intro h; simp [h] at hl; omega)
  simp at he
  obtain ⟨rfl, rfl⟩ := he
  exact hc i (by omega)

theorem Src.byte {w : World} {ao : Option Addr} {n cap : Nat} {xs : List Int} (hs : Src w ao n cap xs) (i : Nat) : 0 ≤ xs.getD i 0 ∧ xs.getD i 0 < 256 := by
  rcases Nat.lt_or_ge i xs.length with h | h
  · have := hs.hbyt (xs.getD i 0) (by simp [List.getD, List.getElem?_eq_getElem h])
    exact this
  · simp [List.getD, List.getElem?_eq_none h]

theorem numTake (ys : List Int) (j : Nat) (h : j < ys.length) : numOf (ys.take (j + 1)) = numOf (ys.take j) * 256 + ys.getD j 0 := by
  rw [List.take_succ_eq_append_getElem h, numOf_snoc]
  simp [List.getD, List.getElem?_eq_getElem h]

theorem numPart (ys : List Int) (j : Nat) (h : j ≤ 3) (hb : ∀ x ∈ ys, 0 ≤ x ∧ x < 256) : 0 ≤ numOf (ys.take j) ∧ numOf (ys.take j) < 16777216 := by
  have h1 := numOf_bd (ys.take j).length (ys.take j) rfl (fun x hx => hb x (List.mem_of_mem_take hx))
  have hl : (ys.take j).length ≤ 3 := by simp; omega
  refine ⟨h1.1, Int.lt_of_lt_of_le h1.2 ?_⟩
  have : ∀ m : Nat, m ≤ 3 → (256 : Int) ^ m ≤ 16777216 := by
    intro m hm
    match m, hm with
    | 0, _ => decide
    | 1, _ => decide
    | 2, _ => decide
    | 3, _ => decide
  exact this _ hl

set_option maxRecDepth 100000 in
set_option maxHeartbeats 2000000 in
theorem takeLen_any (b off n cap : Nat) (xs : List Int) (w : World) (hs : Src w (some ⟨b, off, none⟩) n cap xs) (hn : 0 < n) (hN : (n : Int) ≤ 140737488355328) :
    Calls Tryd.prog 86 #[.slice (some ⟨b, off, none⟩) n cap] w fun e w' =>
      e = .returned (.tuple #[.int .i64 (takeLenS xs).1, .int .i64 (takeLenS xs).2.1, .int .i64 (takeLenS xs).2.2]) ∧ w' = w := by
  have hlen := hide hs.hlen
  have c0 := hs.cell 0 hn
  rw [Nat.add_zero] at c0
  have hb0 := hs.byte 0
  have hnc := hs.hcap
  have hnI : (0 : Int) < (n : Int) := by omega
  obtain ⟨f, hf⟩ : ∃ f, xs.getD 0 0 = f := ⟨_, rfl⟩
  rw [hf] at c0 hb0
  obtain ⟨g0, g1⟩ := hb0
  by_cases h1 : f ≤ 127
  · have e1 : takeLenS xs = (f, 1, 0) := by unfold takeLenS; rw [hf, if_pos h1]
    have E := hide e1
    clear e1 hf
    go_enter Tryd.func86, Tryd.ntmps86
    go_wp2
    go_ret3
    rw [E.out]
    exact ⟨rfl, rfl⟩
  · by_cases h2 : f = 128
    · have e1 : takeLenS xs = (0, 0, 12) := by unfold takeLenS; rw [hf, if_neg h1, if_pos (.inl h2)]
      have E := hide e1
      clear e1 hf
      subst h2
      go_enter Tryd.func86, Tryd.ntmps86
      go_wp2
      go_ret3
      rw [E.out]
      exact ⟨rfl, rfl⟩
    · by_cases h3 : 131 < f
      · have e1 : takeLenS xs = (0, 0, 12) := by unfold takeLenS; rw [hf, if_neg h1, if_pos (.inr h3)]
        have E := hide e1
        have h2' : (f - 128 == 0) = false := by simp; omega
        clear e1 hf h2
        go_enter Tryd.func86, Tryd.ntmps86
        go_wp2
        go_ret3
        rw [E.out]
        exact ⟨rfl, rfl⟩
      · obtain ⟨k, hk⟩ := Int.eq_ofNat_of_zero_le (show 0 ≤ f - 128 by omega)
        have hfk : f = 128 + (k : Int) := by omega
        subst hfk
        clear hk
        have k1 : 1 ≤ k := by omega
        have k3 : k ≤ 3 := by omega
        have hk0 : ((128 : Int) + (k : Int) - 128 == 0) = false := by simp; omega
        have hs1 := hs.cut 1 n (by omega) (Nat.le_refl _)
        have sl := fun W => slice_lo W (some ⟨b, off, none⟩) n cap 1 1 rfl (by omega)
        generalize hA : cutA (some ⟨b, off, none⟩) cap 1 = A at hs1 sl
        have ed : ((xs.take n).drop 1) = xs.drop 1 := by rw [List.take_of_length_le (by rw [hlen.out]; exact Nat.le_refl _)]
        rw [ed] at hs1
        clear ed hA
        have hl := hlen.out
        by_cases h4 : n = 1
        · have e1 : takeLenS xs = (0, 0, 10) := by
            unfold takeLenS
            rw [hf, if_neg h1, if_neg (by omega), if_neg (by omega), if_pos (by omega)]
          have E := hide e1
          clear e1 hf hl
          subst h4
          go_enter Tryd.func86, Tryd.ntmps86
          go_wp2
          go_ret3
          rw [E.out]
          exact ⟨rfl, rfl⟩
        · obtain ⟨b1, off1, rfl, hc1⟩ := hs1.hrd (by intro h; have := congrArg List.length h; simp [hl] at this; omega)
          have d0 := hs1.cell 0 (by omega)
          rw [Nat.add_zero] at d0
          have e0 : (xs.drop 1).getD 0 0 = xs.getD 1 0 := by simp [List.getD]
          rw [e0] at d0
          have hn1 : (0 : Int) < ((n - 1 : Nat) : Int) := by omega
          have hgz : 0 < n - 1 := by omega
          by_cases h5 : xs.getD 1 0 = 0
          · have e1 : takeLenS xs = (0, 0, 12) := by
              unfold takeLenS
              rw [hf, if_neg h1, if_neg (by omega), if_pos ⟨by omega, h5⟩]
            have E := hide e1
            rw [h5] at d0
            clear e1 hf hl h5 e0 hc1
            go_enter Tryd.func86, Tryd.ntmps86
            go_wp2
            go_ret3
            rw [E.out]
            exact ⟨rfl, rfl⟩
          · obtain ⟨d, hd⟩ : ∃ d, xs.getD 1 0 = d := ⟨_, rfl⟩
            rw [hd] at d0 h5
            have hdz : (d == 0) = false := by simpa using h5
            clear e0
            by_cases h6 : n - 1 < k
            · have e1 : takeLenS xs = (0, 0, 10) := by
                unfold takeLenS
                rw [hf, hd, if_neg h1, if_neg (by omega), if_neg (by omega), if_pos (by omega)]
              have E := hide e1
              have h6' : ((n - 1 : Nat) : Int) < (k : Int) := by omega
              clear e1 hf hl hc1 hd h5
              go_enter Tryd.func86, Tryd.ntmps86
              go_wp2
              go_ret3
              rw [E.out]
              exact ⟨rfl, rfl⟩
            · have h6' : ¬ ((n - 1 : Nat) : Int) < (k : Int) := by omega
              have HF := hide hf
              have HD := hide hd
              have HX := hide hl
              clear hf hl hc1 hd h5
              go_enter Tryd.func86, Tryd.ntmps86
              go_wp2
              go_loop [8, 45] (fun a i => ∃ j : Nat, j ≤ k ∧ i = .int .i64 j ∧ a = .int .i64 (numOf ((xs.drop 1).take j))) (fun _ i => k - (intOf i).toNat)
              case atStart => exact ⟨0, Nat.zero_le _, rfl, rfl⟩
              case round =>
                obtain ⟨j, hj, rfl, rfl⟩ := hrel
                have hbd := numPart (xs.drop 1) j (by omega) (fun x hx => hs1.hbyt x hx)
                by_cases hlt : j < k
                · have dj := hs1.cell j (by omega)
                  have hbj := hs1.byte j
                  have hsn := hide (numTake (xs.drop 1) j (by rw [List.length_drop, HX.out]; omega))
                  obtain ⟨dv, hdv⟩ : ∃ dv, (xs.drop 1).getD j 0 = dv := ⟨_, rfl⟩
                  rw [hdv] at dj hbj
                  have HV := hide hdv
                  obtain ⟨N, hN'⟩ : ∃ N, numOf ((xs.drop 1).take j) = N := ⟨_, rfl⟩
                  rw [hN'] at hbd
                  have hor := or256 N dv hbd.1 (by omega) hbj.1 hbj.2
                  rw [hN']
                  have HN := hide hN'
                  clear hN' hdv
                  obtain ⟨q1, q2⟩ := hbd
                  obtain ⟨q3, q4⟩ := hbj
                  go_wp2
                  go_round
                  case rel => exact ⟨j + 1, by omega, by go_num, by rw [hsn.out, HN.out, HV.out]⟩
                  case measure => simp [intOf]; omega
                · obtain rfl : j = k := by omega
                  have eS : takeLenS xs = if numOf ((xs.drop 1).take j) ≤ 127 then (0, 0, 12) else (numOf ((xs.drop 1).take j), 1 + ((128 : Int) + (j : Int) - 128), 0) := by
                    unfold takeLenS
                    rw [HF.out, HD.out, if_neg (by omega), if_neg (by omega), if_neg (by simp at hdz; omega), if_neg (by rw [HX.out]; omega)]
                    rw [show ((128 : Int) + (j : Int) - 128).toNat = j by omega]
                  obtain ⟨N, hN'⟩ : ∃ N, numOf ((xs.drop 1).take j) = N := ⟨_, rfl⟩
                  rw [hN'] at hbd eS
                  rw [hN']
                  clear hN'
                  by_cases h7 : N ≤ 127
                  · rw [if_pos h7] at eS
                    have E := hide eS
                    clear eS
                    go_wp2
                    go_ret3
                    rw [E.out]
                    exact ⟨rfl, rfl⟩
                  · rw [if_neg h7] at eS
                    have E := hide eS
                    clear eS
                    go_wp2
                    go_ret3
                    rw [E.out]
                    exact ⟨rfl, rfl⟩

end Go.Proofs.YtgbbgfjamneioaaDoor

namespace Go.Proofs.YtgbbgfjamneioaaDoor
open Go.RowKit Go.IntWalk

/-- What find answers. -/
def spanV (r : Int × Int × Int × Int) : Value := .tuple #[.agg #[.int .i64 r.1, .int .i64 r.2.1, .int .i64 r.2.2.1], .int .i64 r.2.2.2]

theorem takeLenS_bd (xs : List Int) (hb : ∀ x ∈ xs, 0 ≤ x ∧ x < 256) : 0 ≤ (takeLenS xs).1 ∧ (takeLenS xs).1 < 16777216 ∧ 0 ≤ (takeLenS xs).2.1 ∧ (takeLenS xs).2.1 ≤ 4 ∧ 0 ≤ (takeLenS xs).2.2 ∧ (takeLenS xs).2.2 ≤ 12 := by
  have h0 : 0 ≤ xs.getD 0 0 ∧ xs.getD 0 0 < 256 := by
    rcases Nat.lt_or_ge 0 xs.length with h | h
    · exact hb _ (by simp [List.getD, List.getElem?_eq_getElem h])
    · simp [List.getD, List.getElem?_eq_none h]
  unfold takeLenS
  split
  · simp only []; omega
  · split
    · simp
    · split
      · simp
      · split
        · simp
        · have := numPart (xs.drop 1) (xs.getD 0 0 - 128).toNat (by omega) (fun x hx => hb x (List.mem_of_mem_drop hx))
          split
          · simp
          · simp only []
            omega

set_option maxRecDepth 100000 in
set_option maxHeartbeats 2000000 in
theorem find_any (ao : Option Addr) (n cap : Nat) (xs : List Int) (w : World) (hs : Src w ao n cap xs) (hN : (n : Int) ≤ 140737488355328) :
    Calls Tryd.prog 62 #[.slice ao n cap] w fun e w' => e = .returned (spanV (findS xs)) ∧ Below w.heap.size w w' := by
  have hl := hs.hlen
  have hnc := hs.hcap
  by_cases h0 : n = 0
  · have E := hide (show findS xs = (0, 0, 0, 10) by unfold findS; rw [if_pos (by omega)])
    subst h0
    clear hl
    go_enter Tryd.func62, Tryd.ntmps62
    go_wp2
    refine bodyPost_ret (v := spanV (0, 0, 0, 10)) (by simp [results, Tryd.results62, go_sem, spanV]) rfl ⟨by rw [E.out], ?_⟩
    exact (Below.refl _ _).alloc (Nat.le_refl _) _
  · obtain ⟨b, off, rfl, _⟩ := hs.hrd (by intro h; rw [h] at hl; simp at hl; omega)
    have c0 := hs.cell 0 (by omega)
    rw [Nat.add_zero] at c0
    have hb0 := hs.byte 0
    have hbl : b < w.heap.size := lt_of_cell c0
    obtain ⟨t, ht⟩ : ∃ t, xs.getD 0 0 = t := ⟨_, rfl⟩
    rw [ht] at c0 hb0
    obtain ⟨g0, g1⟩ := hb0
    have hn0 : ((n : Int) == 0) = false := by simp; omega
    have hnI : (0 : Int) < (n : Int) := by omega
    cases hT : isTagB t with
    | false =>
      have E := hide (show findS xs = (0, 0, 0, 11) by unfold findS; rw [if_neg (by omega), ht, if_pos hT])
      have HT := hide hT
      clear hl ht hT
      go_enter Tryd.func62, Tryd.ntmps62
      go_wp2_with (go_at_call 72; refine (isTag_any t _).mono ?_; rintro e w' ⟨rfl, hw⟩; subst hw; rw [HT.out])
      refine bodyPost_ret (v := spanV (0, 0, 0, 11)) (by simp [results, Tryd.results62, go_sem, spanV]) rfl ⟨by rw [E.out], ?_⟩
      exact (Below.refl _ _).alloc (Nat.le_refl _) _
    | true =>
      by_cases h1 : n = 1
      · have E := hide (show findS xs = (0, 0, 0, 10) by unfold findS; rw [if_neg (by omega), ht, if_neg (by rw [hT]; simp), if_pos (by omega)])
        have HT := hide hT
        subst h1
        clear hl ht hT
        go_enter Tryd.func62, Tryd.ntmps62
        go_wp2_with (go_at_call 72; refine (isTag_any t _).mono ?_; rintro e w' ⟨rfl, hw⟩; subst hw; rw [HT.out])
        refine bodyPost_ret (v := spanV (0, 0, 0, 10)) (by simp [results, Tryd.results62, go_sem, spanV]) rfl ⟨by rw [E.out], ?_⟩
        exact (Below.refl _ _).alloc (Nat.le_refl _) _
      · have hs1 := hs.cut 1 n (by omega) (Nat.le_refl _)
        have sl := fun W => slice_lo W (some ⟨b, off, none⟩) n cap 1 1 rfl (by omega)
        generalize hA : cutA (some ⟨b, off, none⟩) cap 1 = A at hs1 sl
        have ed : ((xs.take n).drop 1) = xs.drop 1 := by rw [List.take_of_length_le (by omega)]
        rw [ed] at hs1
        clear ed hA
        obtain ⟨b1, off1, rfl, _⟩ := hs1.hrd (by intro h; have := congrArg List.length h; simp [hl] at this; omega)
        have hn1 : ((n : Int) == 1) = false := by simp; omega
        have hbd := takeLenS_bd (xs.drop 1) hs1.hbyt
        have eF : findS xs = if (takeLenS (xs.drop 1)).2.2 ≠ 0 then (0, 0, 0, (takeLenS (xs.drop 1)).2.2)
            else if (n : Int) - (1 + (takeLenS (xs.drop 1)).2.1) < (takeLenS (xs.drop 1)).1 then (0, 0, 0, 10)
            else (t, 1 + (takeLenS (xs.drop 1)).2.1, 1 + (takeLenS (xs.drop 1)).2.1 + (takeLenS (xs.drop 1)).1, 0) := by
          unfold findS
          rw [if_neg (by omega), ht, if_neg (by rw [hT]; simp), if_neg (by omega), hl]
        have hcall := fun W (h : Src W (some ⟨b1, off1, none⟩) (n - 1) (cap - 1) (xs.drop 1)) => takeLen_any b1 off1 (n - 1) (cap - 1) (xs.drop 1) W h (by omega) (by omega)
        obtain ⟨r, hr⟩ : ∃ r, takeLenS (xs.drop 1) = r := ⟨_, rfl⟩
        rw [hr] at hbd eF hcall
        obtain ⟨N, size, err⟩ := r
        simp only at hbd eF hcall
        obtain ⟨q1, q2, q3, q4, q5, q6⟩ := hbd
        have HC := hide hcall
        have HT := hide hT
        clear hl ht hT hr hcall
        by_cases h2 : err = 0
        · subst h2
          rw [if_neg (by simp)] at eF
          by_cases h3 : (n : Int) - (1 + size) < N
          · rw [if_pos h3] at eF
            have E := hide eF
            clear eF
            go_enter Tryd.func62, Tryd.ntmps62
            go_wp2_with (first | (go_at_call 72; refine (isTag_any t _).mono ?_; rintro e w' ⟨rfl, hw⟩; subst hw; rw [HT.out]) | (go_at_call 86; refine (HC.out _ (hs1.alloc _)).mono ?_; rintro e w' ⟨rfl, hw⟩; subst hw))
            refine bodyPost_ret (v := spanV (0, 0, 0, 10)) (by simp [results, Tryd.results62, go_sem, spanV]) rfl ⟨by rw [E.out], ?_⟩
            exact (Below.refl _ _).alloc (Nat.le_refl _) _
          · rw [if_neg h3] at eF
            have E := hide eF
            clear eF
            go_enter Tryd.func62, Tryd.ntmps62
            go_wp2_with (first | (go_at_call 72; refine (isTag_any t _).mono ?_; rintro e w' ⟨rfl, hw⟩; subst hw; rw [HT.out]) | (go_at_call 86; refine (HC.out _ (hs1.alloc _)).mono ?_; rintro e w' ⟨rfl, hw⟩; subst hw))
            refine bodyPost_ret (v := spanV (t, 1 + size, 1 + size + N, 0)) (by simp [results, Tryd.results62, go_sem, spanV]) rfl ⟨by rw [E.out], ?_⟩
            exact (Below.refl _ _).alloc (Nat.le_refl _) _
        · rw [if_pos h2] at eF
          have E := hide eF
          have h2' : (err != 0) = true := by simpa using h2
          clear eF h2
          go_enter Tryd.func62, Tryd.ntmps62
          go_wp2_with (first | (go_at_call 72; refine (isTag_any t _).mono ?_; rintro e w' ⟨rfl, hw⟩; subst hw; rw [HT.out]) | (go_at_call 86; refine (HC.out _ (hs1.alloc _)).mono ?_; rintro e w' ⟨rfl, hw⟩; subst hw))
          refine bodyPost_ret (v := spanV (0, 0, 0, err)) (by simp [results, Tryd.results62, go_sem, spanV]) rfl ⟨by rw [E.out], ?_⟩
          exact (Below.refl _ _).alloc (Nat.le_refl _) _

end Go.Proofs.YtgbbgfjamneioaaDoor
