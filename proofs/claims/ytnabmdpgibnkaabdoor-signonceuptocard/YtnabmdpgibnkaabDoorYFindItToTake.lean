/-
  der.find answers the element with which bytes begin, by places, or the error, as the plain function of the bytes says.
  bytes.Clone copies bytes into new memory; der's span.element answers the element that a span tells, its content copied.
  der.Take and der.One answer as the plain function of the bytes says, the content copied into new memory.
-/
import Derived.Test.YtnabmdpgibnkaabDoorYTLen
import Derived.Test.YtnabmdpgibnkaabDoorYMoreToBCmp
import Derived.WalkSpells
import Derived.Deep.RegionHeld3
namespace Go.Proofs.YtnabmdpgibnkaabDoor
open Go.RowKit Go.IntWalk

/-- What find answers. -/
def spanV (r : Int × Int × Int × Int) : Value := .tuple #[.agg #[.int .i64 r.1, .int .i64 r.2.1, .int .i64 r.2.2.1], .int .i64 r.2.2.2]

theorem takeLenS_bd (xs : List Int) (hb : ∀ x ∈ xs, 0 ≤ x ∧ x < 256) : 0 ≤ (takeLenS xs).1 ∧ (takeLenS xs).1 < 16777216 ∧ 0 ≤ (takeLenS xs).2.1 ∧ (takeLenS xs).2.1 ≤ 4 ∧ 0 ≤ (takeLenS xs).2.2 ∧ (takeLenS xs).2.2 ≤ 12 := by
  have h0 : 0 ≤ xs.getD 0 0 ∧ xs.getD 0 0 < 256 := by
    rcases Nat.lt_or_ge 0 xs.length with h | h
    · exact hb _ (by simp [List.getD, List.getElem?_eq_getElem h])
    · simp [List.getD, List.getElem?_eq_none h]
  unfold takeLenS
  split
  · simp only []; omega
  · split
    · simp
    · split
      · simp
      · split
        · simp
        · have := numPart (xs.drop 1) (xs.getD 0 0 - 128).toNat (by omega) (fun x hx => hb x (List.mem_of_mem_drop hx))
          split
          · simp
          · simp only []
            omega

set_option maxRecDepth 100000 in
set_option maxHeartbeats 2000000 in
theorem find_any (ao : Option Addr) (n cap : Nat) (xs : List Int) (w : World) (hs : Src w ao n cap xs) (hN : (n : Int) ≤ 140737488355328) :
    Calls Tryd.prog 69 #[.slice ao n cap] w fun e w' => e = .returned (spanV (findS xs)) ∧ Below w.heap.size w w' := by
  have hl := hs.hlen
  have hnc := hs.hcap
  by_cases h0 : n = 0
  · have E := hide (show findS xs = (0, 0, 0, 10) by unfold findS; rw [if_pos (by omega)])
    subst h0
    clear hl
    go_enter Tryd.func69, Tryd.ntmps69
    go_wp2
    refine bodyPost_ret (v := spanV (0, 0, 0, 10)) (by simp [results, Tryd.results69, go_sem, spanV]) rfl ⟨by rw [E.out], ?_⟩
    exact (Below.refl _ _).alloc (Nat.le_refl _) _
  · obtain ⟨b, off, rfl, _⟩ := hs.hrd (by intro h; rw [h] at hl; simp at hl; omega)
    have c0 := hs.cell 0 (by omega)
    rw [Nat.add_zero] at c0
    have hb0 := hs.byte 0
    have hbl : b < w.heap.size := lt_of_cell c0
    obtain ⟨t, ht⟩ : ∃ t, xs.getD 0 0 = t := ⟨_, rfl⟩
    rw [ht] at c0 hb0
    obtain ⟨g0, g1⟩ := hb0
    have hn0 : ((n : Int) == 0) = false := by simp; omega
    have hnI : (0 : Int) < (n : Int) := by omega
    cases hT : isTagB t with
    | false =>
      have E := hide (show findS xs = (0, 0, 0, 11) by unfold findS; rw [if_neg (by omega), ht, if_pos hT])
      have HT := hide hT
      clear hl ht hT
      go_enter Tryd.func69, Tryd.ntmps69
      go_wp2_with (go_at_call 74; refine (isTag_any t _).mono ?_; rintro e w' ⟨rfl, hw⟩; subst hw; rw [HT.out])
      refine bodyPost_ret (v := spanV (0, 0, 0, 11)) (by simp [results, Tryd.results69, go_sem, spanV]) rfl ⟨by rw [E.out], ?_⟩
      exact (Below.refl _ _).alloc (Nat.le_refl _) _
    | true =>
      by_cases h1 : n = 1
      · have E := hide (show findS xs = (0, 0, 0, 10) by unfold findS; rw [if_neg (by omega), ht, if_neg (by rw [hT]; simp), if_pos (by omega)])
        have HT := hide hT
        subst h1
        clear hl ht hT
        go_enter Tryd.func69, Tryd.ntmps69
        go_wp2_with (go_at_call 74; refine (isTag_any t _).mono ?_; rintro e w' ⟨rfl, hw⟩; subst hw; rw [HT.out])
        refine bodyPost_ret (v := spanV (0, 0, 0, 10)) (by simp [results, Tryd.results69, go_sem, spanV]) rfl ⟨by rw [E.out], ?_⟩
        exact (Below.refl _ _).alloc (Nat.le_refl _) _
      · have hs1 := hs.cut 1 n (by omega) (Nat.le_refl _)
        have sl := fun W => slice_lo W (some ⟨b, off, none⟩) n cap 1 1 rfl (by omega)
        generalize hA : cutA (some ⟨b, off, none⟩) cap 1 = A at hs1 sl
        have ed : ((xs.take n).drop 1) = xs.drop 1 := by rw [List.take_of_length_le (by omega)]
        rw [ed] at hs1
        clear ed hA
        obtain ⟨b1, off1, rfl, _⟩ := hs1.hrd (by intro h; have := congrArg List.length h; simp [hl] at this; omega)
        have hn1 : ((n : Int) == 1) = false := by simp; omega
        have hbd := takeLenS_bd (xs.drop 1) hs1.hbyt
        have eF : findS xs = if (takeLenS (xs.drop 1)).2.2 ≠ 0 then (0, 0, 0, (takeLenS (xs.drop 1)).2.2)
            else if (n : Int) - (1 + (takeLenS (xs.drop 1)).2.1) < (takeLenS (xs.drop 1)).1 then (0, 0, 0, 10)
            else (t, 1 + (takeLenS (xs.drop 1)).2.1, 1 + (takeLenS (xs.drop 1)).2.1 + (takeLenS (xs.drop 1)).1, 0) := by
          unfold findS
          rw [if_neg (by omega), ht, if_neg (by rw [hT]; simp), if_neg (by omega), hl]
        have hcall := fun W (h : Src W (some ⟨b1, off1, none⟩) (n - 1) (cap - 1) (xs.drop 1)) => takeLen_any b1 off1 (n - 1) (cap - 1) (xs.drop 1) W h (by omega) (by omega)
        obtain ⟨r, hr⟩ : ∃ r, takeLenS (xs.drop 1) = r := ⟨_, rfl⟩
        rw [hr] at hbd eF hcall
        obtain ⟨N, size, err⟩ := r
        simp only at hbd eF hcall
        obtain ⟨q1, q2, q3, q4, q5, q6⟩ := hbd
        have HC := hide hcall
        have HT := hide hT
        clear hl ht hT hr hcall
        by_cases h2 : err = 0
        · subst h2
          rw [if_neg (by simp)] at eF
          by_cases h3 : (n : Int) - (1 + size) < N
          · rw [if_pos h3] at eF
            have E := hide eF
            clear eF
            go_enter Tryd.func69, Tryd.ntmps69
            go_wp2_with (first | (go_at_call 74; refine (isTag_any t _).mono ?_; rintro e w' ⟨rfl, hw⟩; subst hw; rw [HT.out]) | (go_at_call 102; refine (HC.out _ (hs1.alloc _)).mono ?_; rintro e w' ⟨rfl, hw⟩; subst hw))
            refine bodyPost_ret (v := spanV (0, 0, 0, 10)) (by simp [results, Tryd.results69, go_sem, spanV]) rfl ⟨by rw [E.out], ?_⟩
            exact (Below.refl _ _).alloc (Nat.le_refl _) _
          · rw [if_neg h3] at eF
            have E := hide eF
            clear eF
            go_enter Tryd.func69, Tryd.ntmps69
            go_wp2_with (first | (go_at_call 74; refine (isTag_any t _).mono ?_; rintro e w' ⟨rfl, hw⟩; subst hw; rw [HT.out]) | (go_at_call 102; refine (HC.out _ (hs1.alloc _)).mono ?_; rintro e w' ⟨rfl, hw⟩; subst hw))
            refine bodyPost_ret (v := spanV (t, 1 + size, 1 + size + N, 0)) (by simp [results, Tryd.results69, go_sem, spanV]) rfl ⟨by rw [E.out], ?_⟩
            exact (Below.refl _ _).alloc (Nat.le_refl _) _
        · rw [if_pos h2] at eF
          have E := hide eF
          have h2' : (err != 0) = true := by simpa using h2
          clear eF h2
          go_enter Tryd.func69, Tryd.ntmps69
          go_wp2_with (first | (go_at_call 74; refine (isTag_any t _).mono ?_; rintro e w' ⟨rfl, hw⟩; subst hw; rw [HT.out]) | (go_at_call 102; refine (HC.out _ (hs1.alloc _)).mono ?_; rintro e w' ⟨rfl, hw⟩; subst hw))
          refine bodyPost_ret (v := spanV (0, 0, 0, err)) (by simp [results, Tryd.results69, go_sem, spanV]) rfl ⟨by rw [E.out], ?_⟩
          exact (Below.refl _ _).alloc (Nat.le_refl _) _

end Go.Proofs.YtnabmdpgibnkaabDoor

namespace Go.Proofs.YtnabmdpgibnkaabDoor
open Go.RowKit Go.IntWalk

set_option maxRecDepth 100000 in
set_option maxHeartbeats 1000000 in
theorem clone_any (ao : Option Addr) (n cap : Nat) (xs : List Int) (w : World) (hs : Src w ao n cap xs) (hN : n ≤ 140737488355328) :
    Calls Tryd.prog 103 #[.slice ao n cap] w fun e w' => ∃ ao' c', e = .returned (.slice ao' n c') ∧ OwnB w' w.heap.size (.slice ao' n c') xs ∧ Below w.heap.size w w' := by
  have q22 : ∀ (w : World) (a : Option Addr) (n c n' c' : Nat), (binOp .eql 22 (.slice a n c) (.slice none n' c')).run Tryd.prog w = .ok (.bool a.isNone) w :=
    fun w a n c n' c' => Lib.run_eql_slice_nil w _ _ a n c n' c' Tryd.underlying22
  have hl := hide hs.hlen
  cases ao with
  | none =>
    obtain ⟨rfl, rfl⟩ := hs.hnil rfl
    obtain rfl : xs = [] := List.eq_nil_of_length_eq_zero hl.out
    go_enter Tryd.func103, Tryd.ntmps103
    go_wp2
    go_ret
    exact ⟨_, _, rfl, OwnB.nil _ _, Below.refl _ _⟩
  | some ad =>
    go_enter Tryd.func103, Tryd.ntmps103
    go_wp2_with (at_builtin; refine wpList_appN _ rfl (.tmp 5) (.tmp 6) rfl w.heap.size (.slice (some ⟨w.heap.size, 0, none⟩) 0 0) [] rfl (OwnB.lit _ [] _ 0 rfl rfl (Nat.le_refl _) (by decide)) (some ad) n cap xs rfl (hs.alloc _) n (by simpa using hl.out) (.inl (by simp)) (by omega) (by simp) ?_; intro g1 c1 w1 ho1 hb1 hl1 hc1 hm1 hg1)
    go_ret
    exact ⟨_, _, rfl, ho1, ((Below.refl _ _).alloc (Nat.le_refl _) _).grown hg1 (by simp) (by intro k hk; cases hk; exact Nat.le_refl _)⟩

set_option maxRecDepth 100000 in
set_option maxHeartbeats 2000000 in
theorem element_any (tag : Int) (l h : Nat) (ao : Option Addr) (n cap : Nat) (xs : List Int) (w : World) (hs : Src w ao n cap xs) (hN : (n : Int) ≤ 140737488355328) (hlh : l ≤ h) (hhn : h ≤ n) :
    Calls Tryd.prog 70 #[.agg #[.int .i64 tag, .int .i64 l, .int .i64 h], .slice ao n cap] w fun e w' =>
      ∃ ao' c', e = .returned (.agg #[.int .i64 tag, .slice ao' (h - l) c']) ∧ OwnB w' w.heap.size (.slice ao' (h - l) c') ((xs.take h).drop l) ∧ Below w.heap.size w w' := by
  have hnc := hs.hcap
  have hs1 := hs.cut l h hlh hhn
  have sl := fun W => slice_lh W ao n cap l h l h rfl rfl hlh (by omega)
  generalize cutA ao cap l = A at hs1 sl
  generalize (xs.take h).drop l = ys at hs1 ⊢
  go_enter Tryd.func70, Tryd.ntmps70
  go_wp2
  go_region_held3 (fun W => W.cell? ⟨w.heap.size, 0, none⟩ = some (.int .i64 tag) ∧ W.cell? ⟨w.heap.size, 1, none⟩ = some (.int .i64 l) ∧ W.cell? ⟨w.heap.size, 2, none⟩ = some (.int .i64 h)) (go_keep) (first | (go_at_call 103; refine (clone_any _ _ _ ys _ (by exact ((hs1.alloc _).alloc _).drewN 1) (by omega)).mono ?_; rintro e w1 ⟨ao', c', rfl, hv, hb1⟩; obtain ⟨hc, hf⟩ := bcell hb1; have k0 : w1.cell? ⟨w.heap.size, 0, none⟩ = some (.int .i64 tag) := (by rw [hc _ _ (by simp; omega)]; simp); have k1 : w1.cell? ⟨w.heap.size, 1, none⟩ = some (.int .i64 l) := (by rw [hc _ _ (by simp; omega)]; simp); have k2 : w1.cell? ⟨w.heap.size, 2, none⟩ = some (.int .i64 h) := (by rw [hc _ _ (by simp; omega)]; simp); have hz : w.heap.size + 1 < w1.heap.size := by (have := hb1.size; simp at this; omega)))
  go_wp2
  refine bodyPost_ret (v := .agg #[.int .i64 tag, .slice ao' (h - l) c']) (by simp [results, Tryd.results70, go_sem, hc]) rfl ⟨ao', c', rfl, ?_, ?_⟩
  · exact ((hv.setBelow (by simp) _).setBelow (by simp) _).rebase (by simp; omega)
  · exact ((((((Below.refl _ _).alloc (Nat.le_refl _) _).alloc (by simp) _).drew).trans (hb1.mono (by simp; omega))).setCell (by simp) _).setCell (by simp) _

end Go.Proofs.YtnabmdpgibnkaabDoor

namespace Go.Proofs.YtnabmdpgibnkaabDoor
open Go.RowKit Go.IntWalk

theorem takeLenS_size (xs : List Int) (h : (takeLenS xs).2.2 = 0) : 1 ≤ (takeLenS xs).2.1 := by
  unfold takeLenS at *
  split at h
  · rw [if_pos (by assumption)]; simp
  · rename_i h1
    rw [if_neg h1] 
    split at h
    · simp at h
    · rename_i h2
      rw [if_neg h2]
      split at h
      · simp at h
      · rename_i h3
        rw [if_neg h3]
        split at h
        · simp at h
        · rename_i h4
          rw [if_neg h4]
          split at h
          · simp at h
          · rename_i h5
            rw [if_neg h5]
            simp only []
            omega

theorem findS_cases (xs : List Int) (hb : ∀ x ∈ xs, 0 ≤ x ∧ x < 256) :
    (∃ err : Int, err ≠ 0 ∧ 0 < err ∧ err ≤ 12 ∧ findS xs = (0, 0, 0, err)) ∨
    ∃ (l h : Nat), findS xs = (xs.getD 0 0, (l : Int), (h : Int), 0) ∧ 2 ≤ l ∧ l ≤ 5 ∧ l ≤ h ∧ h ≤ xs.length ∧ h - l < 16777216 := by
  have hbd := takeLenS_bd (xs.drop 1) (fun x hx => hb x (List.mem_of_mem_drop hx))
  have hsz := takeLenS_size (xs.drop 1)
  unfold findS
  by_cases h1 : xs.length = 0
  · rw [if_pos h1]; exact .inl ⟨10, by decide, by decide, by decide, rfl⟩
  · rw [if_neg h1]
    by_cases h2 : isTagB (xs.getD 0 0) = false
    · rw [if_pos h2]; exact .inl ⟨11, by decide, by decide, by decide, rfl⟩
    · rw [if_neg h2]
      by_cases h3 : xs.length = 1
      · rw [if_pos h3]; exact .inl ⟨10, by decide, by decide, by decide, rfl⟩
      · rw [if_neg h3]
        by_cases h4 : (takeLenS (xs.drop 1)).2.2 ≠ 0
        · rw [if_pos h4]; exact .inl ⟨_, h4, by omega, by omega, rfl⟩
        · rw [if_neg h4]
          have hsz := hsz (by omega)
          by_cases h5 : (xs.length : Int) - (1 + (takeLenS (xs.drop 1)).2.1) < (takeLenS (xs.drop 1)).1
          · rw [if_pos h5]; exact .inl ⟨10, by decide, by decide, by decide, rfl⟩
          · rw [if_neg h5]
            refine .inr ⟨(1 + (takeLenS (xs.drop 1)).2.1).toNat, (1 + (takeLenS (xs.drop 1)).2.1 + (takeLenS (xs.drop 1)).1).toNat, ?_, by omega, by omega, by omega, by omega, by omega⟩
            rw [Int.toNat_of_nonneg (by omega), Int.toNat_of_nonneg (by omega)]

/-- The content of the element with which bytes begin; none where there is none. -/
def contS (xs : List Int) : List Int := (xs.take (findS xs).2.2.1.toNat).drop (findS xs).2.1.toNat

end Go.Proofs.YtnabmdpgibnkaabDoor
