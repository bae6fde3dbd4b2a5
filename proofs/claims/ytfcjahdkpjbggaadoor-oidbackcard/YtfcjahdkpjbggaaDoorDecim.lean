/-
  oid.decimal reads an arc in decimal digits, or gives up.
-/
import Derived.Test.YtfcjahdkpjbggaaDoorBehind
import Derived.Test.YtfcjahdkpjbggaaDoorMore
import Derived.Test.YtfcjahdkpjbggaaDoorCRow
namespace Go.Proofs.YtfcjahdkpjbggaaDoor
open Go.RowKit Go.IntWalk

/-- Digits, behind a number. -/
def digGo (n : Int) : List Int → Option Int
  | [] => some n
  | c :: r => if c < 48 ∨ 57 < c then none else if 2147483647 < n * 10 + (c - 48) then none else digGo (n * 10 + (c - 48)) r
/-- The arc that a part of a text is. -/
def arcT (l : List Int) : Option Int := if l = [] ∨ (l.head? = some 48 ∧ l ≠ [48]) then none else digGo 0 l

def arcEnd : Option Int → Ending
  | some n => .returned (.int .i64 n)
  | none => .panicked (errP 33)

theorem getD_of_drop {l r : List Int} {k : Nat} {x : Int} (h : l.drop k = x :: r) : k < l.length ∧ l.getD k 0 = x ∧ l.drop (k + 1) = r := by
  have hk : k < l.length := by
    rcases Nat.lt_or_ge k l.length with h' | h'
    · exact h'
    · rw [List.drop_eq_nil_of_le h'] at h; cases h
  rw [List.drop_eq_getElem_cons hk] at h
  have h1 := (List.cons.inj h).1
  have h2 := (List.cons.inj h).2
  exact ⟨hk, by simp [List.getD, List.getElem?_eq_getElem hk, h1], h2⟩

set_option maxRecDepth 100000 in
set_option maxHeartbeats 1000000 in
theorem decimal_any (xs : List Int) (hb : ∀ x ∈ xs, 0 ≤ x ∧ x < 256) (w : World) (hs : xs.length ≤ 1048576) :
    Calls Tryd.prog 19 #[.string (strOfNums xs)] w fun e w' => e = arcEnd (arcT xs) ∧ Below w.heap.size w w' := by
  have hcv := hide (fun W => bytes_of W xs hb hs)
  have hz := strOfNums_size xs
  cases xs with
  | nil =>
    have e0 : (strOfNums []) = ⟨#[]⟩ := rfl
    rw [e0]
    go_enter Tryd.func19, Tryd.ntmps19
    go_wp2
    exact ⟨rfl, rfl, Below.refl _ _⟩
  | cons c r =>
    have hnE : (strOfNums (c :: r)).toList.isEmpty = false := by rw [ByteArray.toList_eq, strOfNums_data]; rfl
    have hp : 0 < (strOfNums (c :: r)).size := by rw [hz]; simp
    have hc := hb c (by simp)
    have e0 : (((strOfNums (c :: r))[0]'hp).toNat : Int) = c := by
      have h1 := bytes_back (c :: r) hb 0 (by simp)
      have h2 : (strOfNums (c :: r)).data.toList.getD 0 0 = (strOfNums (c :: r))[0]'hp := by rw [strOfNums_data]; rfl
      rw [h2] at h1
      exact h1
    obtain ⟨cap, wb, hcv1, hrow, hB⟩ := hcv.out w
    have hl : Hid (arcT (c :: r) = if c = 48 ∧ r ≠ [] then none else digGo 0 (c :: r)) := by
      unfold Hid arcT
      by_cases h1 : c = 48 ∧ r ≠ []
      · rw [if_pos h1, if_pos]; right; simp [h1.1, h1.2]
      · rw [if_neg h1, if_neg]; simp; intro h2; subst h2; simpa using h1
    by_cases hbad : c = 48 ∧ r ≠ []
    · obtain ⟨rfl, hr⟩ := hbad
      have hne : ((strOfNums (48 :: r)).toList == [48]) = false := by
        rw [ByteArray.toList_eq, strOfNums_data]
        cases r with
        | nil => exact absurd rfl hr
        | cons y z => simp
      have hfin : Hid (arcT (48 :: r) = none) := by unfold Hid; rw [hl.out, if_pos ⟨rfl, hr⟩]
      clear hl hcv1 hcv hrow hB
      go_enter Tryd.func19, Tryd.ntmps19
      go_wp2
      refine ⟨rfl, ?_, Below.refl _ _⟩
      rw [hfin.out]; rfl
    · have hfin : Hid (arcT (c :: r) = digGo 0 (c :: r)) := by unfold Hid; rw [hl.out, if_neg hbad]
      clear hl hcv
      obtain ⟨m, hm1⟩ : ∃ m, (c :: r).length = m := ⟨_, rfl⟩
      rw [hm1] at hcv1 hrow hz hs
      obtain ⟨ys, hys⟩ : ∃ ys, c :: r = ys := ⟨_, rfl⟩
      have hY : Hid (∀ x ∈ ys, 0 ≤ x ∧ x < 256) := by rw [← hys]; exact hb
      have hm : Hid (ys.length = m) := by rw [← hys]; exact hm1
      have HR : Hid (RowB wb w.heap.size w.heap.size m cap ys) := by rw [← hys]; exact hrow
      have HB := hide hB
      have hfin : Hid (arcT (c :: r) = digGo 0 ys) := by rw [← hys]; exact hfin
      clear hrow hB hys hb hm1
      generalize hS : strOfNums (c :: r) = S at *
      by_cases h48 : c = 48
      · have hq : (S.toList == [48]) = true := by
          rw [← hS, ByteArray.toList_eq, strOfNums_data]
          have : r = [] := by cases r with | nil => rfl | cons y z => exact absurd ⟨h48, by simp⟩ hbad
          subst this
          subst h48
          rfl
        have h48b : (c == 48) = true := by simpa using h48
        clear h48
        go_enter Tryd.func19, Tryd.ntmps19
        clear hS
        go_wp2
        go_loop [3, 21] (fun nn i => ∃ (I : Nat) (N : Int), i = .int .i64 I ∧ nn = .int .i64 N ∧ I ≤ m ∧ 0 ≤ N ∧ N ≤ 2147483647 ∧ Hid (digGo 0 ys = digGo N (ys.drop I))) (fun _ i => m - (intOf i).toNat)
        case atStart => exact ⟨0, 0, rfl, rfl, Nat.zero_le _, by omega, by omega, rfl⟩
        case round =>
          obtain ⟨I, N, rfl, rfl, hI, hN0, hN1, hE⟩ := hrel
          by_cases hlt : I < m
          · have ltI : (I : Int) < (m : Int) := by omega
            obtain ⟨x, rest, hd⟩ : ∃ x rest, ys.drop I = x :: rest := by
              cases hd : ys.drop I with
              | nil => have := List.drop_eq_nil_iff.1 hd; have := hm.out; omega
              | cons x rest => exact ⟨x, rest, rfl⟩
            obtain ⟨_, hg, hd2⟩ := getD_of_drop hd
            have hx := hY.out x (List.mem_of_mem_drop (by rw [hd]; simp))
            have hcell := HR.out.cell I hlt
            rw [hg] at hcell
            rw [hd, digGo] at hE
            have hd2' := hide hd2
            clear hg hd hd2
            by_cases h1 : x < 48
            · have hF : Hid (digGo 0 ys = none) := by unfold Hid; rw [hE.out, if_pos (.inl h1)]
              have d1 : decide (x < 48) = true := decide_eq_true h1
              clear hE
              go_wp2
              refine ⟨rfl, ?_, HB.out⟩
              rw [hfin.out, hF.out]; rfl
            · have d1 : decide (x < 48) = false := decide_eq_false h1
              by_cases h2 : 57 < x
              · have hF : Hid (digGo 0 ys = none) := by unfold Hid; rw [hE.out, if_pos (.inr h2)]
                have d2 : decide (57 < x) = true := decide_eq_true h2
                clear hE
                go_wp2
                refine ⟨rfl, ?_, HB.out⟩
                rw [hfin.out, hF.out]; rfl
              · have d2 : decide (57 < x) = false := decide_eq_false h2
                by_cases h3 : 2147483647 < N * 10 + (x - 48)
                · have hF : Hid (digGo 0 ys = none) := by unfold Hid; rw [hE.out, if_neg (by omega), if_pos h3]
                  have hcall := hide (behind_not N 10 (x - 48) 33 wb hN0 hN1 (.inr rfl) (by omega) (by omega) h3)
                  clear hE
                  go_wp2_with (go_at_call 30; refine hcall.out.mono ?_; rintro e w3 ⟨rfl, rfl⟩)
                  refine ⟨rfl, ?_, HB.out⟩
                  rw [hfin.out, hF.out]; rfl
                · have hF : Hid (digGo 0 ys = digGo (N * 10 + (x - 48)) (ys.drop (I + 1))) := by unfold Hid; rw [hE.out, if_neg (by omega), if_neg h3, hd2'.out]
                  have hcall := hide (behind_fits N 10 (x - 48) 33 wb hN0 hN1 (.inr rfl) (by omega) (by omega) (by omega))
                  clear hE
                  go_wp2_with (go_at_call 30; refine hcall.out.mono ?_; rintro e w3 ⟨rfl, rfl⟩)
                  go_round
                  case rel => exact ⟨I + 1, N * 10 + (x - 48), by simp, rfl, by omega, by omega, by omega, hF⟩
                  case measure => simp [intOf]; omega
          · obtain rfl : I = m := by omega
            have ltI : ¬ (I : Int) < (I : Int) := by omega
            have hF : Hid (digGo 0 ys = some N) := by unfold Hid; rw [hE.out, List.drop_eq_nil_of_le (by rw [hm.out]; exact Nat.le_refl _), digGo]
            clear hE
            go_wp2
            go_ret
            exact ⟨by rw [hfin.out, hF.out]; rfl, HB.out⟩
      · have h48b : (c == 48) = false := by simpa using h48
        go_enter Tryd.func19, Tryd.ntmps19
        clear hS
        go_wp2
        go_loop [3, 21] (fun nn i => ∃ (I : Nat) (N : Int), i = .int .i64 I ∧ nn = .int .i64 N ∧ I ≤ m ∧ 0 ≤ N ∧ N ≤ 2147483647 ∧ Hid (digGo 0 ys = digGo N (ys.drop I))) (fun _ i => m - (intOf i).toNat)
        case atStart => exact ⟨0, 0, rfl, rfl, Nat.zero_le _, by omega, by omega, rfl⟩
        case round =>
          obtain ⟨I, N, rfl, rfl, hI, hN0, hN1, hE⟩ := hrel
          by_cases hlt : I < m
          · have ltI : (I : Int) < (m : Int) := by omega
            obtain ⟨x, rest, hd⟩ : ∃ x rest, ys.drop I = x :: rest := by
              cases hd : ys.drop I with
              | nil => have := List.drop_eq_nil_iff.1 hd; have := hm.out; omega
              | cons x rest => exact ⟨x, rest, rfl⟩
            obtain ⟨_, hg, hd2⟩ := getD_of_drop hd
            have hx := hY.out x (List.mem_of_mem_drop (by rw [hd]; simp))
            have hcell := HR.out.cell I hlt
            rw [hg] at hcell
            rw [hd, digGo] at hE
            have hd2' := hide hd2
            clear hg hd hd2
            by_cases h1 : x < 48
            · have hF : Hid (digGo 0 ys = none) := by unfold Hid; rw [hE.out, if_pos (.inl h1)]
              have d1 : decide (x < 48) = true := decide_eq_true h1
              clear hE
              go_wp2
              refine ⟨rfl, ?_, HB.out⟩
              rw [hfin.out, hF.out]; rfl
            · have d1 : decide (x < 48) = false := decide_eq_false h1
              by_cases h2 : 57 < x
              · have hF : Hid (digGo 0 ys = none) := by unfold Hid; rw [hE.out, if_pos (.inr h2)]
                have d2 : decide (57 < x) = true := decide_eq_true h2
                clear hE
                go_wp2
                refine ⟨rfl, ?_, HB.out⟩
                rw [hfin.out, hF.out]; rfl
              · have d2 : decide (57 < x) = false := decide_eq_false h2
                by_cases h3 : 2147483647 < N * 10 + (x - 48)
                · have hF : Hid (digGo 0 ys = none) := by unfold Hid; rw [hE.out, if_neg (by omega), if_pos h3]
                  have hcall := hide (behind_not N 10 (x - 48) 33 wb hN0 hN1 (.inr rfl) (by omega) (by omega) h3)
                  clear hE
                  go_wp2_with (go_at_call 30; refine hcall.out.mono ?_; rintro e w3 ⟨rfl, rfl⟩)
                  refine ⟨rfl, ?_, HB.out⟩
                  rw [hfin.out, hF.out]; rfl
                · have hF : Hid (digGo 0 ys = digGo (N * 10 + (x - 48)) (ys.drop (I + 1))) := by unfold Hid; rw [hE.out, if_neg (by omega), if_neg h3, hd2'.out]
                  have hcall := hide (behind_fits N 10 (x - 48) 33 wb hN0 hN1 (.inr rfl) (by omega) (by omega) (by omega))
                  clear hE
                  go_wp2_with (go_at_call 30; refine hcall.out.mono ?_; rintro e w3 ⟨rfl, rfl⟩)
                  go_round
                  case rel => exact ⟨I + 1, N * 10 + (x - 48), by simp, rfl, by omega, by omega, by omega, hF⟩
                  case measure => simp [intOf]; omega
          · obtain rfl : I = m := by omega
            have ltI : ¬ (I : Int) < (I : Int) := by omega
            have hF : Hid (digGo 0 ys = some N) := by unfold Hid; rw [hE.out, List.drop_eq_nil_of_le (by rw [hm.out]; exact Nat.le_refl _), digGo]
            clear hE
            go_wp2
            go_ret
            exact ⟨by rw [hfin.out, hF.out]; rfl, HB.out⟩

end Go.Proofs.YtfcjahdkpjbggaaDoor
