/-
  clock.Take.
-/
import Derived.Test.YtnpimjfdidbdfabDoorTFields
import Derived.Test.YtnpimjfdidbdfabDoorCSec2
import Derived.Test.YtnpimjfdidbdfabDoorCPut
namespace Go.Proofs.YtnpimjfdidbdfabDoor
open Go.RowKit

/-- The year that a content of that tag tells. -/
def tkY (tag : Int) (v : Int) : Int := if tag = 23 then full v else v

/-- What a content whose fields these are is read as. -/
noncomputable def tkV (tag v0 v1 v2 v3 v4 v5 : Int) : Int × Int :=
  open Classical in
  if Okc (tkY tag v0) v1 v2 v3 v4 v5 then (if tag = 24 ∧ tkY tag v0 ≤ 2049 then (0, 41) else (secV (tkY tag v0) v1 v2 v3 v4 v5, 0)) else (0, 40)

/-- What a content of a tag is read as. -/
noncomputable def takS (tag : Int) (xs : List Int) : Int × Int :=
  if tag = 23 then (if formB 2 xs then tkV 23 (numB (seg xs 0 2)) (numB (seg xs 2 4)) (numB (seg xs 4 6)) (numB (seg xs 6 8)) (numB (seg xs 8 10)) (numB (seg xs 10 12)) else (0, 20))
  else if tag = 24 then (if formB 4 xs then tkV 24 (numB (seg xs 0 4)) (numB (seg xs 4 6)) (numB (seg xs 6 8)) (numB (seg xs 8 10)) (numB (seg xs 10 12)) (numB (seg xs 12 14)) else (0, 20))
  else (0, 11)

theorem tkY_23 (v : Int) : tkY 23 v = full v := by unfold tkY; rw [if_pos rfl]
theorem tkY_24 (v : Int) : tkY 24 v = v := by unfold tkY; rw [if_neg (by decide)]

theorem tkV_no {tag v0 v1 v2 v3 v4 v5 : Int} (h : ¬ Okc (tkY tag v0) v1 v2 v3 v4 v5) : tkV tag v0 v1 v2 v3 v4 v5 = (0, 40) := by unfold tkV; rw [if_neg h]
theorem tkV_shape {tag v0 v1 v2 v3 v4 v5 : Int} (h : Okc (tkY tag v0) v1 v2 v3 v4 v5) (k : tag = 24 ∧ tkY tag v0 ≤ 2049) : tkV tag v0 v1 v2 v3 v4 v5 = (0, 41) := by unfold tkV; rw [if_pos h, if_pos k]
theorem tkV_ok {tag v0 v1 v2 v3 v4 v5 : Int} (h : Okc (tkY tag v0) v1 v2 v3 v4 v5) (k : ¬ (tag = 24 ∧ tkY tag v0 ≤ 2049)) : tkV tag v0 v1 v2 v3 v4 v5 = (secV (tkY tag v0) v1 v2 v3 v4 v5, 0) := by unfold tkV; rw [if_pos h, if_neg k]

set_option maxRecDepth 100000 in
theorem take_tag (tag : Int) (h1 : tag ≠ 23) (h2 : tag ≠ 24) (ao : Option Addr) (n cap : Nat) (w : World) :
    Calls Tryd.prog 6 #[.int .i64 tag, .slice ao n cap] w fun e w' => e = .returned (.tuple #[.int .i64 0, .int .i64 11]) ∧ Below w.heap.size w w' := by
  have b1 : (tag != 23) = true := by simp [h1]
  have b2 : (tag != 24) = true := by simp [h2]
  clear h1 h2
  go_enter Tryd.func6, Tryd.ntmps6
  go_wp2
  go_ret2
  exact ⟨rfl, Below.refl _ _⟩

set_option maxRecDepth 100000 in
theorem take_form2 (ao : Option Addr) (n cap : Nat) (xs : List Int) (w : World) (hs : Src w ao n cap xs) (hm : n ≤ 140737488355328) (hf : formB 2 xs = false) :
    Calls Tryd.prog 6 #[.int .i64 23, .slice ao n cap] w fun e w' => e = .returned (.tuple #[.int .i64 0, .int .i64 20]) ∧ Below w.heap.size w w' := by
  have F := hide (isForm_2 ao n cap xs w hs hm)
  rw [hf] at F
  clear hs hf
  go_enter Tryd.func6, Tryd.ntmps6
  go_wp2_with (first | (go_at_call 13; refine (yearWidth_2 _).mono ?_; rintro e w1 ⟨rfl, rfl⟩) | (go_at_call 14; refine F.out.mono ?_; rintro e w2 ⟨rfl, rfl⟩))
  go_ret2
  exact ⟨rfl, Below.refl _ _⟩

set_option maxRecDepth 100000 in
set_option maxHeartbeats 2000000 in
theorem take_go2 (b off cap : Nat) (xs : List Int) (w : World) (ht : Tab w) (hs : Src w (some ⟨b, off, none⟩) 13 cap xs) (hf : formB 2 xs = true) (v0 v1 v2 v3 v4 v5 : Int) (b0 : 0 ≤ v0 ∧ v0 ≤ 9999)
    (C : Calls Tryd.prog 15 #[.slice (some ⟨b, off, none⟩) 13 cap, .int .i64 2] w fun e w' => e = .returned (agg6 v0 v1 v2 v3 v4 v5) ∧ Below w.heap.size w w') :
    Calls Tryd.prog 6 #[.int .i64 23, .slice (some ⟨b, off, none⟩) 13 cap] w fun e w' => e = .returned (.tuple #[.int .i64 (tkV 23 v0 v1 v2 v3 v4 v5).1, .int .i64 (tkV 23 v0 v1 v2 v3 v4 v5).2]) ∧ Below w.heap.size w w' := by
  have HC := hide C
  have HT := hide ht
  have F := hide (isForm_2 (some ⟨b, off, none⟩) 13 cap xs w hs (by omega))
  rw [hf] at F
  have hsec : Hid (∀ W, Tab W → Calls Tryd.prog 17 #[agg6 (full v0) v1 v2 v3 v4 v5] W fun e w' => ∃ sv se, e = .returned (.tuple #[.int .i64 sv, .int .i64 se]) ∧ ((se = 0 ∧ Hid (Okc (full v0) v1 v2 v3 v4 v5) ∧ sv = secV (full v0) v1 v2 v3 v4 v5) ∨ (se = 40 ∧ Hid (¬ Okc (full v0) v1 v2 v3 v4 v5) ∧ sv = 0)) ∧ Below W.heap.size W w') := by
    intro W hW
    by_cases ok : Okc (full v0) v1 v2 v3 v4 v5
    · exact (seconds_ok _ _ _ _ _ _ ok W hW).mono fun e w' ⟨h1, h2⟩ => ⟨_, _, h1, .inl ⟨rfl, ok, rfl⟩, h2⟩
    · exact (seconds_no _ _ _ _ _ _ ok W hW).mono fun e w' ⟨h1, h2⟩ => ⟨_, _, h1, .inr ⟨rfl, ok, rfl⟩, h2⟩
  clear hs hf C ht
  unfold agg6 at HC hsec
  have fy := hide (fun W => fullYear_any v0 b0.1 b0.2 W)
  go_enter Tryd.func6, Tryd.ntmps6
  go_wp2_with (first | (go_at_call 13; refine (yearWidth_2 _).mono ?_; rintro e w1 ⟨rfl, rfl⟩) | (go_at_call 14; refine F.out.mono ?_; rintro e w2 ⟨rfl, rfl⟩) | (go_at_call 15; refine HC.out.mono ?_; rintro e w3 ⟨rfl, B3⟩) | (go_at_call 16; refine (fy.out _).mono ?_; rintro e w4 ⟨rfl, rfl⟩) | fail)
  have K3 := hide (Six.new w3 34 (full v0) v1 v2 v3 v4 v5 rfl)
  refine (hsec.out _ ((HT.out.below B3).below ((Below.refl _ _).alloc (Nat.le_refl _) _))).mono ?_
  rintro e w5 ⟨sv, se, rfl, hc, B5⟩
  have hB5 := hide ((B3.alloc B3.size _).trans (B5.mono (by have := B3.size; simp; omega)))
  have K5 := hide (K3.out.below B5 (by simp))
  clear B3 B5 F
  rcases hc with ⟨rfl, ok, rfl⟩ | ⟨rfl, no, rfl⟩
  · skip
    have E := hide (tkV_ok (tag := 23) (v0 := v0) (by rw [tkY_23]; exact ok.out) (by omega))
    go_wp2
    go_ret2
    rw [E.out, tkY_23]
    exact ⟨rfl, hB5.out⟩
  · have E := hide (tkV_no (tag := 23) (v0 := v0) (by rw [tkY_23]; exact no.out))
    go_wp2
    go_ret2
    rw [E.out]
    exact ⟨rfl, hB5.out⟩

set_option maxRecDepth 100000 in
theorem take_form4 (ao : Option Addr) (n cap : Nat) (xs : List Int) (w : World) (hs : Src w ao n cap xs) (hm : n ≤ 140737488355328) (hf : formB 4 xs = false) :
    Calls Tryd.prog 6 #[.int .i64 24, .slice ao n cap] w fun e w' => e = .returned (.tuple #[.int .i64 0, .int .i64 20]) ∧ Below w.heap.size w w' := by
  have F := hide (isForm_4 ao n cap xs w hs hm)
  rw [hf] at F
  clear hs hf
  go_enter Tryd.func6, Tryd.ntmps6
  go_wp2_with (first | (go_at_call 13; refine (yearWidth_4 _).mono ?_; rintro e w1 ⟨rfl, rfl⟩) | (go_at_call 14; refine F.out.mono ?_; rintro e w2 ⟨rfl, rfl⟩))
  go_ret2
  exact ⟨rfl, Below.refl _ _⟩

set_option maxRecDepth 100000 in
set_option maxHeartbeats 2000000 in
theorem take_go4 (b off cap : Nat) (xs : List Int) (w : World) (ht : Tab w) (hs : Src w (some ⟨b, off, none⟩) 15 cap xs) (hf : formB 4 xs = true) (v0 v1 v2 v3 v4 v5 : Int) (b0 : 0 ≤ v0 ∧ v0 ≤ 9999)
    (C : Calls Tryd.prog 15 #[.slice (some ⟨b, off, none⟩) 15 cap, .int .i64 4] w fun e w' => e = .returned (agg6 v0 v1 v2 v3 v4 v5) ∧ Below w.heap.size w w') :
    Calls Tryd.prog 6 #[.int .i64 24, .slice (some ⟨b, off, none⟩) 15 cap] w fun e w' => e = .returned (.tuple #[.int .i64 (tkV 24 v0 v1 v2 v3 v4 v5).1, .int .i64 (tkV 24 v0 v1 v2 v3 v4 v5).2]) ∧ Below w.heap.size w w' := by
  have HC := hide C
  have HT := hide ht
  have F := hide (isForm_4 (some ⟨b, off, none⟩) 15 cap xs w hs (by omega))
  rw [hf] at F
  have hsec : Hid (∀ W, Tab W → Calls Tryd.prog 17 #[agg6 (v0) v1 v2 v3 v4 v5] W fun e w' => ∃ sv se, e = .returned (.tuple #[.int .i64 sv, .int .i64 se]) ∧ ((se = 0 ∧ Hid (Okc (v0) v1 v2 v3 v4 v5) ∧ sv = secV (v0) v1 v2 v3 v4 v5) ∨ (se = 40 ∧ Hid (¬ Okc (v0) v1 v2 v3 v4 v5) ∧ sv = 0)) ∧ Below W.heap.size W w') := by
    intro W hW
    by_cases ok : Okc (v0) v1 v2 v3 v4 v5
    · exact (seconds_ok _ _ _ _ _ _ ok W hW).mono fun e w' ⟨h1, h2⟩ => ⟨_, _, h1, .inl ⟨rfl, ok, rfl⟩, h2⟩
    · exact (seconds_no _ _ _ _ _ _ ok W hW).mono fun e w' ⟨h1, h2⟩ => ⟨_, _, h1, .inr ⟨rfl, ok, rfl⟩, h2⟩
  clear hs hf C ht
  unfold agg6 at HC hsec
  have fy := hide (fun W => fullYear_any v0 b0.1 b0.2 W)
  go_enter Tryd.func6, Tryd.ntmps6
  go_wp2_with (first | (go_at_call 13; refine (yearWidth_4 _).mono ?_; rintro e w1 ⟨rfl, rfl⟩) | (go_at_call 14; refine F.out.mono ?_; rintro e w2 ⟨rfl, rfl⟩) | (go_at_call 15; refine HC.out.mono ?_; rintro e w3 ⟨rfl, B3⟩) | (go_at_call 16; refine (fy.out _).mono ?_; rintro e w4 ⟨rfl, rfl⟩) | fail)
  have K3 := hide (Six.new w3 34 (v0) v1 v2 v3 v4 v5 rfl)
  refine (hsec.out _ ((HT.out.below B3).below ((Below.refl _ _).alloc (Nat.le_refl _) _))).mono ?_
  rintro e w5 ⟨sv, se, rfl, hc, B5⟩
  have hB5 := hide ((B3.alloc B3.size _).trans (B5.mono (by have := B3.size; simp; omega)))
  have K5 := hide (K3.out.below B5 (by simp))
  clear B3 B5 F
  rcases hc with ⟨rfl, ok, rfl⟩ | ⟨rfl, no, rfl⟩
  · skip
    obtain ⟨c0, _⟩ := K5.out
    by_cases hY : v0 ≤ 2049
    · have E := hide (tkV_shape (tag := 24) (v0 := v0) (by rw [tkY_24]; exact ok.out) ⟨rfl, by rw [tkY_24]; exact hY⟩)
      go_wp2
      go_ret2
      rw [E.out]
      exact ⟨rfl, hB5.out⟩
    · have E := hide (tkV_ok (tag := 24) (v0 := v0) (by rw [tkY_24]; exact ok.out) (by rw [tkY_24]; omega))
      go_wp2
      go_ret2
      rw [E.out, tkY_24]
      exact ⟨rfl, hB5.out⟩
  · have E := hide (tkV_no (tag := 24) (v0 := v0) (by rw [tkY_24]; exact no.out))
    go_wp2
    go_ret2
    rw [E.out]
    exact ⟨rfl, hB5.out⟩


theorem take_any (tag : Int) (ao : Option Addr) (n cap : Nat) (xs : List Int) (w : World) (ht : Tab w) (hs : Src w ao n cap xs) (hm : n ≤ 140737488355328) :
    Calls Tryd.prog 6 #[.int .i64 tag, .slice ao n cap] w fun e w' => e = .returned (.tuple #[.int .i64 (takS tag xs).1, .int .i64 (takS tag xs).2]) ∧ Below w.heap.size w w' := by
  have hl := hs.hlen
  by_cases h1 : tag = 23
  · subst h1
    cases hf : formB 2 xs with
    | false =>
      have E : takS 23 xs = (0, 20) := by simp [takS, hf]
      rw [E]
      exact take_form2 ao n cap xs w hs hm hf
    | true =>
      have E : takS 23 xs = tkV 23 (numB (seg xs 0 2)) (numB (seg xs 2 4)) (numB (seg xs 4 6)) (numB (seg xs 6 8)) (numB (seg xs 8 10)) (numB (seg xs 10 12)) := by simp [takS, hf]
      obtain ⟨hl', _, hd⟩ := formB_parts hf
      obtain rfl : n = 13 := by omega
      obtain ⟨b, off, rfl, _⟩ := hs.at 0 (by omega)
      rw [E]
      exact take_go2 b off cap xs w ht hs hf _ _ _ _ _ _ (numB_4 _ (by unfold seg; simp; omega) (seg_dig hd 0 2 (by omega))) (fields_2 b off cap xs w hs hf)
  · by_cases h2 : tag = 24
    · subst h2
      cases hf : formB 4 xs with
      | false =>
        have E : takS 24 xs = (0, 20) := by simp [takS, hf]
        rw [E]
        exact take_form4 ao n cap xs w hs hm hf
      | true =>
        have E : takS 24 xs = tkV 24 (numB (seg xs 0 4)) (numB (seg xs 4 6)) (numB (seg xs 6 8)) (numB (seg xs 8 10)) (numB (seg xs 10 12)) (numB (seg xs 12 14)) := by simp [takS, hf]
        obtain ⟨hl', _, hd⟩ := formB_parts hf
        obtain rfl : n = 15 := by omega
        obtain ⟨b, off, rfl, _⟩ := hs.at 0 (by omega)
        rw [E]
        exact take_go4 b off cap xs w ht hs hf _ _ _ _ _ _ (numB_4 _ (by unfold seg; simp; omega) (seg_dig hd 0 4 (by omega))) (fields_4 b off cap xs w hs hf)
    · have E : takS tag xs = (0, 11) := by simp [takS, h1, h2]
      rw [E]
      exact take_tag tag h1 h2 ao n cap w

end Go.Proofs.YtnpimjfdidbdfabDoor
