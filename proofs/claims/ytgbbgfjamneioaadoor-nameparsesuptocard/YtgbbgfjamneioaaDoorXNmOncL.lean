/-
  The statement NameOnce: its walk.
-/
import Derived.Test.YtgbbgfjamneioaaDoorXNmDecW
import Derived.Test.YtgbbgfjamneioaaDoorXNmPrs
namespace Go.Proofs.YtgbbgfjamneioaaDoor
open Go.RowKit Go.IntWalk Go.Shelf

theorem ans_ok {xs : List Int} (h : ansE xs = 0) : nameL (ansN xs) = true ∧ encNC (ansN xs) = xs := by
  unfold ansE at h
  unfold ansN
  by_cases h1 : (oneS xs).2.2 ≠ 0
  · rw [if_pos h1] at h
    exact absurd h h1
  · rw [if_neg h1] at h ⊢
    by_cases hk : okN xs (decN xs) = true
    · rw [if_pos hk]
      unfold okN at hk
      rw [Bool.and_eq_true] at hk
      exact ⟨hk.1, of_decide_eq_true hk.2⟩
    · rw [if_neg hk] at h
      cases h
theorem name_size {n : List (Int × ByteArray)} (h : nameL n = true) : ∀ x ∈ n, x.2.size ≤ 1048576 := fun x hx => by
  have := attr_short ((name_all h).2 x hx)
  omega
theorem encNE_zero {n : List (Int × ByteArray)} (h : nameL n = true) : encNE n = 0 := by rw [encNE_ok, if_pos h]

set_option maxRecDepth 100000 in
set_option maxHeartbeats 2000000 in
theorem nameOnce_walk (ao : Option Addr) (n cap : Nat) (xs : List Int) (s : ByteArray) (m : Int) (w : World) (hT : TabN w) (hM : MLn w m) (hsrc : Src w ao n cap xs) (hN : n ≤ 1048576) (hs : s.size ≤ 1048576) :
    Calls Tryd.prog 6 #[.slice ao n cap, .string s] w fun e w' => e = .returned (.bool true) ∧ Below w.heap.size w w' := by
  have d1 := hide (callsIn_wide.1 (decodeN_in ao n cap xs w hsrc hN))
  have HS := hide hsrc
  have HT := hide hT
  have HM := hide hM
  have HAA : Hid (ansE xs = 0 → nameL (ansN xs) = true ∧ encNC (ansN xs) = xs) := ans_ok
  clear hsrc hT hM
  generalize ansE xs = AE at *
  generalize ansN xs = AN at *
  go_enter Tryd.func6, Tryd.ntmps6
  go_wp2_with fail
  refine d1.out.mono ?_
  rintro e v1 ⟨a1, m1, c1, rfl, o1, C1⟩
  have HK1 := hide C1
  by_cases ha : AE = 0
  · obtain ⟨hn1, he1⟩ := HAA.out ha
    subst ha
    have p0 : ((0 : Int) == 0) = true := rfl
    have A1 := o1.ats (name_size hn1)
    have d2 := hide (encodeN_any a1 m1 c1 AN v1 A1 (name_size hn1))
    have ez := encNE_zero hn1
    rw [he1, ez] at d2
    have d3 := hide (fun V' (h : Ats V' a1 m1 c1 AN) => mayN_any a1 m1 c1 AN V' h (fun x hx => by have := name_size hn1 x hx; omega))
    rw [hn1] at d3
    have HO1 := hide A1
    have HBY := hide HS.out.hbyt
    have q0 : ((0 : Int) != 0) = false := rfl
    have q1 : ((strOfNums xs).toList == (strOfNums xs).toList) = true := by simp
    clear d1 HAA o1 C1 A1 ez he1
    go_wp2_with fail
    refine d2.out.mono ?_
    rintro e v2 ⟨a2, m2, c2, rfl, o2, C2⟩
    have HK2 := hide (HK1.out.trans (C2.mono HK1.out.size))
    have t2 := (OwnB.toSrc o2 HBY.out).text
    have t0 := (HS.out.below HK2.out).text
    have d4 := hide (d3.out v2 (HO1.out.below C2))
    clear d2 d3 C2 HO1 HK1 o2
    go_wp2_with fail
    refine d4.out.mono ?_
    rintro e V ⟨rfl, C3⟩
    have HK := hide (HK2.out.trans (C3.mono HK2.out.size))
    clear d4 C3 HK2 t2 t0 hn1 HBY q1
    have d5 := hide (callsIn_wide.1 (parseN_in s hs m V (HT.out.below HK.out) (HM.out.below HK.out)))
    have HPA : Hid (pansE s = 0 → nameL (pansN s) = true ∧ txT (pansN s) = s) := pans_ok
    generalize pansE s = PE at *
    generalize pansN s = PN at *
    go_wp2_with fail
    refine d5.out.mono ?_
    rintro e v5 ⟨a5, m5, c5, rfl, o5, C5⟩
    have HK5 := hide (HK.out.trans (C5.mono HK.out.size))
    by_cases hp : PE = 0
    · obtain ⟨hn5, ht5⟩ := HPA.out hp
      subst hp
      have p0 : ((0 : Int) == 0) = true := rfl
      have A5 := o5.ats (name_size hn5)
      have d6 := hide (textN_any a5 m5 c5 PN v5 (HT.out.below HK5.out) A5 (name_size hn5))
      have ez := encNE_zero hn5
      rw [ht5, ez] at d6
      have d7 := hide (fun V' (h : Ats V' a5 m5 c5 PN) => mayN_any a5 m5 c5 PN V' h (fun x hx => by have := name_size hn5 x hx; omega))
      rw [hn5] at d7
      have HO5 := hide A5
      have q0 : ((0 : Int) != 0) = false := rfl
      have q1 : (s.toList == s.toList) = true := by simp
      clear d5 HPA o5 C5 A5 ez ht5 HK
      go_wp2_with fail
      refine d6.out.mono ?_
      rintro e v6 ⟨rfl, C6⟩
      have HK6 := hide (HK5.out.trans (C6.mono HK5.out.size))
      have d8 := hide (d7.out v6 (HO5.out.below C6))
      clear d6 d7 C6 HO5 HK5
      go_wp2_with fail
      refine d8.out.mono ?_
      rintro e v7 ⟨rfl, C7⟩
      have HK := hide (HK6.out.trans (C7.mono HK6.out.size))
      clear d8 C7 HK6
      go_wp2_with fail
      refine (there_any _).mono ?_
      rintro e wz ⟨rfl, BZ⟩
      go_wp2
      go_ret
      exact ⟨rfl, HK.out.trans (BZ.mono HK.out.size)⟩
    · have p0 : (PE == 0) = false := by simpa using hp
      clear d5 HPA o5 C5 HK
      have HK := hide HK5.out
      go_wp2_with fail
      refine (there_any _).mono ?_
      rintro e wz ⟨rfl, BZ⟩
      go_wp2
      go_ret
      exact ⟨rfl, HK.out.trans (BZ.mono HK.out.size)⟩
  · have p0 : (AE == 0) = false := by simpa using ha
    clear d1 HAA o1 C1
    have HK := hide HK1.out
    obtain ⟨V, hV⟩ : ∃ V, V = v1 := ⟨_, rfl⟩
    subst hV
    clear HK1
    have d5 := hide (callsIn_wide.1 (parseN_in s hs m V (HT.out.below HK.out) (HM.out.below HK.out)))
    have HPA : Hid (pansE s = 0 → nameL (pansN s) = true ∧ txT (pansN s) = s) := pans_ok
    generalize pansE s = PE at *
    generalize pansN s = PN at *
    go_wp2_with fail
    refine d5.out.mono ?_
    rintro e v5 ⟨a5, m5, c5, rfl, o5, C5⟩
    have HK5 := hide (HK.out.trans (C5.mono HK.out.size))
    by_cases hp : PE = 0
    · obtain ⟨hn5, ht5⟩ := HPA.out hp
      subst hp
      have p0 : ((0 : Int) == 0) = true := rfl
      have A5 := o5.ats (name_size hn5)
      have d6 := hide (textN_any a5 m5 c5 PN v5 (HT.out.below HK5.out) A5 (name_size hn5))
      have ez := encNE_zero hn5
      rw [ht5, ez] at d6
      have d7 := hide (fun V' (h : Ats V' a5 m5 c5 PN) => mayN_any a5 m5 c5 PN V' h (fun x hx => by have := name_size hn5 x hx; omega))
      rw [hn5] at d7
      have HO5 := hide A5
      have q0 : ((0 : Int) != 0) = false := rfl
      have q1 : (s.toList == s.toList) = true := by simp
      clear d5 HPA o5 C5 A5 ez ht5 HK
      go_wp2_with fail
      refine d6.out.mono ?_
      rintro e v6 ⟨rfl, C6⟩
      have HK6 := hide (HK5.out.trans (C6.mono HK5.out.size))
      have d8 := hide (d7.out v6 (HO5.out.below C6))
      clear d6 d7 C6 HO5 HK5
      go_wp2_with fail
      refine d8.out.mono ?_
      rintro e v7 ⟨rfl, C7⟩
      have HK := hide (HK6.out.trans (C7.mono HK6.out.size))
      clear d8 C7 HK6
      go_wp2_with fail
      refine (there_any _).mono ?_
      rintro e wz ⟨rfl, BZ⟩
      go_wp2
      go_ret
      exact ⟨rfl, HK.out.trans (BZ.mono HK.out.size)⟩
    · have p0 : (PE == 0) = false := by simpa using hp
      clear d5 HPA o5 C5 HK
      have HK := hide HK5.out
      go_wp2_with fail
      refine (there_any _).mono ?_
      rintro e wz ⟨rfl, BZ⟩
      go_wp2
      go_ret
      exact ⟨rfl, HK.out.trans (BZ.mono HK.out.size)⟩

end Go.Proofs.YtgbbgfjamneioaaDoor
