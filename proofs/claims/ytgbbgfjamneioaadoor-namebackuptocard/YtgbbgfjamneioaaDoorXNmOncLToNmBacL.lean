/-
  The statement NameOnce: its walk.
  The statement NameBack: its walk.
-/
import Derived.Test.YtgbbgfjamneioaaDoorXNmDecW
import Derived.Test.YtgbbgfjamneioaaDoorXNmPrs
import Derived.Laws.StructEq
import Derived.Deep.QuietTactic
import Derived.BigQuiet
namespace Go.Proofs.YtgbbgfjamneioaaDoor
open Go.RowKit Go.IntWalk Go.Shelf

theorem ans_ok {xs : List Int} (h : ansE xs = 0) : nameL (ansN xs) = true ∧ encNC (ansN xs) = xs := by
  unfold ansE at h
  unfold ansN
  by_cases h1 : (oneS xs).2.2 ≠ 0
  · rw [if_pos h1] at h
    exact absurd h h1
  · rw [if_neg h1] at h ⊢
    by_cases hk : okN xs (decN xs) = true
    · rw [if_pos hk]
      unfold okN at hk
      rw [Bool.and_eq_true] at hk
      exact ⟨hk.1, of_decide_eq_true hk.2⟩
    · rw [if_neg hk] at h
      cases h
theorem name_size {n : List (Int × ByteArray)} (h : nameL n = true) : ∀ x ∈ n, x.2.size ≤ 1048576 := fun x hx => by
  have := attr_short ((name_all h).2 x hx)
  omega
theorem encNE_zero {n : List (Int × ByteArray)} (h : nameL n = true) : encNE n = 0 := by rw [encNE_ok, if_pos h]

set_option maxRecDepth 100000 in
set_option maxHeartbeats 2000000 in
theorem nameOnce_walk (ao : Option Addr) (n cap : Nat) (xs : List Int) (s : ByteArray) (m : Int) (w : World) (hT : TabN w) (hM : MLn w m) (hsrc : Src w ao n cap xs) (hN : n ≤ 1048576) (hs : s.size ≤ 1048576) :
    Calls Tryd.prog 6 #[.slice ao n cap, .string s] w fun e w' => e = .returned (.bool true) ∧ Below w.heap.size w w' := by
  have d1 := hide (callsIn_wide.1 (decodeN_in ao n cap xs w hsrc hN))
  have HS := hide hsrc
  have HT := hide hT
  have HM := hide hM
  have HAA : Hid (ansE xs = 0 → nameL (ansN xs) = true ∧ encNC (ansN xs) = xs) := ans_ok
  clear hsrc hT hM
  generalize ansE xs = AE at *
  generalize ansN xs = AN at *
  go_enter Tryd.func6, Tryd.ntmps6
  go_wp2_with fail
  refine d1.out.mono ?_
  rintro e v1 ⟨a1, m1, c1, rfl, o1, C1⟩
  have HK1 := hide C1
  by_cases ha : AE = 0
  · obtain ⟨hn1, he1⟩ := HAA.out ha
    subst ha
    have p0 : ((0 : Int) == 0) = true := rfl
    have A1 := o1.ats (name_size hn1)
    have d2 := hide (encodeN_any a1 m1 c1 AN v1 A1 (name_size hn1))
    have ez := encNE_zero hn1
    rw [he1, ez] at d2
    have d3 := hide (fun V' (h : Ats V' a1 m1 c1 AN) => mayN_any a1 m1 c1 AN V' h (fun x hx => by have := name_size hn1 x hx; omega))
    rw [hn1] at d3
    have HO1 := hide A1
    have HBY := hide HS.out.hbyt
    have q0 : ((0 : Int) != 0) = false := rfl
    have q1 : ((strOfNums xs).toList == (strOfNums xs).toList) = true := by simp
    clear d1 HAA o1 C1 A1 ez he1
    go_wp2_with fail
    refine d2.out.mono ?_
    rintro e v2 ⟨a2, m2, c2, rfl, o2, C2⟩
    have HK2 := hide (HK1.out.trans (C2.mono HK1.out.size))
    have t2 := (OwnB.toSrc o2 HBY.out).text
    have t0 := (HS.out.below HK2.out).text
    have d4 := hide (d3.out v2 (HO1.out.below C2))
    clear d2 d3 C2 HO1 HK1 o2
    go_wp2_with fail
    refine d4.out.mono ?_
    rintro e V ⟨rfl, C3⟩
    have HK := hide (HK2.out.trans (C3.mono HK2.out.size))
    clear d4 C3 HK2 t2 t0 hn1 HBY q1
    have d5 := hide (callsIn_wide.1 (parseN_in s hs m V (HT.out.below HK.out) (HM.out.below HK.out)))
    have HPA : Hid (pansE s = 0 → nameL (pansN s) = true ∧ txT (pansN s) = s) := pans_ok
    generalize pansE s = PE at *
    generalize pansN s = PN at *
    go_wp2_with fail
    refine d5.out.mono ?_
    rintro e v5 ⟨a5, m5, c5, rfl, o5, C5⟩
    have HK5 := hide (HK.out.trans (C5.mono HK.out.size))
    by_cases hp : PE = 0
    · obtain ⟨hn5, ht5⟩ := HPA.out hp
      subst hp
      have p0 : ((0 : Int) == 0) = true := rfl
      have A5 := o5.ats (name_size hn5)
      have d6 := hide (textN_any a5 m5 c5 PN v5 (HT.out.below HK5.out) A5 (name_size hn5))
      have ez := encNE_zero hn5
      rw [ht5, ez] at d6
      have d7 := hide (fun V' (h : Ats V' a5 m5 c5 PN) => mayN_any a5 m5 c5 PN V' h (fun x hx => by have := name_size hn5 x hx; omega))
      rw [hn5] at d7
      have HO5 := hide A5
      have q0 : ((0 : Int) != 0) = false := rfl
      have q1 : (s.toList == s.toList) = true := by simp
      clear d5 HPA o5 C5 A5 ez ht5 HK
      go_wp2_with fail
      refine d6.out.mono ?_
      rintro e v6 ⟨rfl, C6⟩
      have HK6 := hide (HK5.out.trans (C6.mono HK5.out.size))
      have d8 := hide (d7.out v6 (HO5.out.below C6))
      clear d6 d7 C6 HO5 HK5
      go_wp2_with fail
      refine d8.out.mono ?_
      rintro e v7 ⟨rfl, C7⟩
      have HK := hide (HK6.out.trans (C7.mono HK6.out.size))
      clear d8 C7 HK6
      go_wp2_with fail
      refine (there_any _).mono ?_
      rintro e wz ⟨rfl, BZ⟩
      go_wp2
      go_ret
      exact ⟨rfl, HK.out.trans (BZ.mono HK.out.size)⟩
    · have p0 : (PE == 0) = false := by simpa using hp
      clear d5 HPA o5 C5 HK
      have HK := hide HK5.out
      go_wp2_with fail
      refine (there_any _).mono ?_
      rintro e wz ⟨rfl, BZ⟩
      go_wp2
      go_ret
      exact ⟨rfl, HK.out.trans (BZ.mono HK.out.size)⟩
  · have p0 : (AE == 0) = false := by simpa using ha
    clear d1 HAA o1 C1
    have HK := hide HK1.out
    obtain ⟨V, hV⟩ : ∃ V, V = v1 := ⟨_, rfl⟩
    subst hV
    clear HK1
    have d5 := hide (callsIn_wide.1 (parseN_in s hs m V (HT.out.below HK.out) (HM.out.below HK.out)))
    have HPA : Hid (pansE s = 0 → nameL (pansN s) = true ∧ txT (pansN s) = s) := pans_ok
    generalize pansE s = PE at *
    generalize pansN s = PN at *
    go_wp2_with fail
    refine d5.out.mono ?_
    rintro e v5 ⟨a5, m5, c5, rfl, o5, C5⟩
    have HK5 := hide (HK.out.trans (C5.mono HK.out.size))
    by_cases hp : PE = 0
    · obtain ⟨hn5, ht5⟩ := HPA.out hp
      subst hp
      have p0 : ((0 : Int) == 0) = true := rfl
      have A5 := o5.ats (name_size hn5)
      have d6 := hide (textN_any a5 m5 c5 PN v5 (HT.out.below HK5.out) A5 (name_size hn5))
      have ez := encNE_zero hn5
      rw [ht5, ez] at d6
      have d7 := hide (fun V' (h : Ats V' a5 m5 c5 PN) => mayN_any a5 m5 c5 PN V' h (fun x hx => by have := name_size hn5 x hx; omega))
      rw [hn5] at d7
      have HO5 := hide A5
      have q0 : ((0 : Int) != 0) = false := rfl
      have q1 : (s.toList == s.toList) = true := by simp
      clear d5 HPA o5 C5 A5 ez ht5 HK
      go_wp2_with fail
      refine d6.out.mono ?_
      rintro e v6 ⟨rfl, C6⟩
      have HK6 := hide (HK5.out.trans (C6.mono HK5.out.size))
      have d8 := hide (d7.out v6 (HO5.out.below C6))
      clear d6 d7 C6 HO5 HK5
      go_wp2_with fail
      refine d8.out.mono ?_
      rintro e v7 ⟨rfl, C7⟩
      have HK := hide (HK6.out.trans (C7.mono HK6.out.size))
      clear d8 C7 HK6
      go_wp2_with fail
      refine (there_any _).mono ?_
      rintro e wz ⟨rfl, BZ⟩
      go_wp2
      go_ret
      exact ⟨rfl, HK.out.trans (BZ.mono HK.out.size)⟩
    · have p0 : (PE == 0) = false := by simpa using hp
      clear d5 HPA o5 C5 HK
      have HK := hide HK5.out
      go_wp2_with fail
      refine (there_any _).mono ?_
      rintro e wz ⟨rfl, BZ⟩
      go_wp2
      go_ret
      exact ⟨rfl, HK.out.trans (BZ.mono HK.out.size)⟩

end Go.Proofs.YtgbbgfjamneioaaDoor

namespace Go.Proofs.YtgbbgfjamneioaaDoor
open Go.RowKit Go.IntWalk Go.Shelf

def neAt (x y : Value) : Sem Value := binOp .neq 52 x y
theorem ne_att (x y : Value) : binOp .neq 52 x y = neAt x y := rfl
attribute [local go_sem ↓] ne_att
set_option maxRecDepth 100000 in
theorem neAt_same (t : Int) (s : ByteArray) (w : World) : (neAt (.agg #[.int .i64 t, .string s]) (.agg #[.int .i64 t, .string s])).run Tryd.prog w = .ok (.bool false) w := by
  have e1 : (t == t) = true := by simp
  have e2 : (s.toList == s.toList) = true := by simp
  unfold neAt
  rw [run_neq_struct]
  go_simp

set_option maxRecDepth 100000 in
set_option maxHeartbeats 2000000 in
theorem alike12_any (aa : Option Addr) (na ca : Nat) (xs : List (Int × ByteArray)) (ab : Option Addr) (cb : Nat) (w : World) (hA : Ats w aa na ca xs) (hB : Ats w ab na cb xs) :
    Calls Tryd.prog 23 #[.slice aa na ca, .slice ab na cb] w fun e w' => e = .returned (.bool true) ∧ Below w.heap.size w w' := by
  have a1 := hA.hcap
  have a2 := hA.hmax
  unfold maxLen at a2
  have na1 : (na : Int) ≤ 9223372036854775807 := by omega
  have HA := hide hA
  have HB := hide hB
  have hnn : ((na : Int) != (na : Int)) = false := by simp
  clear hA hB a1 a2
  go_enter Tryd.func23, Tryd.ntmps23
  go_wp2
  go_loopw [5] (fun v wr => ∃ i : Nat, i ≤ na ∧ v = .int .i64 i ∧ Below w.heap.size w wr) (fun v _ => na - (intOf v).toNat)
  case atStart => exact ⟨0, Nat.zero_le _, rfl, Below.refl _ _⟩
  case round =>
    obtain ⟨i, hi, rfl, hQ⟩ := hrel
    by_cases hik : i < na
    · obtain ⟨b, off, rfl, hc⟩ := (HA.out.below hQ).hrd (by omega)
      obtain ⟨b', off', rfl, hc'⟩ := (HB.out.below hQ).hrd (by omega)
      obtain ⟨c0, c1⟩ := hc i (by omega)
      obtain ⟨d0, d1⟩ := hc' i (by omega)
      generalize xs.getD i (0, ByteArray.empty) = X at c0 c1 d0 d1
      obtain ⟨tx, sx⟩ := X
      simp only [] at c0 c1 d0 d1
      clear hc hc'
      have jk : (i : Int) < (na : Int) := by omega
      have hD := hQ.drew
      have e1 : (tx == tx) = true := by simp
      have e2 : (sx.toList == sx.toList) = true := by simp
      have hne := fun W => neAt_same tx sx W
      go_wp2_with fail
      go_region_held3 (fun W => W.cell? ⟨b, off + i * 2, none⟩ = some (.int .i64 tx) ∧ W.cell? ⟨b, off + i * 2 + 1, none⟩ = some (.string sx) ∧ W.cell? ⟨b', off' + i * 2, none⟩ = some (.int .i64 tx) ∧ W.cell? ⟨b', off' + i * 2 + 1, none⟩ = some (.string sx)) (go_keep) (fail)
      all_goals
        go_wp2
        go_roundw
        case rel => exact ⟨i + 1, by omega, by go_num, hD⟩
        case measure => simp [intOf]; omega
    · obtain rfl : i = na := by omega
      have nI : ¬ ((i : Int) < (i : Int)) := by omega
      go_wp2
      go_ret
      exact ⟨rfl, hQ⟩

theorem ans_back {n : List (Int × ByteArray)} (h : nameL n = true) : ansN (encNC n) = n ∧ ansE (encNC n) = 0 := by
  obtain ⟨e1, e2⟩ := enc_parts h
  have h1 : (oneS (encNC n)).2.2 = 0 := by rw [e1, one_putE 48 (by decide) _ e2]
  have h2 : ¬ ((oneS (encNC n)).2.2 ≠ 0) := by simpa using h1
  have h3 : okN (encNC n) (decN (encNC n)) = true := by
    rw [decN_enc h]
    unfold okN
    rw [h]
    simp
  unfold ansN ansE
  rw [if_neg h2, if_neg h2, if_pos h3, if_pos h3]
  exact ⟨decN_enc h, rfl⟩
theorem enc_short {n : List (Int × ByteArray)} (h : nameL n = true) : (encNC n).length ≤ 1048576 := by
  obtain ⟨h1, h2⟩ := name_all h
  obtain ⟨e1, e2⟩ := encR_rows n h2
  obtain ⟨p1, _⟩ := enc_parts h
  rw [p1, ← e1]
  have := putE_len 48 (encR n)
  omega
theorem txT_short {n : List (Int × ByteArray)} (h : nameL n = true) : (txT n).size ≤ 1048576 := by
  unfold txT
  rw [if_pos h]
  have := txU_len h
  show (txU n).toArray.size ≤ _
  simp
  omega

set_option maxRecDepth 100000 in
set_option maxHeartbeats 2000000 in
theorem nameBack_walk (aa : Option Addr) (na ca : Nat) (xs : List (Int × ByteArray)) (m : Int) (w : World) (hT : TabN w) (hM : MLn w m) (hA : Ats w aa na ca xs) (_ : aa = none → na = 0 ∧ ca = 0) (lA : na ≤ 1048576) (hx : ∀ x ∈ xs, x.2.size ≤ 1048576) :
    Calls Tryd.prog 5 #[.slice aa na ca] w fun e w' => e = .returned (.bool true) ∧ Below w.heap.size w w' := by
  have HA := hide hA
  have HT := hide hT
  have HM := hide hM
  have d1 := hide (encodeN_any aa na ca xs w hA hx)
  have hq2 := hide (fun (W : World) (hT : TabN W) (h : Ats W aa na ca xs) => textN_any aa na ca xs W hT h hx)
  have hq3 := hide (fun (W : World) (h : Ats W aa na ca xs) => mayN_any aa na ca xs W h (fun x h => by have := hx x h; omega))
  have HBY := hide (encNC_byte xs)
  have HX := hide hx
  have hE0 : Hid (nameL xs = false → encNC xs = [] ∧ txT xs = ⟨#[]⟩ ∧ encNE xs = 120) := fun h => ⟨by unfold encNC; rw [h]; rfl, by unfold txT; rw [h]; rfl, by rw [encNE_ok, h]; rfl⟩
  have hE1 : Hid (nameL xs = true → encNE xs = 0) := fun h => encNE_zero h
  have hE2 : Hid (nameL xs = true → (encNC xs).length ≤ 1048576 ∧ (txT xs).size ≤ 1048576) := fun h => ⟨enc_short h, txT_short h⟩
  have hE3 : Hid (nameL xs = true → (ansN (encNC xs) = xs ∧ ansE (encNC xs) = 0) ∧ (pansN (txT xs) = xs ∧ pansE (txT xs) = 0)) := fun h => ⟨ans_back h, pans_back h⟩
  clear hA hx hT hM
  generalize encNC xs = EC at *
  generalize encNE xs = EE at *
  generalize txT xs = TX at *
  generalize nameL xs = NL at *
  go_enter Tryd.func5, Tryd.ntmps5
  go_wp2_with fail
  refine d1.out.mono ?_
  rintro e w1 ⟨a1, m1, c1, rfl, o1, B1⟩
  have K1 := hide B1
  have d2 := hide (hq2.out w1 (HT.out.below B1) (HA.out.below B1))
  have S1 := hide (OwnB.toSrc o1 HBY.out)
  clear d1 o1 B1 hq2
  go_wp2_with fail
  refine d2.out.mono ?_
  rintro e w2 ⟨rfl, B2⟩
  have K2 := hide (K1.out.trans (B2.mono K1.out.size))
  have S2 := hide (S1.out.below B2)
  have d3 := hide (hq3.out w2 (HA.out.below K2.out))
  clear d2 S1 B2 hq3 K1
  go_wp2_with fail
  refine d3.out.mono ?_
  rintro e w3 ⟨rfl, B3⟩
  have K3 := hide (K2.out.trans (B3.mono K2.out.size))
  have S3 := hide (S2.out.below B3)
  clear d3 S2 B3 K2
  cases NL with
  | false =>
    obtain ⟨rfl, rfl, rfl⟩ := hE0.out rfl
    have hm1 : m1 = 0 := by have := S3.out.hlen; simpa using this.symm
    subst hm1
    clear hE0 hE1 hE2 hE3 S3
    go_wp2_with fail
    refine (there_any _).mono ?_
    rintro e w4 ⟨rfl, B4⟩
    go_wp2
    go_ret
    exact ⟨rfl, K3.out.trans (B4.mono K3.out.size)⟩
  | true =>
    obtain rfl := hE1.out rfl
    obtain ⟨hl1, hl2⟩ := hE2.out rfl
    obtain ⟨⟨hA1, hA2⟩, hP1, hP2⟩ := hE3.out rfl
    have hm1 := S3.out.hlen
    have d4 := callsIn_wide.1 (decodeN_in a1 m1 c1 EC w3 S3.out (by omega))
    rw [hA1, hA2] at d4
    have d5 := fun (W : World) (hT : TabN W) (hM : MLn W m) => callsIn_wide.1 (parseN_in TX hl2 m W hT hM)
    rw [hP1, hP2] at d5
    have D4 := hide d4
    have D5 := hide d5
    clear d4 d5 hE0 hE1 hE2 hE3 S3 hA1 hA2 hP1 hP2 hl1 hl2 hm1
    have q0 : ((0 : Int) == 0) = true := rfl
    go_wp2_with fail
    refine D4.out.mono ?_
    rintro e w4 ⟨a4, m4, c4, rfl, o4, B4⟩
    have K4 := hide (K3.out.trans (B4.mono K3.out.size))
    have d6 := hide (D5.out w4 (HT.out.below K4.out) (HM.out.below K4.out))
    have A4 := o4.ats HX.out
    have HA4 := hide A4
    have hm4 : m4 = na := by rw [← A4.hl, ← HA.out.hl]
    clear D4 D5 B4 o4 A4 K3
    subst hm4
    go_wp2_with fail
    refine d6.out.mono ?_
    rintro e w5 ⟨a5, m5, c5, rfl, o5, B5⟩
    have K5 := hide (K4.out.trans (B5.mono K4.out.size))
    have HA5 := hide (HA4.out.below B5)
    have A5 := o5.ats HX.out
    have HA6 := hide A5
    have hm5 : m5 = m4 := by rw [← A5.hl, ← HA.out.hl]
    subst hm5
    have d7 := hide (alike12_any a4 m5 c4 xs aa ca w5 HA5.out (HA.out.below K5.out))
    clear d6 B5 o5 A5 K4 HA4
    go_wp2_with fail
    refine d7.out.mono ?_
    rintro e w6 ⟨rfl, B6⟩
    have K6 := hide (K5.out.trans (B6.mono K5.out.size))
    have d8 := hide (alike12_any a5 m5 c5 xs aa ca w6 (HA6.out.below B6) (HA.out.below K6.out))
    have HA7 := hide (HA5.out.below B6)
    clear d7 B6 HA5 HA6 K5
    go_wp2_with fail
    refine d8.out.mono ?_
    rintro e w7 ⟨rfl, B7⟩
    have K7 := hide (K6.out.trans (B7.mono K6.out.size))
    have d9 := same12_any a4 m5 c4 xs aa m5 ca xs w7 (HA7.out.below B7) (HA.out.below K7.out)
    rw [decide_eq_true (rfl : xs.map key = xs.map key)] at d9
    have D9 := hide d9
    clear d8 d9 B7 HA7 K6
    go_wp2_with fail
    refine D9.out.mono ?_
    rintro e w8 ⟨rfl, B8⟩
    have K8 := hide (K7.out.trans (B8.mono K7.out.size))
    clear D9 B8 K7
    go_wp2_with fail
    refine (there_any _).mono ?_
    rintro e w9 ⟨rfl, B9⟩
    go_wp2
    go_ret
    exact ⟨rfl, K8.out.trans (B9.mono K8.out.size)⟩

end Go.Proofs.YtgbbgfjamneioaaDoor
