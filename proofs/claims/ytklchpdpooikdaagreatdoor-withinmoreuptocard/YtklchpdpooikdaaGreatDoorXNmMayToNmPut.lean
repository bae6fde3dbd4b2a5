/-
  May an attribute be, may a name be? name.mayBe, name.May.
  name.May: may a name be?
  name.put: the bytes of an element.
-/
import Derived.Test.YtklchpdpooikdaaGreatDoorXNmRowToNmThere
import Derived.Test.YtklchpdpooikdaaGreatDoorXTxL0ToPut
import Derived.Test.YtklchpdpooikdaaGreatDoorXLenToRMay
import Derived.Test.YtklchpdpooikdaaGreatDoorXOEncToTxL2
namespace Go.Proofs.YtklchpdpooikdaaGreatDoor
open Go.RowKit Go.IntWalk Go.Shelf

def greatN (n : Nat) : Bool := decide (65 ≤ n) && decide (n ≤ 90)
/-- Two great letters. -/
def ctryL : List UInt8 → Bool
  | [a, b] => greatN a.toNat && greatN b.toNat
  | _ => false
def plainT (t : Int) : Bool := decide (t = 3 ∨ t = 7 ∨ t = 8 ∨ t = 10 ∨ t = 11)
def valL (l : List UInt8) : Bool := decide (0 < l.length) && (decide (l.length ≤ 64) && mayL 12 l)
/-- May an attribute of this type have this value? -/
def attrL (t : Int) (l : List UInt8) : Bool := if t = 6 then ctryL l && (mayL 19 l && valL l) else if t = 5 then mayL 19 l && valL l else plainT t && valL l
def nameL (xs : List (Int × ByteArray)) : Bool := decide (xs.length ≤ 16) && xs.all (fun x => attrL x.1 x.2.data.toList)

theorem isGreat_any (n : Nat) (w : World) :
    Calls Tryz.prog 193 #[.int .u8 n] w fun e w' => e = .returned (.bool (greatN n)) ∧ w' = w := by
  by_cases h1 : 65 ≤ n
  · have i1 : (65 : Int) ≤ (n : Int) := by omega
    by_cases h2 : n ≤ 90
    · have i2 : (n : Int) ≤ 90 := by omega
      go_enter Tryz.func193, Tryz.ntmps193
      go_wp2
      go_ret
      exact ⟨by simp [greatN, h1, h2], rfl⟩
    · have i2 : ¬ (n : Int) ≤ 90 := by omega
      go_enter Tryz.func193, Tryz.ntmps193
      go_wp2
      go_ret
      exact ⟨by simp [greatN, h2], rfl⟩
  · have i1 : ¬ (65 : Int) ≤ (n : Int) := by omega
    go_enter Tryz.func193, Tryz.ntmps193
    go_wp2
    go_ret
    exact ⟨by simp [greatN, h1], rfl⟩

theorem ctry_two (s : ByteArray) (h : s.size = 2) : ctryL s.data.toList = (greatN (s[0]'(by omega)).toNat && greatN (s[1]'(by omega)).toNat) := by
  obtain ⟨⟨l⟩⟩ := s
  match l, h with
  | [a, b], _ => rfl
theorem ctry_not (s : ByteArray) (h : ¬ s.size = 2) : ctryL s.data.toList = false := by
  obtain ⟨⟨l⟩⟩ := s
  match l, h with
  | [], _ => rfl
  | [a], _ => rfl
  | [a, b], h => exact absurd rfl h
  | a :: b :: c :: r, _ => rfl

set_option maxRecDepth 100000 in
theorem isCountry_any (s : ByteArray) (w : World) :
    Calls Tryz.prog 181 #[.string s] w fun e w' => e = .returned (.bool (ctryL s.data.toList)) ∧ w' = w := by
  by_cases h : s.size = 2
  · have hR := hide (ctry_two s h)
    have hi : (s.size : Int) = 2 := by omega
    have g0 := hide (fun W => isGreat_any (s[0]'(by omega)).toNat W)
    have g1 := hide (fun W => isGreat_any (s[1]'(by omega)).toNat W)
    have l0 : 0 < s.size := by omega
    have l1 : 1 < s.size := by omega
    generalize greatN (s[0]'(by omega)).toNat = P at hR g0
    generalize greatN (s[1]'(by omega)).toNat = Q at hR g1
    cases P with
    | false =>
      go_enter Tryz.func181, Tryz.ntmps181
      go_wp2_with fail
      refine (g0.out _).mono ?_
      rintro e w1 ⟨rfl, rfl⟩
      go_wp2
      go_ret
      exact ⟨by rw [hR.out]; rfl, rfl⟩
    | true =>
      go_enter Tryz.func181, Tryz.ntmps181
      go_wp2_with fail
      refine (g0.out _).mono ?_
      rintro e w1 ⟨rfl, rfl⟩
      go_wp2_with fail
      refine (g1.out _).mono ?_
      rintro e w2 ⟨rfl, rfl⟩
      go_wp2
      go_ret
      exact ⟨by rw [hR.out]; rfl, rfl⟩
  · have hR := hide (ctry_not s h)
    have hi : ¬ (s.size : Int) = 2 := by omega
    go_enter Tryz.func181, Tryz.ntmps181
    go_wp2
    go_ret
    exact ⟨by rw [hR.out]; simp, rfl⟩

set_option maxRecDepth 100000 in
set_option maxHeartbeats 2000000 in
theorem mayBe_any (t : Int) (s : ByteArray) (hs : s.size ≤ 140737488355328) (w : World) :
    Calls Tryz.prog 171 #[.agg #[.int .i64 t, .string s]] w fun e w' => e = .returned (.bool (attrL t s.data.toList)) ∧ Below w.heap.size w w' := by
  have m19 := hide (fun W => may_any 19 s hs W)
  have m12 := hide (fun W => may_any 12 s hs W)
  have HB := hide (nbelow w (.cells #[.int .i64 t, .string s] 111))
  have d1 : (w.alloc (.cells #[.int .i64 t, .string s] 111)).cell? ⟨w.heap.size, 1, none⟩ = some (.string s) := by simp
  by_cases h6 : t = 6
  · subst h6
    have hc := hide (fun W => isCountry_any s W)
    have HV : Hid (attrL 6 s.data.toList = (ctryL s.data.toList && (mayL 19 s.data.toList && valL s.data.toList))) := by unfold Hid attrL; rw [if_pos rfl]
    generalize ctryL s.data.toList = C at hc HV
    generalize mayL 19 s.data.toList = M at m19 HV
    cases C with
    | false =>
      go_enter Tryz.func171, Tryz.ntmps171
      go_wp2_with fail
      refine (hc.out _).mono ?_
      rintro e w1 ⟨rfl, hw1⟩
      subst hw1
      go_wp2
      go_ret
      exact ⟨by rw [HV.out]; rfl, HB.out⟩
    | true =>
      cases M with
      | false =>
        go_enter Tryz.func171, Tryz.ntmps171
        go_wp2_with fail
        refine (hc.out _).mono ?_
        rintro e w1 ⟨rfl, hw1⟩
        subst hw1
        go_wp2_with fail
        refine (m19.out _).mono ?_
        rintro e w2 ⟨rfl, L2⟩
        go_wp2
        go_ret
        exact ⟨by rw [HV.out]; rfl, HB.out.trans (L2.mono HB.out.size)⟩
      | true =>
        go_enter Tryz.func171, Tryz.ntmps171
        go_wp2_with fail
        refine (hc.out _).mono ?_
        rintro e w1 ⟨rfl, hw1⟩
        subst hw1
        go_wp2_with fail
        refine (m19.out _).mono ?_
        rintro e w2 ⟨rfl, L2⟩
        have d2 := (L2.cell (p := ⟨w.heap.size, 1, none⟩) (lt_of_cell d1)).trans d1
        replace HB := hide (HB.out.trans (L2.mono HB.out.size))
        replace HV : Hid (attrL 6 s.data.toList = valL s.data.toList) := HV.out
        by_cases z0 : 0 < s.size
        · have i0 : (0 : Int) < (s.size : Int) := by omega
          by_cases z1 : s.size ≤ 64
          · have i1 : (s.size : Int) ≤ 64 := by omega
            go_wp2_with fail
            refine (m12.out _).mono ?_
            rintro e w9 ⟨rfl, L9⟩
            go_wp2
            go_ret
            exact ⟨by rw [HV.out]; unfold valL; rw [decide_eq_true (show 0 < s.data.toList.length by rw [size_len]; exact z0), decide_eq_true (show s.data.toList.length ≤ 64 by rw [size_len]; exact z1)]; simp, HB.out.trans (L9.mono HB.out.size)⟩
          · have i1 : ¬ (s.size : Int) ≤ 64 := by omega
            go_wp2
            go_ret
            exact ⟨by rw [HV.out]; unfold valL; rw [decide_eq_false (show ¬ s.data.toList.length ≤ 64 by rw [size_len]; exact z1)]; simp, HB.out⟩
        · have i0 : ¬ (0 : Int) < (s.size : Int) := by omega
          go_wp2
          go_ret
          exact ⟨by rw [HV.out]; unfold valL; rw [decide_eq_false (show ¬ 0 < s.data.toList.length by rw [size_len]; exact z0)]; simp, HB.out⟩
  by_cases h5 : t = 5
  · subst h5
    have HV : Hid (attrL 5 s.data.toList = (mayL 19 s.data.toList && valL s.data.toList)) := by unfold Hid attrL; rw [if_neg (by decide), if_pos rfl]
    generalize mayL 19 s.data.toList = M at m19 HV
    cases M with
    | false =>
      go_enter Tryz.func171, Tryz.ntmps171
      go_wp2_with fail
      refine (m19.out _).mono ?_
      rintro e w2 ⟨rfl, L2⟩
      go_wp2
      go_ret
      exact ⟨by rw [HV.out]; rfl, HB.out.trans (L2.mono HB.out.size)⟩
    | true =>
      go_enter Tryz.func171, Tryz.ntmps171
      go_wp2_with fail
      refine (m19.out _).mono ?_
      rintro e w2 ⟨rfl, L2⟩
      have d2 := (L2.cell (p := ⟨w.heap.size, 1, none⟩) (lt_of_cell d1)).trans d1
      replace HB := hide (HB.out.trans (L2.mono HB.out.size))
      replace HV : Hid (attrL 5 s.data.toList = valL s.data.toList) := HV.out
      by_cases z0 : 0 < s.size
      · have i0 : (0 : Int) < (s.size : Int) := by omega
        by_cases z1 : s.size ≤ 64
        · have i1 : (s.size : Int) ≤ 64 := by omega
          go_wp2_with fail
          refine (m12.out _).mono ?_
          rintro e w9 ⟨rfl, L9⟩
          go_wp2
          go_ret
          exact ⟨by rw [HV.out]; unfold valL; rw [decide_eq_true (show 0 < s.data.toList.length by rw [size_len]; exact z0), decide_eq_true (show s.data.toList.length ≤ 64 by rw [size_len]; exact z1)]; simp, HB.out.trans (L9.mono HB.out.size)⟩
        · have i1 : ¬ (s.size : Int) ≤ 64 := by omega
          go_wp2
          go_ret
          exact ⟨by rw [HV.out]; unfold valL; rw [decide_eq_false (show ¬ s.data.toList.length ≤ 64 by rw [size_len]; exact z1)]; simp, HB.out⟩
      · have i0 : ¬ (0 : Int) < (s.size : Int) := by omega
        go_wp2
        go_ret
        exact ⟨by rw [HV.out]; unfold valL; rw [decide_eq_false (show ¬ 0 < s.data.toList.length by rw [size_len]; exact z0)]; simp, HB.out⟩
  by_cases hp : plainT t = true
  · have hq := of_decide_eq_true hp
    clear h5 h6 hp
    rcases hq with rfl | rfl | rfl | rfl | rfl
    · have HV : Hid (attrL 3 s.data.toList = valL s.data.toList) := by unfold Hid attrL plainT; simp
      go_enter Tryz.func171, Tryz.ntmps171
      by_cases z0 : 0 < s.size
      · have i0 : (0 : Int) < (s.size : Int) := by omega
        by_cases z1 : s.size ≤ 64
        · have i1 : (s.size : Int) ≤ 64 := by omega
          go_wp2_with fail
          refine (m12.out _).mono ?_
          rintro e w9 ⟨rfl, L9⟩
          go_wp2
          go_ret
          exact ⟨by rw [HV.out]; unfold valL; rw [decide_eq_true (show 0 < s.data.toList.length by rw [size_len]; exact z0), decide_eq_true (show s.data.toList.length ≤ 64 by rw [size_len]; exact z1)]; simp, HB.out.trans (L9.mono HB.out.size)⟩
        · have i1 : ¬ (s.size : Int) ≤ 64 := by omega
          go_wp2
          go_ret
          exact ⟨by rw [HV.out]; unfold valL; rw [decide_eq_false (show ¬ s.data.toList.length ≤ 64 by rw [size_len]; exact z1)]; simp, HB.out⟩
      · have i0 : ¬ (0 : Int) < (s.size : Int) := by omega
        go_wp2
        go_ret
        exact ⟨by rw [HV.out]; unfold valL; rw [decide_eq_false (show ¬ 0 < s.data.toList.length by rw [size_len]; exact z0)]; simp, HB.out⟩
    · have HV : Hid (attrL 7 s.data.toList = valL s.data.toList) := by unfold Hid attrL plainT; simp
      go_enter Tryz.func171, Tryz.ntmps171
      by_cases z0 : 0 < s.size
      · have i0 : (0 : Int) < (s.size : Int) := by omega
        by_cases z1 : s.size ≤ 64
        · have i1 : (s.size : Int) ≤ 64 := by omega
          go_wp2_with fail
          refine (m12.out _).mono ?_
          rintro e w9 ⟨rfl, L9⟩
          go_wp2
          go_ret
          exact ⟨by rw [HV.out]; unfold valL; rw [decide_eq_true (show 0 < s.data.toList.length by rw [size_len]; exact z0), decide_eq_true (show s.data.toList.length ≤ 64 by rw [size_len]; exact z1)]; simp, HB.out.trans (L9.mono HB.out.size)⟩
        · have i1 : ¬ (s.size : Int) ≤ 64 := by omega
          go_wp2
          go_ret
          exact ⟨by rw [HV.out]; unfold valL; rw [decide_eq_false (show ¬ s.data.toList.length ≤ 64 by rw [size_len]; exact z1)]; simp, HB.out⟩
      · have i0 : ¬ (0 : Int) < (s.size : Int) := by omega
        go_wp2
        go_ret
        exact ⟨by rw [HV.out]; unfold valL; rw [decide_eq_false (show ¬ 0 < s.data.toList.length by rw [size_len]; exact z0)]; simp, HB.out⟩
    · have HV : Hid (attrL 8 s.data.toList = valL s.data.toList) := by unfold Hid attrL plainT; simp
      go_enter Tryz.func171, Tryz.ntmps171
      by_cases z0 : 0 < s.size
      · have i0 : (0 : Int) < (s.size : Int) := by omega
        by_cases z1 : s.size ≤ 64
        · have i1 : (s.size : Int) ≤ 64 := by omega
          go_wp2_with fail
          refine (m12.out _).mono ?_
          rintro e w9 ⟨rfl, L9⟩
          go_wp2
          go_ret
          exact ⟨by rw [HV.out]; unfold valL; rw [decide_eq_true (show 0 < s.data.toList.length by rw [size_len]; exact z0), decide_eq_true (show s.data.toList.length ≤ 64 by rw [size_len]; exact z1)]; simp, HB.out.trans (L9.mono HB.out.size)⟩
        · have i1 : ¬ (s.size : Int) ≤ 64 := by omega
          go_wp2
          go_ret
          exact ⟨by rw [HV.out]; unfold valL; rw [decide_eq_false (show ¬ s.data.toList.length ≤ 64 by rw [size_len]; exact z1)]; simp, HB.out⟩
      · have i0 : ¬ (0 : Int) < (s.size : Int) := by omega
        go_wp2
        go_ret
        exact ⟨by rw [HV.out]; unfold valL; rw [decide_eq_false (show ¬ 0 < s.data.toList.length by rw [size_len]; exact z0)]; simp, HB.out⟩
    · have HV : Hid (attrL 10 s.data.toList = valL s.data.toList) := by unfold Hid attrL plainT; simp
      go_enter Tryz.func171, Tryz.ntmps171
      by_cases z0 : 0 < s.size
      · have i0 : (0 : Int) < (s.size : Int) := by omega
        by_cases z1 : s.size ≤ 64
        · have i1 : (s.size : Int) ≤ 64 := by omega
          go_wp2_with fail
          refine (m12.out _).mono ?_
          rintro e w9 ⟨rfl, L9⟩
          go_wp2
          go_ret
          exact ⟨by rw [HV.out]; unfold valL; rw [decide_eq_true (show 0 < s.data.toList.length by rw [size_len]; exact z0), decide_eq_true (show s.data.toList.length ≤ 64 by rw [size_len]; exact z1)]; simp, HB.out.trans (L9.mono HB.out.size)⟩
        · have i1 : ¬ (s.size : Int) ≤ 64 := by omega
          go_wp2
          go_ret
          exact ⟨by rw [HV.out]; unfold valL; rw [decide_eq_false (show ¬ s.data.toList.length ≤ 64 by rw [size_len]; exact z1)]; simp, HB.out⟩
      · have i0 : ¬ (0 : Int) < (s.size : Int) := by omega
        go_wp2
        go_ret
        exact ⟨by rw [HV.out]; unfold valL; rw [decide_eq_false (show ¬ 0 < s.data.toList.length by rw [size_len]; exact z0)]; simp, HB.out⟩
    · have HV : Hid (attrL 11 s.data.toList = valL s.data.toList) := by unfold Hid attrL plainT; simp
      go_enter Tryz.func171, Tryz.ntmps171
      by_cases z0 : 0 < s.size
      · have i0 : (0 : Int) < (s.size : Int) := by omega
        by_cases z1 : s.size ≤ 64
        · have i1 : (s.size : Int) ≤ 64 := by omega
          go_wp2_with fail
          refine (m12.out _).mono ?_
          rintro e w9 ⟨rfl, L9⟩
          go_wp2
          go_ret
          exact ⟨by rw [HV.out]; unfold valL; rw [decide_eq_true (show 0 < s.data.toList.length by rw [size_len]; exact z0), decide_eq_true (show s.data.toList.length ≤ 64 by rw [size_len]; exact z1)]; simp, HB.out.trans (L9.mono HB.out.size)⟩
        · have i1 : ¬ (s.size : Int) ≤ 64 := by omega
          go_wp2
          go_ret
          exact ⟨by rw [HV.out]; unfold valL; rw [decide_eq_false (show ¬ s.data.toList.length ≤ 64 by rw [size_len]; exact z1)]; simp, HB.out⟩
      · have i0 : ¬ (0 : Int) < (s.size : Int) := by omega
        go_wp2
        go_ret
        exact ⟨by rw [HV.out]; unfold valL; rw [decide_eq_false (show ¬ 0 < s.data.toList.length by rw [size_len]; exact z0)]; simp, HB.out⟩
  · have HV : Hid (attrL t s.data.toList = false) := by unfold Hid attrL; rw [if_neg h6, if_neg h5, Bool.eq_false_iff.2 hp]; rfl
    have hq : ¬ (t = 3 ∨ t = 7 ∨ t = 8 ∨ t = 10 ∨ t = 11) := fun h => hp (decide_eq_true h)
    have q3 : ¬ t = 3 := fun h => hq (.inl h)
    have q7 : ¬ t = 7 := fun h => hq (.inr (.inl h))
    have q8 : ¬ t = 8 := fun h => hq (.inr (.inr (.inl h)))
    have q10 : ¬ t = 10 := fun h => hq (.inr (.inr (.inr (.inl h))))
    have q11 : ¬ t = 11 := fun h => hq (.inr (.inr (.inr (.inr h))))
    clear hq hp
    go_enter Tryz.func171, Tryz.ntmps171
    go_wp2
    go_ret
    exact ⟨by rw [HV.out]; rfl, HB.out⟩

end Go.Proofs.YtklchpdpooikdaaGreatDoor

namespace Go.Proofs.YtklchpdpooikdaaGreatDoor
open Go.RowKit Go.IntWalk Go.Shelf

theorem all_dropN (p : Int × ByteArray → Bool) (xs : List (Int × ByteArray)) (k : Nat) (h : k < xs.length) : (xs.drop k).all p = (p (xs.getD k (0, ByteArray.empty)) && (xs.drop (k + 1)).all p) := by
  rw [List.drop_eq_getElem_cons h, List.all_cons]
  simp [List.getD, h]

set_option maxRecDepth 100000 in
set_option maxHeartbeats 2000000 in
theorem mayN_any (ao : Option Addr) (n cap : Nat) (xs : List (Int × ByteArray)) (w : World) (hA : Ats w ao n cap xs) (hz : ∀ x ∈ xs, x.2.size ≤ 140737488355328) :
    Calls Tryz.prog 151 #[.slice ao n cap] w fun e w' => e = .returned (.bool (nameL xs)) ∧ Below w.heap.size w w' := by
  have HL := hide hA.hl
  have hc := hA.hcap
  have hm := hA.hmax
  unfold maxLen at hm
  have HA := hide hA
  have HZ := hide hz
  clear hA hz
  by_cases h16 : n ≤ 16
  · have hR : Hid (nameL xs = xs.all (fun x => attrL x.1 x.2.data.toList)) := by unfold Hid nameL; rw [HL.out, decide_eq_true h16, Bool.true_and]
    have i16 : ¬ (16 : Int) < (n : Int) := by omega
    generalize nameL xs = R at hR
    go_enter Tryz.func151, Tryz.ntmps151
    go_wp2
    go_loopw [10] (fun v wr => ∃ k : Nat, v = .int .i64 k ∧ k ≤ n ∧ Hid (R = (xs.drop k).all (fun x => attrL x.1 x.2.data.toList)) ∧ Hid (Below w.heap.size w wr)) (fun v _ => n - (intOf v).toNat)
    case atStart => exact ⟨0, rfl, Nat.zero_le _, hR, Below.refl _ _⟩
    case round =>
      obtain ⟨k, rfl, hk, hE, hQ⟩ := hrel
      by_cases hlt : k < n
      · have ltI : (k : Int) < (n : Int) := by omega
        obtain ⟨b, off, rfl, hcl⟩ := (HA.out.below hQ.out).hrd (by omega)
        obtain ⟨c0, c1⟩ := hcl k hlt
        have hst := hide (all_dropN (fun x => attrL x.1 x.2.data.toList) xs k (by rw [HL.out]; exact hlt))
        have hsz := HZ.out _ (getD_mem (xs := xs) (i := k) (by rw [HL.out]; exact hlt))
        generalize xs.getD k (0, ByteArray.empty) = x at c0 c1 hst hsz
        obtain ⟨t, s⟩ := x
        simp only [] at c0 c1 hsz
        clear hcl
        have hB := hide (fun W => mayBe_any t s hsz W)
        replace hst : Hid ((xs.drop k).all (fun x => attrL x.1 x.2.data.toList) = (attrL t s.data.toList && (xs.drop (k + 1)).all (fun x => attrL x.1 x.2.data.toList))) := hst.out
        have B2 := hide (hQ.out.alloc hQ.out.size (.cells #[.int .i64 t, .string s] 111))
        generalize attrL t s.data.toList = q at hB hst
        cases q with
        | true =>
          have hE2 : Hid (R = (xs.drop (k + 1)).all (fun x => attrL x.1 x.2.data.toList)) := by unfold Hid; rw [hE.out, hst.out, Bool.true_and]
          go_wp2_with fail
          refine (hB.out _).mono ?_
          rintro e w1 ⟨rfl, L1⟩
          go_wp2
          go_roundw
          case rel => exact ⟨k + 1, by simp, by omega, hE2, B2.out.trans (L1.mono B2.out.size)⟩
          case measure => simp [intOf]; omega
        | false =>
          have hF : Hid (R = false) := by unfold Hid; rw [hE.out, hst.out]; rfl
          go_wp2_with fail
          refine (hB.out _).mono ?_
          rintro e w1 ⟨rfl, L1⟩
          go_wp2
          go_ret
          exact ⟨by rw [hF.out]; rfl, B2.out.trans (L1.mono B2.out.size)⟩
      · have ltI : ¬ (k : Int) < (n : Int) := by omega
        have hF : Hid (R = true) := by unfold Hid; rw [hE.out, List.drop_eq_nil_of_le (by rw [HL.out]; omega)]; rfl
        go_wp2
        go_ret
        exact ⟨by rw [hF.out]; rfl, hQ.out⟩
  · have hR : Hid (nameL xs = false) := by unfold Hid nameL; rw [HL.out, decide_eq_false h16, Bool.false_and]
    have i16 : (16 : Int) < (n : Int) := by omega
    go_enter Tryz.func151, Tryz.ntmps151
    go_wp2
    go_ret
    exact ⟨by rw [hR.out]; rfl, Below.refl _ _⟩

end Go.Proofs.YtklchpdpooikdaaGreatDoor

namespace Go.Proofs.YtklchpdpooikdaaGreatDoor
open Go.RowKit Go.IntWalk Go.Shelf

theorem srcN_none (w : World) : Src w none 0 0 [] := ⟨rfl, Nat.le_refl _, by decide, fun _ => ⟨rfl, rfl⟩, fun h => absurd rfl h, by intro x hx; cases hx⟩
/-- Bytes each. -/
def Byt (xs : List Int) : Prop := ∀ x ∈ xs, 0 ≤ x ∧ x < 256
theorem putS_byte (tag : Int) (ls : List (List Int)) (h : ∀ l ∈ ls, Byt l) : Byt (putS [] tag ls).1 := by
  unfold putS
  split
  · intro x hx; cases hx
  · split
    · intro x hx; cases hx
    · rename_i h1 h2
      have ht := tag_bd (t := tag) (by simpa using h1)
      intro x hx
      simp only [List.nil_append, List.mem_append, List.mem_flatten] at hx
      rcases hx with (hx | hx) | ⟨l, hl, hx⟩
      · simp at hx; subst hx; omega
      · exact lenB_byte _ (by omega) x hx
      · exact h l hl x hx

theorem Parts.one {w : World} {b : Nat} {a : Option Addr} {m c : Nat} {xs : List Int} (h : w.cell? ⟨b, 0, none⟩ = some (.slice a m c)) (hs : Src w a m c xs) : Parts w (some ⟨b, 0, none⟩) 1 1 [.slice a m c] [xs] := by
  refine ⟨rfl, rfl, Nat.le_refl _, by decide, fun _ => ⟨b, 0, rfl, fun i hi => ?_⟩, fun i hi => ?_⟩
  · obtain rfl : i = 0 := by omega
    exact h
  · obtain rfl : i = 0 := by omega
    exact ⟨a, m, c, rfl, hs⟩
theorem Parts.two {w : World} {b : Nat} {a a2 : Option Addr} {m c m2 c2 : Nat} {xs ys : List Int} (h : w.cell? ⟨b, 0, none⟩ = some (.slice a m c)) (h2 : w.cell? ⟨b, 1, none⟩ = some (.slice a2 m2 c2)) (hs : Src w a m c xs) (hs2 : Src w a2 m2 c2 ys) : Parts w (some ⟨b, 0, none⟩) 2 2 [.slice a m c, .slice a2 m2 c2] [xs, ys] := by
  refine ⟨rfl, rfl, Nat.le_refl _, by decide, fun _ => ⟨b, 0, rfl, fun i hi => ?_⟩, fun i hi => ?_⟩
  · rcases (by omega : i = 0 ∨ i = 1) with rfl | rfl
    · exact h
    · exact h2
  · rcases (by omega : i = 0 ∨ i = 1) with rfl | rfl
    · exact ⟨a, m, c, rfl, hs⟩
    · exact ⟨a2, m2, c2, rfl, hs2⟩

set_option maxRecDepth 100000 in
theorem nput_any (tag : Int) (ao : Option Addr) (n cap : Nat) (vs : List Value) (ls : List (List Int)) (w : World) (hp : Parts w ao n cap vs ls) (hn : (n : Int) ≤ 140737488355328) :
    Calls Tryz.prog 153 #[.int .i64 tag, .slice ao n cap] w fun e w' => ∃ a m c, e = .returned (.slice a m c) ∧ OwnB w' w.heap.size (.slice a m c) (putS [] tag ls).1 ∧ Below w.heap.size w w' := by
  have hC := hide (put_any none 0 0 [] tag ao n cap vs ls w (srcN_none w) hp (by decide) hn)
  generalize putS [] tag ls = P at hC ⊢
  go_enter Tryz.func153, Tryz.ntmps153
  go_wp2_with fail
  refine hC.out.mono ?_
  rintro e w1 ⟨a, m, c, rfl, O1, B1⟩
  go_wp2
  go_ret
  exact ⟨a, m, c, rfl, O1, B1⟩

end Go.Proofs.YtklchpdpooikdaaGreatDoor
