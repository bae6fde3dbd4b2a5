/-
  A name that may be: chancerylaw12.there answers true.
  May an attribute be, may a name be? name.mayBe, name.May.
-/
import Derived.Test.YtgbbgfjamneioaaDoorXTxTToNmRow
namespace Go.Proofs.YtgbbgfjamneioaaDoor
open Go.RowKit Go.IntWalk Go.Shelf

theorem may_de (k : Int) (hk : k = 12 ∨ k = 19) : mayL k [68, 69] = true := by
  rcases hk with rfl | rfl <;> decide

theorem great_any (b : Int) (h1 : 65 ≤ b) (h2 : b ≤ 90) (w : World) :
    Calls Tryd.prog 80 #[.int .u8 b] w fun e w' => e = .returned (.bool true) ∧ w' = w := by
  go_enter Tryd.func80, Tryd.ntmps80
  go_wp2
  go_ret
  exact ⟨rfl, rfl⟩

set_option maxRecDepth 100000 in
theorem country_de (w : World) :
    Calls Tryd.prog 56 #[.string ⟨#[68, 69]⟩] w fun e w' => e = .returned (.bool true) ∧ w' = w := by
  go_enter Tryd.func56, Tryd.ntmps56
  go_wp2_with (go_at_call 80; refine (great_any _ (by decide) (by decide) _).mono ?_; rintro e w1 ⟨rfl, hw⟩; have hw2 := hw.symm; subst hw2)
  go_ret
  exact ⟨rfl, rfl⟩

set_option maxRecDepth 100000 in
theorem mayBe_de (w : World) :
    Calls Tryd.prog 33 #[.agg #[.int .i64 6, .string ⟨#[68, 69]⟩]] w fun e w' => e = .returned (.bool true) ∧ Below w.heap.size w w' := by
  have m1 := hide (fun W => may_any 19 ⟨#[68, 69]⟩ (by decide) W)
  have m2 := hide (fun W => may_any 12 ⟨#[68, 69]⟩ (by decide) W)
  have e1 := may_de 19 (.inr rfl)
  have e2 := may_de 12 (.inl rfl)
  have hB := nbelow w (.cells #[.int .i64 6, .string ⟨#[68, 69]⟩] 52)
  go_enter Tryd.func33, Tryd.ntmps33
  go_wp2_with (first
    | (go_at_call 56; refine (country_de _).mono ?_; rintro e w1 ⟨rfl, hw⟩; have hw2 := hw.symm; subst hw2)
    | (go_at_call_of 57 (19 : Int); refine (m1.out _).mono ?_; rintro e w1 ⟨rfl, L1⟩; have c1 := (L1.cell (p := ⟨w.heap.size, 1, none⟩) (by simp)).trans (show (w.alloc (.cells #[.int .i64 6, .string ⟨#[68, 69]⟩] 52)).cell? ⟨w.heap.size, 1, none⟩ = some (.string ⟨#[68, 69]⟩) by simp); replace hB := hB.trans (L1.mono hB.size); rw [e1])
    | (go_at_call_of 57 (12 : Int); refine (m2.out _).mono ?_; rintro e w2 ⟨rfl, L2⟩; replace hB := hB.trans (L2.mono hB.size); rw [e2]))
  go_ret
  exact ⟨rfl, hB⟩

set_option maxRecDepth 100000 in
theorem may_one (w : World) :
    Calls Tryd.prog 12 #[.slice (some ⟨w.heap.size, 0, none⟩) 1 1] (w.alloc (.cells #[.int .i64 6, .string ⟨#[68, 69]⟩] 52)) fun e w' => e = .returned (.bool true) ∧ Below w.heap.size w w' := by
  have hm := hide mayBe_de
  have hB := nbelow w (.cells #[.int .i64 6, .string ⟨#[68, 69]⟩] 52)
  have c0 : (w.alloc (.cells #[.int .i64 6, .string ⟨#[68, 69]⟩] 52)).cell? ⟨w.heap.size, 0, none⟩ = some (.int .i64 6) := by simp
  have c1 : (w.alloc (.cells #[.int .i64 6, .string ⟨#[68, 69]⟩] 52)).cell? ⟨w.heap.size, 1, none⟩ = some (.string ⟨#[68, 69]⟩) := by simp
  generalize (w.alloc (.cells #[.int .i64 6, .string ⟨#[68, 69]⟩] 52)) = W at hB c0 c1 ⊢
  have hs := hB.size
  generalize w.heap.size = g at hB c0 c1 hs ⊢
  go_enter Tryd.func12, Tryd.ntmps12
  go_wp2
  go_loopw [10] (fun v wr => (v = .int .i64 0 ∧ wr = W) ∨ (v = .int .i64 1 ∧ Below W.heap.size W wr)) (fun v _ => 1 - (intOf v).toNat)
  case atStart => exact .inl ⟨rfl, rfl⟩
  case round =>
    rcases hrel with ⟨rfl, rfl⟩ | ⟨rfl, hQ⟩
    · go_wp2_with (go_at_call 33; refine (hm.out _).mono ?_; rintro e w1 ⟨rfl, h1⟩)
      go_roundw
      case rel => exact .inr ⟨rfl, (nbelow _ _).trans (h1.mono (by simp))⟩
      case measure => simp [intOf]
    · go_wp2
      go_ret
      exact ⟨rfl, hB.trans (hQ.mono hs)⟩

set_option maxRecDepth 100000 in
theorem there_any (w : World) :
    Calls Tryd.prog 21 #[] w fun e w' => e = .returned (.bool true) ∧ Below w.heap.size w w' := by
  have hm := hide (may_one w)
  go_enter Tryd.func21, Tryd.ntmps21
  go_wp2_with (go_at_call 12; refine hm.out.mono ?_; rintro e w1 ⟨rfl, h1⟩)
  go_ret
  exact ⟨rfl, h1⟩

end Go.Proofs.YtgbbgfjamneioaaDoor

namespace Go.Proofs.YtgbbgfjamneioaaDoor
open Go.RowKit Go.IntWalk Go.Shelf

def greatN (n : Nat) : Bool := decide (65 ≤ n) && decide (n ≤ 90)
/-- Two great letters. -/
def ctryL : List UInt8 → Bool
  | [a, b] => greatN a.toNat && greatN b.toNat
  | _ => false
def plainT (t : Int) : Bool := decide (t = 3 ∨ t = 7 ∨ t = 8 ∨ t = 10 ∨ t = 11)
def valL (l : List UInt8) : Bool := decide (0 < l.length) && (decide (l.length ≤ 64) && mayL 12 l)
/-- May an attribute of this type have this value? -/
def attrL (t : Int) (l : List UInt8) : Bool := if t = 6 then ctryL l && (mayL 19 l && valL l) else if t = 5 then mayL 19 l && valL l else plainT t && valL l
def nameL (xs : List (Int × ByteArray)) : Bool := decide (xs.length ≤ 16) && xs.all (fun x => attrL x.1 x.2.data.toList)

theorem isGreat_any (n : Nat) (w : World) :
    Calls Tryd.prog 80 #[.int .u8 n] w fun e w' => e = .returned (.bool (greatN n)) ∧ w' = w := by
  by_cases h1 : 65 ≤ n
  · have i1 : (65 : Int) ≤ (n : Int) := by omega
    by_cases h2 : n ≤ 90
    · have i2 : (n : Int) ≤ 90 := by omega
      go_enter Tryd.func80, Tryd.ntmps80
      go_wp2
      go_ret
      exact ⟨by simp [greatN, h1, h2], rfl⟩
    · have i2 : ¬ (n : Int) ≤ 90 := by omega
      go_enter Tryd.func80, Tryd.ntmps80
      go_wp2
      go_ret
      exact ⟨by simp [greatN, h2], rfl⟩
  · have i1 : ¬ (65 : Int) ≤ (n : Int) := by omega
    go_enter Tryd.func80, Tryd.ntmps80
    go_wp2
    go_ret
    exact ⟨by simp [greatN, h1], rfl⟩

theorem ctry_two (s : ByteArray) (h : s.size = 2) : ctryL s.data.toList = (greatN (s[0]'(by omega)).toNat && greatN (s[1]'(by omega)).toNat) := by
  obtain ⟨⟨l⟩⟩ := s
  match l, h with
  | [a, b], _ => rfl
theorem ctry_not (s : ByteArray) (h : ¬ s.size = 2) : ctryL s.data.toList = false := by
  obtain ⟨⟨l⟩⟩ := s
  match l, h with
  | [], _ => rfl
  | [a], _ => rfl
  | [a, b], h => exact absurd rfl h
  | a :: b :: c :: r, _ => rfl

set_option maxRecDepth 100000 in
theorem isCountry_any (s : ByteArray) (w : World) :
    Calls Tryd.prog 56 #[.string s] w fun e w' => e = .returned (.bool (ctryL s.data.toList)) ∧ w' = w := by
  by_cases h : s.size = 2
  · have hR := hide (ctry_two s h)
    have hi : (s.size : Int) = 2 := by omega
    have g0 := hide (fun W => isGreat_any (s[0]'(by omega)).toNat W)
    have g1 := hide (fun W => isGreat_any (s[1]'(by omega)).toNat W)
    have l0 : 0 < s.size := by omega
    have l1 : 1 < s.size := by omega
    generalize greatN (s[0]'(by omega)).toNat = P at hR g0
    generalize greatN (s[1]'(by omega)).toNat = Q at hR g1
    cases P with
    | false =>
      go_enter Tryd.func56, Tryd.ntmps56
      go_wp2_with fail
      refine (g0.out _).mono ?_
      rintro e w1 ⟨rfl, rfl⟩
      go_wp2
      go_ret
      exact ⟨by rw [hR.out]; rfl, rfl⟩
    | true =>
      go_enter Tryd.func56, Tryd.ntmps56
      go_wp2_with fail
      refine (g0.out _).mono ?_
      rintro e w1 ⟨rfl, rfl⟩
      go_wp2_with fail
      refine (g1.out _).mono ?_
      rintro e w2 ⟨rfl, rfl⟩
      go_wp2
      go_ret
      exact ⟨by rw [hR.out]; rfl, rfl⟩
  · have hR := hide (ctry_not s h)
    have hi : ¬ (s.size : Int) = 2 := by omega
    go_enter Tryd.func56, Tryd.ntmps56
    go_wp2
    go_ret
    exact ⟨by rw [hR.out]; simp, rfl⟩

set_option maxRecDepth 100000 in
set_option maxHeartbeats 2000000 in
theorem mayBe_any (t : Int) (s : ByteArray) (hs : s.size ≤ 140737488355328) (w : World) :
    Calls Tryd.prog 33 #[.agg #[.int .i64 t, .string s]] w fun e w' => e = .returned (.bool (attrL t s.data.toList)) ∧ Below w.heap.size w w' := by
  have m19 := hide (fun W => may_any 19 s hs W)
  have m12 := hide (fun W => may_any 12 s hs W)
  have HB := hide (nbelow w (.cells #[.int .i64 t, .string s] 52))
  have d1 : (w.alloc (.cells #[.int .i64 t, .string s] 52)).cell? ⟨w.heap.size, 1, none⟩ = some (.string s) := by simp
  by_cases h6 : t = 6
  · subst h6
    have hc := hide (fun W => isCountry_any s W)
    have HV : Hid (attrL 6 s.data.toList = (ctryL s.data.toList && (mayL 19 s.data.toList && valL s.data.toList))) := by unfold Hid attrL; rw [if_pos rfl]
    generalize ctryL s.data.toList = C at hc HV
    generalize mayL 19 s.data.toList = M at m19 HV
    cases C with
    | false =>
      go_enter Tryd.func33, Tryd.ntmps33
      go_wp2_with fail
      refine (hc.out _).mono ?_
      rintro e w1 ⟨rfl, hw1⟩
      subst hw1
      go_wp2
      go_ret
      exact ⟨by rw [HV.out]; rfl, HB.out⟩
    | true =>
      cases M with
      | false =>
        go_enter Tryd.func33, Tryd.ntmps33
        go_wp2_with fail
        refine (hc.out _).mono ?_
        rintro e w1 ⟨rfl, hw1⟩
        subst hw1
        go_wp2_with fail
        refine (m19.out _).mono ?_
        rintro e w2 ⟨rfl, L2⟩
        go_wp2
        go_ret
        exact ⟨by rw [HV.out]; rfl, HB.out.trans (L2.mono HB.out.size)⟩
      | true =>
        go_enter Tryd.func33, Tryd.ntmps33
        go_wp2_with fail
        refine (hc.out _).mono ?_
        rintro e w1 ⟨rfl, hw1⟩
        subst hw1
        go_wp2_with fail
        refine (m19.out _).mono ?_
        rintro e w2 ⟨rfl, L2⟩
        have d2 := (L2.cell (p := ⟨w.heap.size, 1, none⟩) (lt_of_cell d1)).trans d1
        replace HB := hide (HB.out.trans (L2.mono HB.out.size))
        replace HV : Hid (attrL 6 s.data.toList = valL s.data.toList) := HV.out
        by_cases z0 : 0 < s.size
        · have i0 : (0 : Int) < (s.size : Int) := by omega
          by_cases z1 : s.size ≤ 64
          · have i1 : (s.size : Int) ≤ 64 := by omega
            go_wp2_with fail
            refine (m12.out _).mono ?_
            rintro e w9 ⟨rfl, L9⟩
            go_wp2
            go_ret
            exact ⟨by rw [HV.out]; unfold valL; rw [decide_eq_true (show 0 < s.data.toList.length by rw [size_len]; exact z0), decide_eq_true (show s.data.toList.length ≤ 64 by rw [size_len]; exact z1)]; simp, HB.out.trans (L9.mono HB.out.size)⟩
          · have i1 : ¬ (s.size : Int) ≤ 64 := by omega
            go_wp2
            go_ret
            exact ⟨by rw [HV.out]; unfold valL; rw [decide_eq_false (show ¬ s.data.toList.length ≤ 64 by rw [size_len]; exact z1)]; simp, HB.out⟩
        · have i0 : ¬ (0 : Int) < (s.size : Int) := by omega
          go_wp2
          go_ret
          exact ⟨by rw [HV.out]; unfold valL; rw [decide_eq_false (show ¬ 0 < s.data.toList.length by rw [size_len]; exact z0)]; simp, HB.out⟩
  by_cases h5 : t = 5
  · subst h5
    have HV : Hid (attrL 5 s.data.toList = (mayL 19 s.data.toList && valL s.data.toList)) := by unfold Hid attrL; rw [if_neg (by decide), if_pos rfl]
    generalize mayL 19 s.data.toList = M at m19 HV
    cases M with
    | false =>
      go_enter Tryd.func33, Tryd.ntmps33
      go_wp2_with fail
      refine (m19.out _).mono ?_
      rintro e w2 ⟨rfl, L2⟩
      go_wp2
      go_ret
      exact ⟨by rw [HV.out]; rfl, HB.out.trans (L2.mono HB.out.size)⟩
    | true =>
      go_enter Tryd.func33, Tryd.ntmps33
      go_wp2_with fail
      refine (m19.out _).mono ?_
      rintro e w2 ⟨rfl, L2⟩
      have d2 := (L2.cell (p := ⟨w.heap.size, 1, none⟩) (lt_of_cell d1)).trans d1
      replace HB := hide (HB.out.trans (L2.mono HB.out.size))
      replace HV : Hid (attrL 5 s.data.toList = valL s.data.toList) := HV.out
      by_cases z0 : 0 < s.size
      · have i0 : (0 : Int) < (s.size : Int) := by omega
        by_cases z1 : s.size ≤ 64
        · have i1 : (s.size : Int) ≤ 64 := by omega
          go_wp2_with fail
          refine (m12.out _).mono ?_
          rintro e w9 ⟨rfl, L9⟩
          go_wp2
          go_ret
          exact ⟨by rw [HV.out]; unfold valL; rw [decide_eq_true (show 0 < s.data.toList.length by rw [size_len]; exact z0), decide_eq_true (show s.data.toList.length ≤ 64 by rw [size_len]; exact z1)]; simp, HB.out.trans (L9.mono HB.out.size)⟩
        · have i1 : ¬ (s.size : Int) ≤ 64 := by omega
          go_wp2
          go_ret
          exact ⟨by rw [HV.out]; unfold valL; rw [decide_eq_false (show ¬ s.data.toList.length ≤ 64 by rw [size_len]; exact z1)]; simp, HB.out⟩
      · have i0 : ¬ (0 : Int) < (s.size : Int) := by omega
        go_wp2
        go_ret
        exact ⟨by rw [HV.out]; unfold valL; rw [decide_eq_false (show ¬ 0 < s.data.toList.length by rw [size_len]; exact z0)]; simp, HB.out⟩
  by_cases hp : plainT t = true
  · have hq := of_decide_eq_true hp
    clear h5 h6 hp
    rcases hq with rfl | rfl | rfl | rfl | rfl
    · have HV : Hid (attrL 3 s.data.toList = valL s.data.toList) := by unfold Hid attrL plainT; simp
      go_enter Tryd.func33, Tryd.ntmps33
      by_cases z0 : 0 < s.size
      · have i0 : (0 : Int) < (s.size : Int) := by omega
        by_cases z1 : s.size ≤ 64
        · have i1 : (s.size : Int) ≤ 64 := by omega
          go_wp2_with fail
          refine (m12.out _).mono ?_
          rintro e w9 ⟨rfl, L9⟩
          go_wp2
          go_ret
          exact ⟨by rw [HV.out]; unfold valL; rw [decide_eq_true (show 0 < s.data.toList.length by rw [size_len]; exact z0), decide_eq_true (show s.data.toList.length ≤ 64 by rw [size_len]; exact z1)]; simp, HB.out.trans (L9.mono HB.out.size)⟩
        · have i1 : ¬ (s.size : Int) ≤ 64 := by omega
          go_wp2
          go_ret
          exact ⟨by rw [HV.out]; unfold valL; rw [decide_eq_false (show ¬ s.data.toList.length ≤ 64 by rw [size_len]; exact z1)]; simp, HB.out⟩
      · have i0 : ¬ (0 : Int) < (s.size : Int) := by omega
        go_wp2
        go_ret
        exact ⟨by rw [HV.out]; unfold valL; rw [decide_eq_false (show ¬ 0 < s.data.toList.length by rw [size_len]; exact z0)]; simp, HB.out⟩
    · have HV : Hid (attrL 7 s.data.toList = valL s.data.toList) := by unfold Hid attrL plainT; simp
      go_enter Tryd.func33, Tryd.ntmps33
      by_cases z0 : 0 < s.size
      · have i0 : (0 : Int) < (s.size : Int) := by omega
        by_cases z1 : s.size ≤ 64
        · have i1 : (s.size : Int) ≤ 64 := by omega
          go_wp2_with fail
          refine (m12.out _).mono ?_
          rintro e w9 ⟨rfl, L9⟩
          go_wp2
          go_ret
          exact ⟨by rw [HV.out]; unfold valL; rw [decide_eq_true (show 0 < s.data.toList.length by rw [size_len]; exact z0), decide_eq_true (show s.data.toList.length ≤ 64 by rw [size_len]; exact z1)]; simp, HB.out.trans (L9.mono HB.out.size)⟩
        · have i1 : ¬ (s.size : Int) ≤ 64 := by omega
          go_wp2
          go_ret
          exact ⟨by rw [HV.out]; unfold valL; rw [decide_eq_false (show ¬ s.data.toList.length ≤ 64 by rw [size_len]; exact z1)]; simp, HB.out⟩
      · have i0 : ¬ (0 : Int) < (s.size : Int) := by omega
        go_wp2
        go_ret
        exact ⟨by rw [HV.out]; unfold valL; rw [decide_eq_false (show ¬ 0 < s.data.toList.length by rw [size_len]; exact z0)]; simp, HB.out⟩
    · have HV : Hid (attrL 8 s.data.toList = valL s.data.toList) := by unfold Hid attrL plainT; simp
      go_enter Tryd.func33, Tryd.ntmps33
      by_cases z0 : 0 < s.size
      · have i0 : (0 : Int) < (s.size : Int) := by omega
        by_cases z1 : s.size ≤ 64
        · have i1 : (s.size : Int) ≤ 64 := by omega
          go_wp2_with fail
          refine (m12.out _).mono ?_
          rintro e w9 ⟨rfl, L9⟩
          go_wp2
          go_ret
          exact ⟨by rw [HV.out]; unfold valL; rw [decide_eq_true (show 0 < s.data.toList.length by rw [size_len]; exact z0), decide_eq_true (show s.data.toList.length ≤ 64 by rw [size_len]; exact z1)]; simp, HB.out.trans (L9.mono HB.out.size)⟩
        · have i1 : ¬ (s.size : Int) ≤ 64 := by omega
          go_wp2
          go_ret
          exact ⟨by rw [HV.out]; unfold valL; rw [decide_eq_false (show ¬ s.data.toList.length ≤ 64 by rw [size_len]; exact z1)]; simp, HB.out⟩
      · have i0 : ¬ (0 : Int) < (s.size : Int) := by omega
        go_wp2
        go_ret
        exact ⟨by rw [HV.out]; unfold valL; rw [decide_eq_false (show ¬ 0 < s.data.toList.length by rw [size_len]; exact z0)]; simp, HB.out⟩
    · have HV : Hid (attrL 10 s.data.toList = valL s.data.toList) := by unfold Hid attrL plainT; simp
      go_enter Tryd.func33, Tryd.ntmps33
      by_cases z0 : 0 < s.size
      · have i0 : (0 : Int) < (s.size : Int) := by omega
        by_cases z1 : s.size ≤ 64
        · have i1 : (s.size : Int) ≤ 64 := by omega
          go_wp2_with fail
          refine (m12.out _).mono ?_
          rintro e w9 ⟨rfl, L9⟩
          go_wp2
          go_ret
          exact ⟨by rw [HV.out]; unfold valL; rw [decide_eq_true (show 0 < s.data.toList.length by rw [size_len]; exact z0), decide_eq_true (show s.data.toList.length ≤ 64 by rw [size_len]; exact z1)]; simp, HB.out.trans (L9.mono HB.out.size)⟩
        · have i1 : ¬ (s.size : Int) ≤ 64 := by omega
          go_wp2
          go_ret
          exact ⟨by rw [HV.out]; unfold valL; rw [decide_eq_false (show ¬ s.data.toList.length ≤ 64 by rw [size_len]; exact z1)]; simp, HB.out⟩
      · have i0 : ¬ (0 : Int) < (s.size : Int) := by omega
        go_wp2
        go_ret
        exact ⟨by rw [HV.out]; unfold valL; rw [decide_eq_false (show ¬ 0 < s.data.toList.length by rw [size_len]; exact z0)]; simp, HB.out⟩
    · have HV : Hid (attrL 11 s.data.toList = valL s.data.toList) := by unfold Hid attrL plainT; simp
      go_enter Tryd.func33, Tryd.ntmps33
      by_cases z0 : 0 < s.size
      · have i0 : (0 : Int) < (s.size : Int) := by omega
        by_cases z1 : s.size ≤ 64
        · have i1 : (s.size : Int) ≤ 64 := by omega
          go_wp2_with fail
          refine (m12.out _).mono ?_
          rintro e w9 ⟨rfl, L9⟩
          go_wp2
          go_ret
          exact ⟨by rw [HV.out]; unfold valL; rw [decide_eq_true (show 0 < s.data.toList.length by rw [size_len]; exact z0), decide_eq_true (show s.data.toList.length ≤ 64 by rw [size_len]; exact z1)]; simp, HB.out.trans (L9.mono HB.out.size)⟩
        · have i1 : ¬ (s.size : Int) ≤ 64 := by omega
          go_wp2
          go_ret
          exact ⟨by rw [HV.out]; unfold valL; rw [decide_eq_false (show ¬ s.data.toList.length ≤ 64 by rw [size_len]; exact z1)]; simp, HB.out⟩
      · have i0 : ¬ (0 : Int) < (s.size : Int) := by omega
        go_wp2
        go_ret
        exact ⟨by rw [HV.out]; unfold valL; rw [decide_eq_false (show ¬ 0 < s.data.toList.length by rw [size_len]; exact z0)]; simp, HB.out⟩
  · have HV : Hid (attrL t s.data.toList = false) := by unfold Hid attrL; rw [if_neg h6, if_neg h5, Bool.eq_false_iff.2 hp]; rfl
    have hq : ¬ (t = 3 ∨ t = 7 ∨ t = 8 ∨ t = 10 ∨ t = 11) := fun h => hp (decide_eq_true h)
    have q3 : ¬ t = 3 := fun h => hq (.inl h)
    have q7 : ¬ t = 7 := fun h => hq (.inr (.inl h))
    have q8 : ¬ t = 8 := fun h => hq (.inr (.inr (.inl h)))
    have q10 : ¬ t = 10 := fun h => hq (.inr (.inr (.inr (.inl h))))
    have q11 : ¬ t = 11 := fun h => hq (.inr (.inr (.inr (.inr h))))
    clear hq hp
    go_enter Tryd.func33, Tryd.ntmps33
    go_wp2
    go_ret
    exact ⟨by rw [HV.out]; rfl, HB.out⟩

end Go.Proofs.YtgbbgfjamneioaaDoor
