/-
  The document's Label and MayAttr, May.
-/
import Derived.Test.YtklchpdpooikdaaGreatDoorXNmMayToNmPut
import Derived.Test.YtklchpdpooikdaaGreatDoorXTxP5
namespace Go.Proofs.YtklchpdpooikdaaGreatDoor
open Go.RowKit Go.IntWalk Go.Shelf

/-- The label of a type. -/
def labS (t : Int) : ByteArray := if t = 3 then ⟨#[67, 78]⟩ else if t = 5 then ⟨#[83, 78]⟩ else if t = 6 then ⟨#[67]⟩ else if t = 7 then ⟨#[76]⟩ else if t = 8 then ⟨#[83, 84]⟩ else if t = 10 then ⟨#[79]⟩ else if t = 11 then ⟨#[79, 85]⟩ else ⟨#[]⟩
def isType (t : Int) : Bool := decide (t = 5 ∨ t = 6) || plainT t

set_option maxRecDepth 100000 in
set_option maxHeartbeats 2000000 in
theorem label_any (t : Int) (w : World) : Calls Tryz.prog 155 #[.int .i64 t] w fun e w' => e = .returned (.string (labS t)) ∧ Below w.heap.size w w' := by
  by_cases h0 : t < 0
  · have hF : Hid (labS t = ⟨#[]⟩) := by unfold Hid labS; (repeat' split) <;> first | rfl | omega
    go_enter Tryz.func155, Tryz.ntmps155
    go_wp2
    go_ret
    exact ⟨by rw [hF.out]; rfl, nbelow w _⟩
  by_cases h12 : 12 ≤ t
  · have hF : Hid (labS t = ⟨#[]⟩) := by unfold Hid labS; (repeat' split) <;> first | rfl | omega
    go_enter Tryz.func155, Tryz.ntmps155
    go_wp2
    go_ret
    exact ⟨by rw [hF.out]; rfl, nbelow w _⟩
  rcases (by omega : t = 0 ∨ t = 1 ∨ t = 2 ∨ t = 3 ∨ t = 4 ∨ t = 5 ∨ t = 6 ∨ t = 7 ∨ t = 8 ∨ t = 9 ∨ t = 10 ∨ t = 11) with rfl | rfl | rfl | rfl | rfl | rfl | rfl | rfl | rfl | rfl | rfl | rfl
  · go_enter Tryz.func155, Tryz.ntmps155
    go_wp2
    go_ret
    exact ⟨rfl, nbelow w _⟩
  · go_enter Tryz.func155, Tryz.ntmps155
    go_wp2
    go_ret
    exact ⟨rfl, nbelow w _⟩
  · go_enter Tryz.func155, Tryz.ntmps155
    go_wp2
    go_ret
    exact ⟨rfl, nbelow w _⟩
  · go_enter Tryz.func155, Tryz.ntmps155
    go_wp2
    go_ret
    exact ⟨rfl, nbelow w _⟩
  · go_enter Tryz.func155, Tryz.ntmps155
    go_wp2
    go_ret
    exact ⟨rfl, nbelow w _⟩
  · go_enter Tryz.func155, Tryz.ntmps155
    go_wp2
    go_ret
    exact ⟨rfl, nbelow w _⟩
  · go_enter Tryz.func155, Tryz.ntmps155
    go_wp2
    go_ret
    exact ⟨rfl, nbelow w _⟩
  · go_enter Tryz.func155, Tryz.ntmps155
    go_wp2
    go_ret
    exact ⟨rfl, nbelow w _⟩
  · go_enter Tryz.func155, Tryz.ntmps155
    go_wp2
    go_ret
    exact ⟨rfl, nbelow w _⟩
  · go_enter Tryz.func155, Tryz.ntmps155
    go_wp2
    go_ret
    exact ⟨rfl, nbelow w _⟩
  · go_enter Tryz.func155, Tryz.ntmps155
    go_wp2
    go_ret
    exact ⟨rfl, nbelow w _⟩
  · go_enter Tryz.func155, Tryz.ntmps155
    go_wp2
    go_ret
    exact ⟨rfl, nbelow w _⟩

theorem val_not {l : List UInt8} (t : Int) (h : valL l = false) : attrL t l = false := by unfold attrL; rw [h]; (repeat' split) <;> simp
theorem val_size0 {s : ByteArray} (h : ¬ 0 < s.size) : valL s.data.toList = false := by unfold valL; rw [decide_eq_false (show ¬ 0 < s.data.toList.length by rw [size_len]; exact h)]; rfl
theorem val_size1 {s : ByteArray} (h : ¬ s.size ≤ 64) : valL s.data.toList = false := by unfold valL; rw [decide_eq_false (show ¬ s.data.toList.length ≤ 64 by rw [size_len]; exact h)]; simp
theorem val_may {s : ByteArray} (h0 : 0 < s.size) (h1 : s.size ≤ 64) : valL s.data.toList = mayL 12 s.data.toList := by
  unfold valL
  rw [decide_eq_true (show 0 < s.data.toList.length by rw [size_len]; exact h0), decide_eq_true (show s.data.toList.length ≤ 64 by rw [size_len]; exact h1)]
  simp
theorem great_print {n : Nat} (h : greatN n = true) : printN n = true := by
  unfold greatN at h
  rw [Bool.and_eq_true] at h
  have h1 := of_decide_eq_true h.1
  have h2 := of_decide_eq_true h.2
  unfold printN
  rw [decide_eq_true (show 65 ≤ n ∧ n ≤ 90 from ⟨h1, h2⟩)]
  rfl
theorem ctry_print {l : List UInt8} (h : ctryL l = true) : mayL 19 l = true := by
  match l, h with
  | [a, b], h =>
    simp only [ctryL, Bool.and_eq_true] at h
    simp [mayL, great_print h.1, great_print h.2]
theorem attr_six {l : List UInt8} (h : valL l = true) : attrL 6 l = ctryL l := by
  unfold attrL
  rw [if_pos rfl, h]
  cases hc : ctryL l with
  | false => rfl
  | true => rw [ctry_print hc]; rfl
theorem attr_five {l : List UInt8} (h : valL l = true) : attrL 5 l = mayL 19 l := by
  unfold attrL
  rw [if_neg (by decide), if_pos rfl, h, Bool.and_true]
theorem attr_plain {t : Int} {l : List UInt8} (ht : plainT t = true) (h : valL l = true) : attrL t l = true := by
  have := of_decide_eq_true ht
  unfold attrL
  rw [if_neg (by omega), if_neg (by omega), ht, h]
  rfl

set_option maxRecDepth 100000 in
set_option maxHeartbeats 4000000 in
theorem mayAttr_any (t : Int) (s : ByteArray) (hs : s.size ≤ 140737488355328) (w : World) :
    Calls Tryz.prog 128 #[.agg #[.int .i64 t, .string s]] w fun e w' => e = .returned (.bool (attrL t s.data.toList)) ∧ Below w.heap.size w w' := by
  have hL := hide (fun W => label_any t W)
  have m12 := hide (fun W => refMay_any 12 s hs W)
  have m19 := hide (fun W => refMay_any 19 s hs W)
  have HB := hide (nbelow w (.cells #[.int .i64 t, .string s] 111))
  have c0 : (w.alloc (.cells #[.int .i64 t, .string s] 111)).cell? ⟨w.heap.size, 0, none⟩ = some (.int .i64 t) := by simp
  have c1 : (w.alloc (.cells #[.int .i64 t, .string s] 111)).cell? ⟨w.heap.size, 1, none⟩ = some (.string s) := by simp
  by_cases h5 : t = 5
  · subst h5
    have hlb : labS 5 = ⟨#[83, 78]⟩ := rfl
    rw [hlb] at hL
    by_cases z0 : 0 < s.size
    · have i0 : ¬ (s.size : Int) < 1 := by omega
      by_cases z1 : s.size ≤ 64
      · have i1 : ¬ (64 : Int) < (s.size : Int) := by omega
        have hv := hide (val_may z0 z1)
        cases hq : mayL 12 s.data.toList with
        | false =>
          have hF : Hid (attrL 5 s.data.toList = false) := val_not _ (by rw [hv.out, hq])
          rw [hq] at m12
          go_enter Tryz.func128, Tryz.ntmps128
          go_wp2_with fail
          refine (hL.out _).mono ?_
          rintro e w1 ⟨rfl, L1⟩
          have e0 := (L1.cell (p := ⟨w.heap.size, 0, none⟩) (lt_of_cell c0)).trans c0
          have e1 := (L1.cell (p := ⟨w.heap.size, 1, none⟩) (lt_of_cell c1)).trans c1
          replace HB := hide (HB.out.trans (L1.mono HB.out.size))
          go_wp2_with fail
          refine (m12.out _).mono ?_
          rintro e w2 ⟨rfl, L2⟩
          go_wp2
          go_ret
          exact ⟨by rw [hF.out]; rfl, HB.out.trans (L2.mono HB.out.size)⟩
        | true =>
          rw [hq] at m12
          have hvt : Hid (valL s.data.toList = true) := by unfold Hid; rw [hv.out, hq]
          clear hv hq
          go_enter Tryz.func128, Tryz.ntmps128
          go_wp2_with fail
          refine (hL.out _).mono ?_
          rintro e w1 ⟨rfl, L1⟩
          have e0 := (L1.cell (p := ⟨w.heap.size, 0, none⟩) (lt_of_cell c0)).trans c0
          have e1 := (L1.cell (p := ⟨w.heap.size, 1, none⟩) (lt_of_cell c1)).trans c1
          replace HB := hide (HB.out.trans (L1.mono HB.out.size))
          go_wp2_with fail
          refine (m12.out _).mono ?_
          rintro e w2 ⟨rfl, L2⟩
          replace e0 := (L2.cell (lt_of_cell e0)).trans e0
          replace e1 := (L2.cell (lt_of_cell e1)).trans e1
          replace HB := hide (HB.out.trans (L2.mono HB.out.size))
          have hT : Hid (attrL 5 s.data.toList = mayL 19 s.data.toList) := attr_five hvt.out
          go_wp2_with fail
          refine (m19.out _).mono ?_
          rintro e w3 ⟨rfl, L3⟩
          go_wp2
          go_ret
          exact ⟨by rw [hT.out]; rfl, HB.out.trans (L3.mono HB.out.size)⟩
      · have i1 : (64 : Int) < (s.size : Int) := by omega
        have hF : Hid (attrL 5 s.data.toList = false) := val_not _ (val_size1 z1)
        go_enter Tryz.func128, Tryz.ntmps128
        go_wp2_with fail
        refine (hL.out _).mono ?_
        rintro e w1 ⟨rfl, L1⟩
        have e0 := (L1.cell (p := ⟨w.heap.size, 0, none⟩) (lt_of_cell c0)).trans c0
        have e1 := (L1.cell (p := ⟨w.heap.size, 1, none⟩) (lt_of_cell c1)).trans c1
        replace HB := hide (HB.out.trans (L1.mono HB.out.size))
        go_wp2
        go_ret
        exact ⟨by rw [hF.out]; rfl, HB.out⟩
    · have i0 : (s.size : Int) < 1 := by omega
      have hF : Hid (attrL 5 s.data.toList = false) := val_not _ (val_size0 z0)
      go_enter Tryz.func128, Tryz.ntmps128
      go_wp2_with fail
      refine (hL.out _).mono ?_
      rintro e w1 ⟨rfl, L1⟩
      have e0 := (L1.cell (p := ⟨w.heap.size, 0, none⟩) (lt_of_cell c0)).trans c0
      have e1 := (L1.cell (p := ⟨w.heap.size, 1, none⟩) (lt_of_cell c1)).trans c1
      replace HB := hide (HB.out.trans (L1.mono HB.out.size))
      go_wp2
      go_ret
      exact ⟨by rw [hF.out]; rfl, HB.out⟩
  by_cases h6 : t = 6
  · subst h6
    have hlb : labS 6 = ⟨#[67]⟩ := rfl
    rw [hlb] at hL
    by_cases z0 : 0 < s.size
    · have i0 : ¬ (s.size : Int) < 1 := by omega
      by_cases z1 : s.size ≤ 64
      · have i1 : ¬ (64 : Int) < (s.size : Int) := by omega
        have hv := hide (val_may z0 z1)
        cases hq : mayL 12 s.data.toList with
        | false =>
          have hF : Hid (attrL 6 s.data.toList = false) := val_not _ (by rw [hv.out, hq])
          rw [hq] at m12
          go_enter Tryz.func128, Tryz.ntmps128
          go_wp2_with fail
          refine (hL.out _).mono ?_
          rintro e w1 ⟨rfl, L1⟩
          have e0 := (L1.cell (p := ⟨w.heap.size, 0, none⟩) (lt_of_cell c0)).trans c0
          have e1 := (L1.cell (p := ⟨w.heap.size, 1, none⟩) (lt_of_cell c1)).trans c1
          replace HB := hide (HB.out.trans (L1.mono HB.out.size))
          go_wp2_with fail
          refine (m12.out _).mono ?_
          rintro e w2 ⟨rfl, L2⟩
          go_wp2
          go_ret
          exact ⟨by rw [hF.out]; rfl, HB.out.trans (L2.mono HB.out.size)⟩
        | true =>
          rw [hq] at m12
          have hvt : Hid (valL s.data.toList = true) := by unfold Hid; rw [hv.out, hq]
          clear hv hq
          go_enter Tryz.func128, Tryz.ntmps128
          go_wp2_with fail
          refine (hL.out _).mono ?_
          rintro e w1 ⟨rfl, L1⟩
          have e0 := (L1.cell (p := ⟨w.heap.size, 0, none⟩) (lt_of_cell c0)).trans c0
          have e1 := (L1.cell (p := ⟨w.heap.size, 1, none⟩) (lt_of_cell c1)).trans c1
          replace HB := hide (HB.out.trans (L1.mono HB.out.size))
          go_wp2_with fail
          refine (m12.out _).mono ?_
          rintro e w2 ⟨rfl, L2⟩
          replace e0 := (L2.cell (lt_of_cell e0)).trans e0
          replace e1 := (L2.cell (lt_of_cell e1)).trans e1
          replace HB := hide (HB.out.trans (L2.mono HB.out.size))
          have hT : Hid (attrL 6 s.data.toList = ctryL s.data.toList) := attr_six hvt.out
          by_cases h2 : s.size = 2
          · have hc := hide (ctry_two s h2)
            have hi : (s.size : Int) = 2 := by omega
            have l0 : 0 < s.size := by omega
            have l1 : 1 < s.size := by omega
            by_cases x0 : 65 ≤ (s[0]'(by omega)).toNat
            · have y0 : (65 : Int) ≤ ((s[0]'(by omega)).toNat : Int) := by omega
              by_cases x1 : (s[0]'(by omega)).toNat ≤ 90
              · have y1 : ((s[0]'(by omega)).toNat : Int) ≤ 90 := by omega
                by_cases x2 : 65 ≤ (s[1]'(by omega)).toNat
                · have y2 : (65 : Int) ≤ ((s[1]'(by omega)).toNat : Int) := by omega
                  by_cases x3 : (s[1]'(by omega)).toNat ≤ 90
                  · have y3 : ((s[1]'(by omega)).toNat : Int) ≤ 90 := by omega
                    go_wp2
                    go_ret
                    exact ⟨by rw [hT.out, hc.out]; simp [greatN, x0, x1, x2, x3] <;> omega, HB.out⟩
                  · have y3 : ¬ ((s[1]'(by omega)).toNat : Int) ≤ 90 := by omega
                    go_wp2
                    go_ret
                    exact ⟨by rw [hT.out, hc.out]; simp [greatN, x3] <;> omega, HB.out⟩
                · have y2 : ¬ (65 : Int) ≤ ((s[1]'(by omega)).toNat : Int) := by omega
                  go_wp2
                  go_ret
                  exact ⟨by rw [hT.out, hc.out]; simp [greatN, x2] <;> omega, HB.out⟩
              · have y1 : ¬ ((s[0]'(by omega)).toNat : Int) ≤ 90 := by omega
                go_wp2
                go_ret
                exact ⟨by rw [hT.out, hc.out]; simp [greatN, x1] <;> omega, HB.out⟩
            · have y0 : ¬ (65 : Int) ≤ ((s[0]'(by omega)).toNat : Int) := by omega
              go_wp2
              go_ret
              exact ⟨by rw [hT.out, hc.out]; simp [greatN, x0] <;> omega, HB.out⟩
          · have hc := hide (ctry_not s h2)
            have hi : ¬ (s.size : Int) = 2 := by omega
            go_wp2
            go_ret
            exact ⟨by rw [hT.out, hc.out]; simp <;> omega, HB.out⟩
      · have i1 : (64 : Int) < (s.size : Int) := by omega
        have hF : Hid (attrL 6 s.data.toList = false) := val_not _ (val_size1 z1)
        go_enter Tryz.func128, Tryz.ntmps128
        go_wp2_with fail
        refine (hL.out _).mono ?_
        rintro e w1 ⟨rfl, L1⟩
        have e0 := (L1.cell (p := ⟨w.heap.size, 0, none⟩) (lt_of_cell c0)).trans c0
        have e1 := (L1.cell (p := ⟨w.heap.size, 1, none⟩) (lt_of_cell c1)).trans c1
        replace HB := hide (HB.out.trans (L1.mono HB.out.size))
        go_wp2
        go_ret
        exact ⟨by rw [hF.out]; rfl, HB.out⟩
    · have i0 : (s.size : Int) < 1 := by omega
      have hF : Hid (attrL 6 s.data.toList = false) := val_not _ (val_size0 z0)
      go_enter Tryz.func128, Tryz.ntmps128
      go_wp2_with fail
      refine (hL.out _).mono ?_
      rintro e w1 ⟨rfl, L1⟩
      have e0 := (L1.cell (p := ⟨w.heap.size, 0, none⟩) (lt_of_cell c0)).trans c0
      have e1 := (L1.cell (p := ⟨w.heap.size, 1, none⟩) (lt_of_cell c1)).trans c1
      replace HB := hide (HB.out.trans (L1.mono HB.out.size))
      go_wp2
      go_ret
      exact ⟨by rw [hF.out]; rfl, HB.out⟩
  by_cases hp : plainT t = true
  · have hq := of_decide_eq_true hp
    clear h5 h6 hp
    obtain ⟨t0, ht0⟩ : ∃ t0, t0 = t := ⟨_, rfl⟩
    rcases hq with rfl | rfl | rfl | rfl | rfl
    · have hlb : labS 3 = ⟨#[67, 78]⟩ := rfl
      rw [hlb] at hL
      by_cases z0 : 0 < s.size
      · have i0 : ¬ (s.size : Int) < 1 := by omega
        by_cases z1 : s.size ≤ 64
        · have i1 : ¬ (64 : Int) < (s.size : Int) := by omega
          have hv := hide (val_may z0 z1)
          cases hq : mayL 12 s.data.toList with
          | false =>
            have hF : Hid (attrL 3 s.data.toList = false) := val_not _ (by rw [hv.out, hq])
            rw [hq] at m12
            go_enter Tryz.func128, Tryz.ntmps128
            go_wp2_with fail
            refine (hL.out _).mono ?_
            rintro e w1 ⟨rfl, L1⟩
            have e0 := (L1.cell (p := ⟨w.heap.size, 0, none⟩) (lt_of_cell c0)).trans c0
            have e1 := (L1.cell (p := ⟨w.heap.size, 1, none⟩) (lt_of_cell c1)).trans c1
            replace HB := hide (HB.out.trans (L1.mono HB.out.size))
            go_wp2_with fail
            refine (m12.out _).mono ?_
            rintro e w2 ⟨rfl, L2⟩
            go_wp2
            go_ret
            exact ⟨by rw [hF.out]; rfl, HB.out.trans (L2.mono HB.out.size)⟩
          | true =>
            rw [hq] at m12
            have hvt : Hid (valL s.data.toList = true) := by unfold Hid; rw [hv.out, hq]
            clear hv hq
            go_enter Tryz.func128, Tryz.ntmps128
            go_wp2_with fail
            refine (hL.out _).mono ?_
            rintro e w1 ⟨rfl, L1⟩
            have e0 := (L1.cell (p := ⟨w.heap.size, 0, none⟩) (lt_of_cell c0)).trans c0
            have e1 := (L1.cell (p := ⟨w.heap.size, 1, none⟩) (lt_of_cell c1)).trans c1
            replace HB := hide (HB.out.trans (L1.mono HB.out.size))
            go_wp2_with fail
            refine (m12.out _).mono ?_
            rintro e w2 ⟨rfl, L2⟩
            replace e0 := (L2.cell (lt_of_cell e0)).trans e0
            replace e1 := (L2.cell (lt_of_cell e1)).trans e1
            replace HB := hide (HB.out.trans (L2.mono HB.out.size))
            have hT0 : attrL t0 s.data.toList = true := by rw [ht0]; exact attr_plain (by decide) hvt.out
            rw [ht0] at hT0
            have hT := hide hT0
            clear hT0
            go_wp2
            go_ret
            exact ⟨by rw [hT.out]; rfl, HB.out⟩
        · have i1 : (64 : Int) < (s.size : Int) := by omega
          have hF : Hid (attrL 3 s.data.toList = false) := val_not _ (val_size1 z1)
          go_enter Tryz.func128, Tryz.ntmps128
          go_wp2_with fail
          refine (hL.out _).mono ?_
          rintro e w1 ⟨rfl, L1⟩
          have e0 := (L1.cell (p := ⟨w.heap.size, 0, none⟩) (lt_of_cell c0)).trans c0
          have e1 := (L1.cell (p := ⟨w.heap.size, 1, none⟩) (lt_of_cell c1)).trans c1
          replace HB := hide (HB.out.trans (L1.mono HB.out.size))
          go_wp2
          go_ret
          exact ⟨by rw [hF.out]; rfl, HB.out⟩
      · have i0 : (s.size : Int) < 1 := by omega
        have hF : Hid (attrL 3 s.data.toList = false) := val_not _ (val_size0 z0)
        go_enter Tryz.func128, Tryz.ntmps128
        go_wp2_with fail
        refine (hL.out _).mono ?_
        rintro e w1 ⟨rfl, L1⟩
        have e0 := (L1.cell (p := ⟨w.heap.size, 0, none⟩) (lt_of_cell c0)).trans c0
        have e1 := (L1.cell (p := ⟨w.heap.size, 1, none⟩) (lt_of_cell c1)).trans c1
        replace HB := hide (HB.out.trans (L1.mono HB.out.size))
        go_wp2
        go_ret
        exact ⟨by rw [hF.out]; rfl, HB.out⟩
    · have hlb : labS 7 = ⟨#[76]⟩ := rfl
      rw [hlb] at hL
      by_cases z0 : 0 < s.size
      · have i0 : ¬ (s.size : Int) < 1 := by omega
        by_cases z1 : s.size ≤ 64
        · have i1 : ¬ (64 : Int) < (s.size : Int) := by omega
          have hv := hide (val_may z0 z1)
          cases hq : mayL 12 s.data.toList with
          | false =>
            have hF : Hid (attrL 7 s.data.toList = false) := val_not _ (by rw [hv.out, hq])
            rw [hq] at m12
            go_enter Tryz.func128, Tryz.ntmps128
            go_wp2_with fail
            refine (hL.out _).mono ?_
            rintro e w1 ⟨rfl, L1⟩
            have e0 := (L1.cell (p := ⟨w.heap.size, 0, none⟩) (lt_of_cell c0)).trans c0
            have e1 := (L1.cell (p := ⟨w.heap.size, 1, none⟩) (lt_of_cell c1)).trans c1
            replace HB := hide (HB.out.trans (L1.mono HB.out.size))
            go_wp2_with fail
            refine (m12.out _).mono ?_
            rintro e w2 ⟨rfl, L2⟩
            go_wp2
            go_ret
            exact ⟨by rw [hF.out]; rfl, HB.out.trans (L2.mono HB.out.size)⟩
          | true =>
            rw [hq] at m12
            have hvt : Hid (valL s.data.toList = true) := by unfold Hid; rw [hv.out, hq]
            clear hv hq
            go_enter Tryz.func128, Tryz.ntmps128
            go_wp2_with fail
            refine (hL.out _).mono ?_
            rintro e w1 ⟨rfl, L1⟩
            have e0 := (L1.cell (p := ⟨w.heap.size, 0, none⟩) (lt_of_cell c0)).trans c0
            have e1 := (L1.cell (p := ⟨w.heap.size, 1, none⟩) (lt_of_cell c1)).trans c1
            replace HB := hide (HB.out.trans (L1.mono HB.out.size))
            go_wp2_with fail
            refine (m12.out _).mono ?_
            rintro e w2 ⟨rfl, L2⟩
            replace e0 := (L2.cell (lt_of_cell e0)).trans e0
            replace e1 := (L2.cell (lt_of_cell e1)).trans e1
            replace HB := hide (HB.out.trans (L2.mono HB.out.size))
            have hT0 : attrL t0 s.data.toList = true := by rw [ht0]; exact attr_plain (by decide) hvt.out
            rw [ht0] at hT0
            have hT := hide hT0
            clear hT0
            go_wp2
            go_ret
            exact ⟨by rw [hT.out]; rfl, HB.out⟩
        · have i1 : (64 : Int) < (s.size : Int) := by omega
          have hF : Hid (attrL 7 s.data.toList = false) := val_not _ (val_size1 z1)
          go_enter Tryz.func128, Tryz.ntmps128
          go_wp2_with fail
          refine (hL.out _).mono ?_
          rintro e w1 ⟨rfl, L1⟩
          have e0 := (L1.cell (p := ⟨w.heap.size, 0, none⟩) (lt_of_cell c0)).trans c0
          have e1 := (L1.cell (p := ⟨w.heap.size, 1, none⟩) (lt_of_cell c1)).trans c1
          replace HB := hide (HB.out.trans (L1.mono HB.out.size))
          go_wp2
          go_ret
          exact ⟨by rw [hF.out]; rfl, HB.out⟩
      · have i0 : (s.size : Int) < 1 := by omega
        have hF : Hid (attrL 7 s.data.toList = false) := val_not _ (val_size0 z0)
        go_enter Tryz.func128, Tryz.ntmps128
        go_wp2_with fail
        refine (hL.out _).mono ?_
        rintro e w1 ⟨rfl, L1⟩
        have e0 := (L1.cell (p := ⟨w.heap.size, 0, none⟩) (lt_of_cell c0)).trans c0
        have e1 := (L1.cell (p := ⟨w.heap.size, 1, none⟩) (lt_of_cell c1)).trans c1
        replace HB := hide (HB.out.trans (L1.mono HB.out.size))
        go_wp2
        go_ret
        exact ⟨by rw [hF.out]; rfl, HB.out⟩
    · have hlb : labS 8 = ⟨#[83, 84]⟩ := rfl
      rw [hlb] at hL
      by_cases z0 : 0 < s.size
      · have i0 : ¬ (s.size : Int) < 1 := by omega
        by_cases z1 : s.size ≤ 64
        · have i1 : ¬ (64 : Int) < (s.size : Int) := by omega
          have hv := hide (val_may z0 z1)
          cases hq : mayL 12 s.data.toList with
          | false =>
            have hF : Hid (attrL 8 s.data.toList = false) := val_not _ (by rw [hv.out, hq])
            rw [hq] at m12
            go_enter Tryz.func128, Tryz.ntmps128
            go_wp2_with fail
            refine (hL.out _).mono ?_
            rintro e w1 ⟨rfl, L1⟩
            have e0 := (L1.cell (p := ⟨w.heap.size, 0, none⟩) (lt_of_cell c0)).trans c0
            have e1 := (L1.cell (p := ⟨w.heap.size, 1, none⟩) (lt_of_cell c1)).trans c1
            replace HB := hide (HB.out.trans (L1.mono HB.out.size))
            go_wp2_with fail
            refine (m12.out _).mono ?_
            rintro e w2 ⟨rfl, L2⟩
            go_wp2
            go_ret
            exact ⟨by rw [hF.out]; rfl, HB.out.trans (L2.mono HB.out.size)⟩
          | true =>
            rw [hq] at m12
            have hvt : Hid (valL s.data.toList = true) := by unfold Hid; rw [hv.out, hq]
            clear hv hq
            go_enter Tryz.func128, Tryz.ntmps128
            go_wp2_with fail
            refine (hL.out _).mono ?_
            rintro e w1 ⟨rfl, L1⟩
            have e0 := (L1.cell (p := ⟨w.heap.size, 0, none⟩) (lt_of_cell c0)).trans c0
            have e1 := (L1.cell (p := ⟨w.heap.size, 1, none⟩) (lt_of_cell c1)).trans c1
            replace HB := hide (HB.out.trans (L1.mono HB.out.size))
            go_wp2_with fail
            refine (m12.out _).mono ?_
            rintro e w2 ⟨rfl, L2⟩
            replace e0 := (L2.cell (lt_of_cell e0)).trans e0
            replace e1 := (L2.cell (lt_of_cell e1)).trans e1
            replace HB := hide (HB.out.trans (L2.mono HB.out.size))
            have hT0 : attrL t0 s.data.toList = true := by rw [ht0]; exact attr_plain (by decide) hvt.out
            rw [ht0] at hT0
            have hT := hide hT0
            clear hT0
            go_wp2
            go_ret
            exact ⟨by rw [hT.out]; rfl, HB.out⟩
        · have i1 : (64 : Int) < (s.size : Int) := by omega
          have hF : Hid (attrL 8 s.data.toList = false) := val_not _ (val_size1 z1)
          go_enter Tryz.func128, Tryz.ntmps128
          go_wp2_with fail
          refine (hL.out _).mono ?_
          rintro e w1 ⟨rfl, L1⟩
          have e0 := (L1.cell (p := ⟨w.heap.size, 0, none⟩) (lt_of_cell c0)).trans c0
          have e1 := (L1.cell (p := ⟨w.heap.size, 1, none⟩) (lt_of_cell c1)).trans c1
          replace HB := hide (HB.out.trans (L1.mono HB.out.size))
          go_wp2
          go_ret
          exact ⟨by rw [hF.out]; rfl, HB.out⟩
      · have i0 : (s.size : Int) < 1 := by omega
        have hF : Hid (attrL 8 s.data.toList = false) := val_not _ (val_size0 z0)
        go_enter Tryz.func128, Tryz.ntmps128
        go_wp2_with fail
        refine (hL.out _).mono ?_
        rintro e w1 ⟨rfl, L1⟩
        have e0 := (L1.cell (p := ⟨w.heap.size, 0, none⟩) (lt_of_cell c0)).trans c0
        have e1 := (L1.cell (p := ⟨w.heap.size, 1, none⟩) (lt_of_cell c1)).trans c1
        replace HB := hide (HB.out.trans (L1.mono HB.out.size))
        go_wp2
        go_ret
        exact ⟨by rw [hF.out]; rfl, HB.out⟩
    · have hlb : labS 10 = ⟨#[79]⟩ := rfl
      rw [hlb] at hL
      by_cases z0 : 0 < s.size
      · have i0 : ¬ (s.size : Int) < 1 := by omega
        by_cases z1 : s.size ≤ 64
        · have i1 : ¬ (64 : Int) < (s.size : Int) := by omega
          have hv := hide (val_may z0 z1)
          cases hq : mayL 12 s.data.toList with
          | false =>
            have hF : Hid (attrL 10 s.data.toList = false) := val_not _ (by rw [hv.out, hq])
            rw [hq] at m12
            go_enter Tryz.func128, Tryz.ntmps128
            go_wp2_with fail
            refine (hL.out _).mono ?_
            rintro e w1 ⟨rfl, L1⟩
            have e0 := (L1.cell (p := ⟨w.heap.size, 0, none⟩) (lt_of_cell c0)).trans c0
            have e1 := (L1.cell (p := ⟨w.heap.size, 1, none⟩) (lt_of_cell c1)).trans c1
            replace HB := hide (HB.out.trans (L1.mono HB.out.size))
            go_wp2_with fail
            refine (m12.out _).mono ?_
            rintro e w2 ⟨rfl, L2⟩
            go_wp2
            go_ret
            exact ⟨by rw [hF.out]; rfl, HB.out.trans (L2.mono HB.out.size)⟩
          | true =>
            rw [hq] at m12
            have hvt : Hid (valL s.data.toList = true) := by unfold Hid; rw [hv.out, hq]
            clear hv hq
            go_enter Tryz.func128, Tryz.ntmps128
            go_wp2_with fail
            refine (hL.out _).mono ?_
            rintro e w1 ⟨rfl, L1⟩
            have e0 := (L1.cell (p := ⟨w.heap.size, 0, none⟩) (lt_of_cell c0)).trans c0
            have e1 := (L1.cell (p := ⟨w.heap.size, 1, none⟩) (lt_of_cell c1)).trans c1
            replace HB := hide (HB.out.trans (L1.mono HB.out.size))
            go_wp2_with fail
            refine (m12.out _).mono ?_
            rintro e w2 ⟨rfl, L2⟩
            replace e0 := (L2.cell (lt_of_cell e0)).trans e0
            replace e1 := (L2.cell (lt_of_cell e1)).trans e1
            replace HB := hide (HB.out.trans (L2.mono HB.out.size))
            have hT0 : attrL t0 s.data.toList = true := by rw [ht0]; exact attr_plain (by decide) hvt.out
            rw [ht0] at hT0
            have hT := hide hT0
            clear hT0
            go_wp2
            go_ret
            exact ⟨by rw [hT.out]; rfl, HB.out⟩
        · have i1 : (64 : Int) < (s.size : Int) := by omega
          have hF : Hid (attrL 10 s.data.toList = false) := val_not _ (val_size1 z1)
          go_enter Tryz.func128, Tryz.ntmps128
          go_wp2_with fail
          refine (hL.out _).mono ?_
          rintro e w1 ⟨rfl, L1⟩
          have e0 := (L1.cell (p := ⟨w.heap.size, 0, none⟩) (lt_of_cell c0)).trans c0
          have e1 := (L1.cell (p := ⟨w.heap.size, 1, none⟩) (lt_of_cell c1)).trans c1
          replace HB := hide (HB.out.trans (L1.mono HB.out.size))
          go_wp2
          go_ret
          exact ⟨by rw [hF.out]; rfl, HB.out⟩
      · have i0 : (s.size : Int) < 1 := by omega
        have hF : Hid (attrL 10 s.data.toList = false) := val_not _ (val_size0 z0)
        go_enter Tryz.func128, Tryz.ntmps128
        go_wp2_with fail
        refine (hL.out _).mono ?_
        rintro e w1 ⟨rfl, L1⟩
        have e0 := (L1.cell (p := ⟨w.heap.size, 0, none⟩) (lt_of_cell c0)).trans c0
        have e1 := (L1.cell (p := ⟨w.heap.size, 1, none⟩) (lt_of_cell c1)).trans c1
        replace HB := hide (HB.out.trans (L1.mono HB.out.size))
        go_wp2
        go_ret
        exact ⟨by rw [hF.out]; rfl, HB.out⟩
    · have hlb : labS 11 = ⟨#[79, 85]⟩ := rfl
      rw [hlb] at hL
      by_cases z0 : 0 < s.size
      · have i0 : ¬ (s.size : Int) < 1 := by omega
        by_cases z1 : s.size ≤ 64
        · have i1 : ¬ (64 : Int) < (s.size : Int) := by omega
          have hv := hide (val_may z0 z1)
          cases hq : mayL 12 s.data.toList with
          | false =>
            have hF : Hid (attrL 11 s.data.toList = false) := val_not _ (by rw [hv.out, hq])
            rw [hq] at m12
            go_enter Tryz.func128, Tryz.ntmps128
            go_wp2_with fail
            refine (hL.out _).mono ?_
            rintro e w1 ⟨rfl, L1⟩
            have e0 := (L1.cell (p := ⟨w.heap.size, 0, none⟩) (lt_of_cell c0)).trans c0
            have e1 := (L1.cell (p := ⟨w.heap.size, 1, none⟩) (lt_of_cell c1)).trans c1
            replace HB := hide (HB.out.trans (L1.mono HB.out.size))
            go_wp2_with fail
            refine (m12.out _).mono ?_
            rintro e w2 ⟨rfl, L2⟩
            go_wp2
            go_ret
            exact ⟨by rw [hF.out]; rfl, HB.out.trans (L2.mono HB.out.size)⟩
          | true =>
            rw [hq] at m12
            have hvt : Hid (valL s.data.toList = true) := by unfold Hid; rw [hv.out, hq]
            clear hv hq
            go_enter Tryz.func128, Tryz.ntmps128
            go_wp2_with fail
            refine (hL.out _).mono ?_
            rintro e w1 ⟨rfl, L1⟩
            have e0 := (L1.cell (p := ⟨w.heap.size, 0, none⟩) (lt_of_cell c0)).trans c0
            have e1 := (L1.cell (p := ⟨w.heap.size, 1, none⟩) (lt_of_cell c1)).trans c1
            replace HB := hide (HB.out.trans (L1.mono HB.out.size))
            go_wp2_with fail
            refine (m12.out _).mono ?_
            rintro e w2 ⟨rfl, L2⟩
            replace e0 := (L2.cell (lt_of_cell e0)).trans e0
            replace e1 := (L2.cell (lt_of_cell e1)).trans e1
            replace HB := hide (HB.out.trans (L2.mono HB.out.size))
            have hT0 : attrL t0 s.data.toList = true := by rw [ht0]; exact attr_plain (by decide) hvt.out
            rw [ht0] at hT0
            have hT := hide hT0
            clear hT0
            go_wp2
            go_ret
            exact ⟨by rw [hT.out]; rfl, HB.out⟩
        · have i1 : (64 : Int) < (s.size : Int) := by omega
          have hF : Hid (attrL 11 s.data.toList = false) := val_not _ (val_size1 z1)
          go_enter Tryz.func128, Tryz.ntmps128
          go_wp2_with fail
          refine (hL.out _).mono ?_
          rintro e w1 ⟨rfl, L1⟩
          have e0 := (L1.cell (p := ⟨w.heap.size, 0, none⟩) (lt_of_cell c0)).trans c0
          have e1 := (L1.cell (p := ⟨w.heap.size, 1, none⟩) (lt_of_cell c1)).trans c1
          replace HB := hide (HB.out.trans (L1.mono HB.out.size))
          go_wp2
          go_ret
          exact ⟨by rw [hF.out]; rfl, HB.out⟩
      · have i0 : (s.size : Int) < 1 := by omega
        have hF : Hid (attrL 11 s.data.toList = false) := val_not _ (val_size0 z0)
        go_enter Tryz.func128, Tryz.ntmps128
        go_wp2_with fail
        refine (hL.out _).mono ?_
        rintro e w1 ⟨rfl, L1⟩
        have e0 := (L1.cell (p := ⟨w.heap.size, 0, none⟩) (lt_of_cell c0)).trans c0
        have e1 := (L1.cell (p := ⟨w.heap.size, 1, none⟩) (lt_of_cell c1)).trans c1
        replace HB := hide (HB.out.trans (L1.mono HB.out.size))
        go_wp2
        go_ret
        exact ⟨by rw [hF.out]; rfl, HB.out⟩
  · have hF : Hid (attrL t s.data.toList = false) := by unfold Hid attrL; rw [if_neg h6, if_neg h5, Bool.eq_false_iff.2 hp]; rfl
    have hlb : labS t = ⟨#[]⟩ := by
      have hn : ¬ (t = 3 ∨ t = 7 ∨ t = 8 ∨ t = 10 ∨ t = 11) := fun h => hp (decide_eq_true h)
      unfold labS
      rw [if_neg (by omega), if_neg h5, if_neg h6, if_neg (by omega), if_neg (by omega), if_neg (by omega), if_neg (by omega)]
    rw [hlb] at hL
    go_enter Tryz.func128, Tryz.ntmps128
    go_wp2_with fail
    refine (hL.out _).mono ?_
    rintro e w1 ⟨rfl, L1⟩
    have e0 := (L1.cell (p := ⟨w.heap.size, 0, none⟩) (lt_of_cell c0)).trans c0
    have e1 := (L1.cell (p := ⟨w.heap.size, 1, none⟩) (lt_of_cell c1)).trans c1
    replace HB := hide (HB.out.trans (L1.mono HB.out.size))
    go_wp2
    go_ret
    exact ⟨by rw [hF.out]; rfl, HB.out⟩

end Go.Proofs.YtklchpdpooikdaaGreatDoor
