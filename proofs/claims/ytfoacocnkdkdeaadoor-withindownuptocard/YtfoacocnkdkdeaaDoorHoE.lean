/-
  host.Wild, host.Email, host.IP: is a text a wild name, a mail address, a network address?
-/
import Derived.Test.YtfoacocnkdkdeaaDoorHoD
namespace Go.Proofs.YtfoacocnkdkdeaaDoor
open Go.RowKit Go.Shelf Go.IntWalk
attribute [local go_sem] Oper.semAt_some

theorem contains_byte (c : UInt8) : ∀ l : List UInt8, decide (0 ≤ Lib.indexByte l c) = l.contains c
  | [] => by simp [Lib.indexByte]
  | b :: l => by
    have ih := contains_byte c l
    have hge := Lib.indexByte_ge l c
    rw [Lib.indexByte, List.contains_cons, ← ih]
    by_cases h : b = c
    · subst h; simp
    · have h1 : (b == c) = false := by simpa using h
      have h2 : (c == b) = false := by simpa using fun e => h e.symm
      rw [h1, h2]
      simp only [Bool.false_eq_true, if_false, Bool.false_or]
      by_cases h0 : 0 ≤ Lib.indexByte l c
      · rw [if_neg (by simp; omega), decide_eq_true h0, decide_eq_true (by omega)]
      · rw [if_pos (by simp; omega), decide_eq_false h0, decide_eq_false (by omega)]

/-- A wild name: *. behind it a host's name with a dot. -/
theorem wildL_prefix (s : List UInt8) : wildL s = (Lib.hasPrefix s [42, 46] && (decide (s.length ≤ 253) && (dnsL (Lib.trimPrefix s [42, 46]) && (Lib.trimPrefix s [42, 46]).contains 46))) := by
  unfold Lib.trimPrefix Lib.hasPrefix
  match s with
  | [] => rfl
  | [a] => simp [wildL, List.isPrefixOf]
  | a :: b :: r =>
    simp only [wildL, List.isPrefixOf, List.length_cons, Bool.and_true]
    by_cases h : a = 42 ∧ b = 46
    · obtain ⟨rfl, rfl⟩ := h
      simp
    · rw [decide_eq_false h]
      have : ((42 : UInt8) == a && (46 : UInt8) == b) = false := by
        rw [Bool.and_eq_false_iff]
        by_cases ha : a = 42
        · right; simpa using fun e => h ⟨ha, e.symm⟩
        · left; simpa using fun e => ha e.symm
      rw [this]
      rfl

set_option maxRecDepth 100000 in
set_option maxHeartbeats 1000000 in
theorem wild_any (s : List UInt8) (hs : s.length ≤ 1048576) (m : Int) (w : World) (hm : ML w m) :
    Calls Tryd.prog 14 #[.string (tx s)] w fun e w' => e = .returned (.bool (wildL s)) ∧ Below w.heap.size w w' := by
  have hz := tx_size s
  have hC := hide (fun W => Tryd.strings_CutPrefix (tx s) ⟨#[42, 46]⟩ W)
  have e1 : (⟨#[42, 46]⟩ : ByteArray).data.toList = [42, 46] := rfl
  rw [e1, tx_list] at hC
  have hrl : (Lib.trimPrefix s [42, 46]).length ≤ s.length := by unfold Lib.trimPrefix; split <;> simp
  have hD := hide (dns_any (Lib.trimPrefix s [42, 46]) (by omega) m w hm)
  have hO := hide (fun W => Tryd.strings_Contains_one (tx (Lib.trimPrefix s [42, 46])) 46 W)
  rw [tx_list, contains_byte] at hO
  have hP := hide (wildL_prefix s)
  generalize Lib.trimPrefix s [42, 46] = t at hC hD hO hP
  generalize Lib.hasPrefix s [42, 46] = pf at hC hP
  generalize dnsL t = d at hD hP
  generalize t.contains 46 = o at hO hP
  generalize wildL s = R at hP ⊢
  clear hrl e1
  cases pf with
  | false =>
    go_enter Tryd.func14, Tryd.ntmps14
    go_wp2_with (first | (go_at_call 33; refine (hC.out _).mono ?_; rintro e w1 ⟨rfl, hw1⟩; subst hw1) | (go_at_call 5; refine (hD.out).mono ?_; rintro e w2 ⟨rfl, B2⟩) | (go_at_call 34; refine (hO.out _).mono ?_; rintro e w3 ⟨rfl, hw3⟩; subst hw3))
    go_ret
    exact ⟨by rw [hP.out]; rfl, Below.refl _ _⟩
  | true =>
    by_cases hle : s.length ≤ 253
    · have hleI : ((tx s).size : Int) ≤ 253 := by omega
      have hP2 : Hid (R = (d && o)) := by unfold Hid; rw [hP.out, decide_eq_true hle]; rfl
      clear hz hle hP
      cases d with
      | false =>
        go_enter Tryd.func14, Tryd.ntmps14
        go_wp2_with (first | (go_at_call 33; refine (hC.out _).mono ?_; rintro e w1 ⟨rfl, hw1⟩; subst hw1) | (go_at_call 5; refine (hD.out).mono ?_; rintro e w2 ⟨rfl, B2⟩) | (go_at_call 34; refine (hO.out _).mono ?_; rintro e w3 ⟨rfl, hw3⟩; subst hw3))
        go_ret
        exact ⟨by rw [hP2.out]; rfl, B2⟩
      | true =>
        go_enter Tryd.func14, Tryd.ntmps14
        go_wp2_with (first | (go_at_call 33; refine (hC.out _).mono ?_; rintro e w1 ⟨rfl, hw1⟩; subst hw1) | (go_at_call 5; refine (hD.out).mono ?_; rintro e w2 ⟨rfl, B2⟩) | (go_at_call 34; refine (hO.out _).mono ?_; rintro e w3 ⟨rfl, hw3⟩; subst hw3))
        go_ret
        exact ⟨by rw [hP2.out]; rfl, B2⟩
    · have hleI : ¬ ((tx s).size : Int) ≤ 253 := by omega
      have hP2 : Hid (R = false) := by unfold Hid; rw [hP.out, decide_eq_false hle]; rfl
      clear hz hle hP
      go_enter Tryd.func14, Tryd.ntmps14
      go_wp2_with (first | (go_at_call 33; refine (hC.out _).mono ?_; rintro e w1 ⟨rfl, hw1⟩; subst hw1) | (go_at_call 5; refine (hD.out).mono ?_; rintro e w2 ⟨rfl, B2⟩) | (go_at_call 34; refine (hO.out _).mono ?_; rintro e w3 ⟨rfl, hw3⟩; subst hw3))
      go_ret
      exact ⟨by rw [hP2.out]; rfl, Below.refl _ _⟩

/-- May a piece of a local part be? -/
def pcL (u : List UInt8) : Bool := !u.isEmpty && u.all (fun b => locN b.toNat)

end Go.Proofs.YtfoacocnkdkdeaaDoor
