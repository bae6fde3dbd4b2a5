/-
  within.All, meets, Some: what a rule's questions answer is handed in.
  The statements' own calls names and works answer true.
  Hosts' names: what a general name stands for lies where all of it, or some of it, lies. The maths of the statement WithinBoth. No program.
-/
import Derived.Test.YtcbcdfdicefkoaaGreatDoorYWiHMayToWiAll
import Derived.Test.YtcbcdfdicefkoaaGreatDoorYNmEncNToWiM
namespace Go.Proofs.YtcbcdfdicefkoaaGreatDoor
open Go.RowKit Go.Shelf Go.IntWalk

set_option maxRecDepth 100000 in
set_option maxHeartbeats 2000000 in
theorem all_kp (w0 : World) (kind : Int) (b : List UInt8) (gk : Int) (s : List UInt8) (A Y R : Bool) (m : Int) (w : World) (hm : Kp w0 m w)
    (h1 : ∀ W, Kp w0 m W → Calls Tryz.prog 11 #[.agg #[.int .i64 kind, .string (tx b)]] W fun e W' => e = .returned (.bool A) ∧ Below W.heap.size W W' ∧ Kp w0 m W')
    (h2 : A = true → ∀ W, Kp w0 m W → Calls Tryz.prog 22 #[.agg #[.int .i64 gk, .string (tx s)]] W fun e W' => e = .returned (.bool Y) ∧ Below W.heap.size W W' ∧ Kp w0 m W')
    (h3 : A = true → Y = true → ∀ W, Kp w0 m W → Calls Tryz.prog 36 #[.agg #[.int .i64 kind, .string (tx b)], .agg #[.int .i64 gk, .string (tx s)]] W fun e W' => e = .returned (.bool R) ∧ Kp w0 m W') :
    Calls Tryz.prog 13 #[.agg #[.int .i64 kind, .string (tx b)], .agg #[.int .i64 gk, .string (tx s)]] w fun e w' => e = .returned (.bool (A && (Y && R))) ∧ Kp w0 m w' := by
  have BX := (nbelowW w (boxS kind b)).trans ((nbelowW (w.alloc (boxS kind b)) (boxG gk s)).mono (by simp))
  have T0 := two_new w kind gk b s
  have KX := hide (hm.next BX)
  unfold boxS boxG at T0 KX
  clear BX
  have D1 := hide h1
  cases A with
  | false =>
    clear h1 h2 h3
    go_enter Tryz.func13, Tryz.ntmps13
    have s0 := T0.s0
    have s1 := T0.s1
    go_wp2_with fail
    refine (D1.out _ KX.out).mono ?_
    rintro e w1 ⟨rfl, B1, K1⟩
    have T1 := T0.below B1
    clear T0 s0 s1 KX B1
    go_wp2
    go_ret
    exact ⟨by simp, K1⟩
  | true =>
    have D2 := hide (h2 rfl)
    cases Y with
    | false =>
      clear h1 h2 h3
      go_enter Tryz.func13, Tryz.ntmps13
      have s0 := T0.s0
      have s1 := T0.s1
      go_wp2_with fail
      refine (D1.out _ KX.out).mono ?_
      rintro e w1 ⟨rfl, B1, K1⟩
      have T1 := T0.below B1
      clear T0 s0 s1 KX B1
      have r0 := T1.g0
      have r1 := T1.g1
      go_wp2_with fail
      refine (D2.out _ K1).mono ?_
      rintro e w2 ⟨rfl, B2, K2⟩
      have T2 := T1.below B2
      clear T1 r0 r1 K1 B2
      go_wp2
      go_ret
      exact ⟨by simp, K2⟩
    | true =>
      have D3 := hide (h3 rfl rfl)
      clear h1 h2 h3
      go_enter Tryz.func13, Tryz.ntmps13
      have s0 := T0.s0
      have s1 := T0.s1
      go_wp2_with fail
      refine (D1.out _ KX.out).mono ?_
      rintro e w1 ⟨rfl, B1, K1⟩
      have T1 := T0.below B1
      clear T0 s0 s1 KX B1
      have r0 := T1.g0
      have r1 := T1.g1
      go_wp2_with fail
      refine (D2.out _ K1).mono ?_
      rintro e w2 ⟨rfl, B2, K2⟩
      have T2 := T1.below B2
      clear T1 r0 r1 K1 B2
      have r0 := T2.s0
      have r1 := T2.s1
      have r2 := T2.g0
      have r3 := T2.g1
      go_wp2_with fail
      refine (D3.out _ K2).mono ?_
      rintro e w3 ⟨rfl, K3⟩
      go_wp2
      go_ret
      exact ⟨by simp, K3⟩
set_option maxRecDepth 100000 in
set_option maxHeartbeats 2000000 in
theorem some_kp (w0 : World) (kind : Int) (b : List UInt8) (gk : Int) (s : List UInt8) (A Y R : Bool) (m : Int) (w : World) (hm : Kp w0 m w)
    (h1 : ∀ W, Kp w0 m W → Calls Tryz.prog 11 #[.agg #[.int .i64 kind, .string (tx b)]] W fun e W' => e = .returned (.bool A) ∧ Below W.heap.size W W' ∧ Kp w0 m W')
    (h2 : A = true → ∀ W, Kp w0 m W → Calls Tryz.prog 22 #[.agg #[.int .i64 gk, .string (tx s)]] W fun e W' => e = .returned (.bool Y) ∧ Below W.heap.size W W' ∧ Kp w0 m W')
    (h3 : A = true → Y = true → ∀ W, Kp w0 m W → Calls Tryz.prog 40 #[.agg #[.int .i64 kind, .string (tx b)], .agg #[.int .i64 gk, .string (tx s)]] W fun e W' => e = .returned (.bool R) ∧ Kp w0 m W') :
    Calls Tryz.prog 15 #[.agg #[.int .i64 kind, .string (tx b)], .agg #[.int .i64 gk, .string (tx s)]] w fun e w' => e = .returned (.bool (A && (Y && R))) ∧ Kp w0 m w' := by
  have BX := (nbelowW w (boxS kind b)).trans ((nbelowW (w.alloc (boxS kind b)) (boxG gk s)).mono (by simp))
  have T0 := two_new w kind gk b s
  have KX := hide (hm.next BX)
  unfold boxS boxG at T0 KX
  clear BX
  have D1 := hide h1
  cases A with
  | false =>
    clear h1 h2 h3
    go_enter Tryz.func15, Tryz.ntmps15
    have s0 := T0.s0
    have s1 := T0.s1
    go_wp2_with fail
    refine (D1.out _ KX.out).mono ?_
    rintro e w1 ⟨rfl, B1, K1⟩
    have T1 := T0.below B1
    clear T0 s0 s1 KX B1
    go_wp2
    go_ret
    exact ⟨by simp, K1⟩
  | true =>
    have D2 := hide (h2 rfl)
    cases Y with
    | false =>
      clear h1 h2 h3
      go_enter Tryz.func15, Tryz.ntmps15
      have s0 := T0.s0
      have s1 := T0.s1
      go_wp2_with fail
      refine (D1.out _ KX.out).mono ?_
      rintro e w1 ⟨rfl, B1, K1⟩
      have T1 := T0.below B1
      clear T0 s0 s1 KX B1
      have r0 := T1.g0
      have r1 := T1.g1
      go_wp2_with fail
      refine (D2.out _ K1).mono ?_
      rintro e w2 ⟨rfl, B2, K2⟩
      have T2 := T1.below B2
      clear T1 r0 r1 K1 B2
      go_wp2
      go_ret
      exact ⟨by simp, K2⟩
    | true =>
      have D3 := hide (h3 rfl rfl)
      clear h1 h2 h3
      go_enter Tryz.func15, Tryz.ntmps15
      have s0 := T0.s0
      have s1 := T0.s1
      go_wp2_with fail
      refine (D1.out _ KX.out).mono ?_
      rintro e w1 ⟨rfl, B1, K1⟩
      have T1 := T0.below B1
      clear T0 s0 s1 KX B1
      have r0 := T1.g0
      have r1 := T1.g1
      go_wp2_with fail
      refine (D2.out _ K1).mono ?_
      rintro e w2 ⟨rfl, B2, K2⟩
      have T2 := T1.below B2
      clear T1 r0 r1 K1 B2
      have r0 := T2.s0
      have r1 := T2.s1
      have r2 := T2.g0
      have r3 := T2.g1
      go_wp2_with fail
      refine (D3.out _ K2).mono ?_
      rintro e w3 ⟨rfl, K3⟩
      go_wp2
      go_ret
      exact ⟨by simp, K3⟩

end Go.Proofs.YtcbcdfdicefkoaaGreatDoor

namespace Go.Proofs.YtcbcdfdicefkoaaGreatDoor
open Go.RowKit Go.Shelf Go.IntWalk

/-- What stands behind the *. of a wild name; else the text itself. -/
def trimW (s : List UInt8) : List UInt8 := Lib.trimPrefix s [42, 46]

theorem Kp.own {w0 w : World} {m : Int} (h : Kp w0 m w) {W' : World} (h2 : Kp w m W') : Kp w0 m W' := h.next h2.1

set_option maxRecDepth 100000 in
theorem isHost_kp (w0 : World) (b : List UInt8) (hb : b.length ≤ 1048576) (m : Int) (w : World) (hm : Kp w0 m w) :
    Calls Tryz.prog 99 #[.string (tx b)] w fun e w' => e = .returned (.bool (dnsL b)) ∧ Kp w0 m w' := by
  have d1 := hide (dns_any b hb m w hm.2)
  have HM := hide hm
  clear hm
  go_enter Tryz.func99, Tryz.ntmps99
  go_wp2_with fail
  refine d1.out.mono ?_
  rintro e w1 ⟨rfl, B1⟩
  go_wp2
  go_ret
  exact ⟨rfl, HM.out.next B1⟩

theorem trim_any (s : List UInt8) (w : World) :
    Calls Tryz.prog 125 #[.string (tx s), .string ⟨#[42, 46]⟩] w fun e w' => e = .returned (.string (tx (trimW s))) ∧ w' = w := by
  exact Tryz.strings_TrimPrefix (tx s) (tx [42, 46]) w
theorem trim_len (s : List UInt8) : (trimW s).length ≤ s.length := by
  unfold trimW Lib.trimPrefix
  split
  · rw [List.length_drop]; omega
  · exact Nat.le_refl _

set_option maxRecDepth 100000 in
theorem hasHost_kp (w0 : World) (b s : List UInt8) (hb : b.length ≤ 1048576) (hs : s.length ≤ 1048576) (m : Int) (w : World) (hm : Kp w0 m w) :
    Calls Tryz.prog 100 #[.string (tx b), .string (tx s)] w fun e w' => e = .returned (.bool (belB (trimW s) b)) ∧ Kp w0 m w' := by
  have d1 := hide (trim_any s w)
  have d2 := hide (below_kp w0 (trimW s) b (Nat.le_trans (trim_len s) hs) hb m w hm)
  go_enter Tryz.func100, Tryz.ntmps100
  go_wp2_with fail
  refine d1.out.mono ?_
  rintro e w1 ⟨rfl, rfl⟩
  go_wp2_with fail
  refine d2.out.mono ?_
  rintro e w2 ⟨rfl, K2⟩
  go_wp2
  go_ret
  exact ⟨rfl, K2⟩

set_option maxRecDepth 100000 in
theorem names14_any (w : World) : Calls Tryz.prog 31 #[] w fun e w' => e = .returned (.bool true) ∧ w' = w := by
  go_enter Tryz.func31, Tryz.ntmps31
  go_wp2
  go_ret
  exact ⟨rfl, rfl⟩

/-- All of {GDNS, a.b} of the host x.a.b. -/
theorem all_one (w0 : World) (m : Int) (w : World) (hm : Kp w0 m w) :
    Calls Tryz.prog 13 #[.agg #[.int .i64 2, .string ⟨#[97, 46, 98]⟩], .agg #[.int .i64 2, .string ⟨#[120, 46, 97, 46, 98]⟩]] w fun e w' => e = .returned (.bool true) ∧ Kp w0 m w' := by
  have e1 : dnsL [97, 46, 98] = true := by decide
  have e2 : hmay 2 [120, 46, 97, 46, 98] false = true := by decide
  have e3 : belB (trimW [120, 46, 97, 46, 98]) [97, 46, 98] = true := by decide
  have e4 : rAt 2 = 1 := rfl
  have h := all_kp w0 2 [97, 46, 98] 2 [120, 46, 97, 46, 98] true true true m w hm
    (fun W hW => by
      have h9 := wmay_kp W 2 [97, 46, 98] true m (fun _ V hV => by rw [e4]; have := isHost_kp W [97, 46, 98] (by decide) m V hV; rw [e1] at this; exact this) W (Kp.refl hW.2)
      exact h9.mono fun e W' ⟨k1, k2⟩ => ⟨k1, k2.1, hW.own k2⟩)
    (fun _ W hW => by
      have h9 := hmay_kp W 2 (by decide) [120, 46, 97, 46, 98] (by decide) false m (fun h => by cases h) W (Kp.refl hW.2)
      rw [e2] at h9
      exact h9.mono fun e W' ⟨k1, k2⟩ => ⟨k1, k2.1, hW.own k2⟩)
    (fun _ _ W hW => by
      have h9 := holds_kp W 2 [97, 46, 98] 2 [120, 46, 97, 46, 98] true m (by decide) (fun _ V hV => by rw [e4]; have := hasHost_kp W [97, 46, 98] [120, 46, 97, 46, 98] (by decide) (by decide) m V hV; rw [e3] at this; exact this) W (Kp.refl hW.2)
      exact h9.mono fun e W' ⟨k1, k2⟩ => ⟨k1, hW.own k2⟩)
  exact h

set_option maxRecDepth 100000 in
set_option maxHeartbeats 1000000 in
theorem works14_kp (w0 : World) (m : Int) (w : World) (hm : Kp w0 m w) :
    Calls Tryz.prog 10 #[] w fun e w' => e = .returned (.bool true) ∧ Kp w0 m w' := by
  have e1 : belB [120, 46, 97, 46, 98] [97, 46, 98] = true := by decide
  have d1 : Hid (∀ W, Kp w0 m W → Calls Tryz.prog 8 #[.string ⟨#[120, 46, 97, 46, 98]⟩, .string ⟨#[97, 46, 98]⟩] W fun e W' => e = .returned (.bool true) ∧ Kp w0 m W') := fun W h => by have := below_kp w0 [120, 46, 97, 46, 98] [97, 46, 98] (by decide) (by decide) m W h; rw [e1] at this; exact this
  have d2 := hide (all_one w0 m)
  have HM := hide hm
  clear e1 hm
  go_enter Tryz.func10, Tryz.ntmps10
  go_wp2_with fail
  refine (d1.out _ HM.out).mono ?_
  rintro e w1 ⟨rfl, K1⟩
  go_wp2_with fail
  refine (d2.out _ K1).mono ?_
  rintro e w2 ⟨rfl, K2⟩
  go_wp2_with fail
  refine (names14_any _).mono ?_
  rintro e w3 ⟨rfl, rfl⟩
  go_wp2
  go_ret
  exact ⟨rfl, K2⟩

end Go.Proofs.YtcbcdfdicefkoaaGreatDoor

namespace Go.Proofs.YtcbcdfdicefkoaaGreatDoor

/-- The labels of a name, small. -/
def LS (a : List UInt8) : List (List UInt8) := labs (smallL a)
theorem bel_LS (a b : List UInt8) : belB a b = true ↔ dnsL a = true ∧ dnsL b = true ∧ LS b <:+ LS a := by
  rw [bel_labs, Bool.and_eq_true, Bool.and_eq_true, List.isSuffixOf_iff_suffix]
  exact Iff.rfl
theorem dns_star {r : List UInt8} : dnsL (42 :: 46 :: r) = false := by
  cases h : dnsL (42 :: 46 :: r) with
  | false => rfl
  | true =>
    have h1 := List.all_eq_true.1 (dns_labs h) [42] (by
      rw [labs_cut]
      have e : (cutD 46 (42 :: 46 :: r)).1 = [42] := by rw [cutD, if_neg (by decide), cutD, if_pos rfl]
      rw [e]
      simp)
    revert h1
    decide
theorem trim_star (r : List UInt8) : trimW (42 :: 46 :: r) = r := by
  unfold trimW Lib.trimPrefix Lib.hasPrefix
  simp [List.isPrefixOf]
theorem trim_dns {a : List UInt8} (h : dnsL a = true) : trimW a = a := by
  unfold trimW Lib.trimPrefix
  split
  · rename_i hp
    have hp2 : [42, 46] <+: a := List.isPrefixOf_iff_prefix.1 hp
    obtain ⟨t, ht⟩ := hp2
    subst ht
    rw [show [42, 46] ++ t = 42 :: 46 :: t from rfl, dns_star] at h
    cases h
  · rfl
theorem LS_star (r : List UInt8) : LS (42 :: 46 :: r) = [42] :: LS r := by
  unfold LS
  have e : smallL (42 :: 46 :: r) = 42 :: 46 :: smallL r := by
    show smallB 42 :: smallB 46 :: smallL r = _
    rfl
  rw [e, labs_cut]
  have e1 : cutD 46 (42 :: 46 :: smallL r) = ([42], smallL r, true) := by rw [cutD, if_neg (by decide), cutD, if_pos rfl]
  rw [e1]
  rfl
theorem LS_inj {a b : List UInt8} (h : LS a = LS b) : smallL a = smallL b := labs_inj h

/-- A pattern that is a host's name. -/
theorem match_dns {p s : List UInt8} (hp : dnsL p = true) : matchL p s = true ↔ dnsL s = true ∧ LS p = LS s := by
  unfold matchL
  rw [Bool.and_eq_true, if_pos hp, fold_small, decide_eq_true_eq]
  constructor
  · rintro ⟨h1, h2⟩
    exact ⟨h1, by unfold LS; rw [h2]⟩
  · rintro ⟨h1, h2⟩
    exact ⟨h1, LS_inj h2⟩
/-- A pattern that is wild. -/
theorem match_wild {r s : List UInt8} (hw : wildL (42 :: 46 :: r) = true) : matchL (42 :: 46 :: r) s = true ↔ dnsL s = true ∧ ∃ l, LS s = l :: LS r := by
  unfold matchL
  rw [Bool.and_eq_true, dns_star, if_neg (by decide), hw, Bool.true_and, fold_tail hw, decide_eq_true_eq]
  have e : labs (smallL (42 :: 46 :: r)) = [42] :: LS r := LS_star r
  rw [e]
  have e2 : labs (smallL s) = LS s := rfl
  rw [e2]
  constructor
  · rintro ⟨h1, h2, h3⟩
    refine ⟨h1, ?_⟩
    cases hl : LS s with
    | nil => rw [hl] at h2; simp at h2
    | cons l t => rw [hl] at h3; exact ⟨l, by simpa using h3.symm⟩
  · rintro ⟨h1, l, h2⟩
    refine ⟨h1, ?_, ?_⟩
    · rw [h2]; simp
    · rw [h2]; simp

/-- What a host's name matches it lies below. -/
theorem dns_some {g b : List UInt8} (hd : dnsL g = true) (hm : matchL g b = true) : belB (trimW g) b = true := by
  have h1 := (match_dns hd).1 hm
  rw [trim_dns hd, bel_LS]
  exact ⟨hd, h1.1, by rw [h1.2]; exact List.suffix_refl _⟩
theorem match_kind {g s : List UInt8} (hm : matchL g s = true) : (dnsL g = true ∨ wildL g = true) ∧ dnsL s = true := by
  unfold matchL at hm
  rw [Bool.and_eq_true] at hm
  refine ⟨?_, hm.1⟩
  by_cases hd : dnsL g = true
  · exact .inl hd
  · have h2 := hm.2
    rw [if_neg hd, Bool.and_eq_true] at h2
    exact .inr h2.1

end Go.Proofs.YtcbcdfdicefkoaaGreatDoor
