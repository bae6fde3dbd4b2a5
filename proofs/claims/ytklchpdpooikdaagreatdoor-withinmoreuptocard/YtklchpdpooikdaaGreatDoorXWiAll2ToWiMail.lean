/-
  within.All, meets, Some: what a rule's questions answer is handed in.
  The statements' own calls names and works answer true.
  within's questions of mail: isMail, hasMail.
-/
import Derived.Test.YtklchpdpooikdaaGreatDoorXWiHMayToWiAll
namespace Go.Proofs.YtklchpdpooikdaaGreatDoor
open Go.RowKit Go.Shelf Go.IntWalk

set_option maxRecDepth 100000 in
set_option maxHeartbeats 2000000 in
theorem all_kp (w0 : World) (kind : Int) (b : List UInt8) (gk : Int) (s : List UInt8) (A Y R : Bool) (m : Int) (w : World) (hm : Kp w0 m w)
    (h1 : ∀ W, Kp w0 m W → Calls Tryz.prog 10 #[.agg #[.int .i64 kind, .string (tx b)]] W fun e W' => e = .returned (.bool A) ∧ Below W.heap.size W W' ∧ Kp w0 m W')
    (h2 : A = true → ∀ W, Kp w0 m W → Calls Tryz.prog 13 #[.agg #[.int .i64 gk, .string (tx s)]] W fun e W' => e = .returned (.bool Y) ∧ Below W.heap.size W W' ∧ Kp w0 m W')
    (h3 : A = true → Y = true → ∀ W, Kp w0 m W → Calls Tryz.prog 20 #[.agg #[.int .i64 kind, .string (tx b)], .agg #[.int .i64 gk, .string (tx s)]] W fun e W' => e = .returned (.bool R) ∧ Kp w0 m W') :
    Calls Tryz.prog 14 #[.agg #[.int .i64 kind, .string (tx b)], .agg #[.int .i64 gk, .string (tx s)]] w fun e w' => e = .returned (.bool (A && (Y && R))) ∧ Kp w0 m w' := by
  have BX := (nbelowW w (boxS kind b)).trans ((nbelowW (w.alloc (boxS kind b)) (boxG gk s)).mono (by simp))
  have T0 := two_new w kind gk b s
  have KX := hide (hm.next BX)
  unfold boxS boxG at T0 KX
  clear BX
  have D1 := hide h1
  cases A with
  | false =>
    clear h1 h2 h3
    go_enter Tryz.func14, Tryz.ntmps14
    have s0 := T0.s0
    have s1 := T0.s1
    go_wp2_with fail
    refine (D1.out _ KX.out).mono ?_
    rintro e w1 ⟨rfl, B1, K1⟩
    have T1 := T0.below B1
    clear T0 s0 s1 KX B1
    go_wp2
    go_ret
    exact ⟨by simp, K1⟩
  | true =>
    have D2 := hide (h2 rfl)
    cases Y with
    | false =>
      clear h1 h2 h3
      go_enter Tryz.func14, Tryz.ntmps14
      have s0 := T0.s0
      have s1 := T0.s1
      go_wp2_with fail
      refine (D1.out _ KX.out).mono ?_
      rintro e w1 ⟨rfl, B1, K1⟩
      have T1 := T0.below B1
      clear T0 s0 s1 KX B1
      have r0 := T1.g0
      have r1 := T1.g1
      go_wp2_with fail
      refine (D2.out _ K1).mono ?_
      rintro e w2 ⟨rfl, B2, K2⟩
      have T2 := T1.below B2
      clear T1 r0 r1 K1 B2
      go_wp2
      go_ret
      exact ⟨by simp, K2⟩
    | true =>
      have D3 := hide (h3 rfl rfl)
      clear h1 h2 h3
      go_enter Tryz.func14, Tryz.ntmps14
      have s0 := T0.s0
      have s1 := T0.s1
      go_wp2_with fail
      refine (D1.out _ KX.out).mono ?_
      rintro e w1 ⟨rfl, B1, K1⟩
      have T1 := T0.below B1
      clear T0 s0 s1 KX B1
      have r0 := T1.g0
      have r1 := T1.g1
      go_wp2_with fail
      refine (D2.out _ K1).mono ?_
      rintro e w2 ⟨rfl, B2, K2⟩
      have T2 := T1.below B2
      clear T1 r0 r1 K1 B2
      have r0 := T2.s0
      have r1 := T2.s1
      have r2 := T2.g0
      have r3 := T2.g1
      go_wp2_with fail
      refine (D3.out _ K2).mono ?_
      rintro e w3 ⟨rfl, K3⟩
      go_wp2
      go_ret
      exact ⟨by simp, K3⟩
set_option maxRecDepth 100000 in
set_option maxHeartbeats 2000000 in
theorem some_kp (w0 : World) (kind : Int) (b : List UInt8) (gk : Int) (s : List UInt8) (A Y R : Bool) (m : Int) (w : World) (hm : Kp w0 m w)
    (h1 : ∀ W, Kp w0 m W → Calls Tryz.prog 10 #[.agg #[.int .i64 kind, .string (tx b)]] W fun e W' => e = .returned (.bool A) ∧ Below W.heap.size W W' ∧ Kp w0 m W')
    (h2 : A = true → ∀ W, Kp w0 m W → Calls Tryz.prog 13 #[.agg #[.int .i64 gk, .string (tx s)]] W fun e W' => e = .returned (.bool Y) ∧ Below W.heap.size W W' ∧ Kp w0 m W')
    (h3 : A = true → Y = true → ∀ W, Kp w0 m W → Calls Tryz.prog 23 #[.agg #[.int .i64 kind, .string (tx b)], .agg #[.int .i64 gk, .string (tx s)]] W fun e W' => e = .returned (.bool R) ∧ Kp w0 m W') :
    Calls Tryz.prog 12 #[.agg #[.int .i64 kind, .string (tx b)], .agg #[.int .i64 gk, .string (tx s)]] w fun e w' => e = .returned (.bool (A && (Y && R))) ∧ Kp w0 m w' := by
  have BX := (nbelowW w (boxS kind b)).trans ((nbelowW (w.alloc (boxS kind b)) (boxG gk s)).mono (by simp))
  have T0 := two_new w kind gk b s
  have KX := hide (hm.next BX)
  unfold boxS boxG at T0 KX
  clear BX
  have D1 := hide h1
  cases A with
  | false =>
    clear h1 h2 h3
    go_enter Tryz.func12, Tryz.ntmps12
    have s0 := T0.s0
    have s1 := T0.s1
    go_wp2_with fail
    refine (D1.out _ KX.out).mono ?_
    rintro e w1 ⟨rfl, B1, K1⟩
    have T1 := T0.below B1
    clear T0 s0 s1 KX B1
    go_wp2
    go_ret
    exact ⟨by simp, K1⟩
  | true =>
    have D2 := hide (h2 rfl)
    cases Y with
    | false =>
      clear h1 h2 h3
      go_enter Tryz.func12, Tryz.ntmps12
      have s0 := T0.s0
      have s1 := T0.s1
      go_wp2_with fail
      refine (D1.out _ KX.out).mono ?_
      rintro e w1 ⟨rfl, B1, K1⟩
      have T1 := T0.below B1
      clear T0 s0 s1 KX B1
      have r0 := T1.g0
      have r1 := T1.g1
      go_wp2_with fail
      refine (D2.out _ K1).mono ?_
      rintro e w2 ⟨rfl, B2, K2⟩
      have T2 := T1.below B2
      clear T1 r0 r1 K1 B2
      go_wp2
      go_ret
      exact ⟨by simp, K2⟩
    | true =>
      have D3 := hide (h3 rfl rfl)
      clear h1 h2 h3
      go_enter Tryz.func12, Tryz.ntmps12
      have s0 := T0.s0
      have s1 := T0.s1
      go_wp2_with fail
      refine (D1.out _ KX.out).mono ?_
      rintro e w1 ⟨rfl, B1, K1⟩
      have T1 := T0.below B1
      clear T0 s0 s1 KX B1
      have r0 := T1.g0
      have r1 := T1.g1
      go_wp2_with fail
      refine (D2.out _ K1).mono ?_
      rintro e w2 ⟨rfl, B2, K2⟩
      have T2 := T1.below B2
      clear T1 r0 r1 K1 B2
      have r0 := T2.s0
      have r1 := T2.s1
      have r2 := T2.g0
      have r3 := T2.g1
      go_wp2_with fail
      refine (D3.out _ K2).mono ?_
      rintro e w3 ⟨rfl, K3⟩
      go_wp2
      go_ret
      exact ⟨by simp, K3⟩

end Go.Proofs.YtklchpdpooikdaaGreatDoor

namespace Go.Proofs.YtklchpdpooikdaaGreatDoor
open Go.RowKit Go.Shelf Go.IntWalk

/-- What stands behind the *. of a wild name; else the text itself. -/
def trimW (s : List UInt8) : List UInt8 := Lib.trimPrefix s [42, 46]


set_option maxRecDepth 100000 in
theorem isHost_kp (w0 : World) (b : List UInt8) (hb : b.length ≤ 1048576) (m : Int) (w : World) (hm : Kp w0 m w) :
    Calls Tryz.prog 76 #[.string (tx b)] w fun e w' => e = .returned (.bool (dnsL b)) ∧ Kp w0 m w' := by
  have d1 := hide (dns_any b hb m w hm.2)
  have HM := hide hm
  clear hm
  go_enter Tryz.func76, Tryz.ntmps76
  go_wp2_with fail
  refine d1.out.mono ?_
  rintro e w1 ⟨rfl, B1⟩
  go_wp2
  go_ret
  exact ⟨rfl, HM.out.next B1⟩

theorem trim_any (s : List UInt8) (w : World) :
    Calls Tryz.prog 109 #[.string (tx s), .string ⟨#[42, 46]⟩] w fun e w' => e = .returned (.string (tx (trimW s))) ∧ w' = w := by
  exact Tryz.strings_TrimPrefix (tx s) (tx [42, 46]) w
theorem trim_len (s : List UInt8) : (trimW s).length ≤ s.length := by
  unfold trimW Lib.trimPrefix
  split
  · rw [List.length_drop]; omega
  · exact Nat.le_refl _

set_option maxRecDepth 100000 in
theorem hasHost_kp (w0 : World) (b s : List UInt8) (hb : b.length ≤ 1048576) (hs : s.length ≤ 1048576) (m : Int) (w : World) (hm : Kp w0 m w) :
    Calls Tryz.prog 77 #[.string (tx b), .string (tx s)] w fun e w' => e = .returned (.bool (belB (trimW s) b)) ∧ Kp w0 m w' := by
  have d1 := hide (trim_any s w)
  have d2 := hide (below_kp w0 (trimW s) b (Nat.le_trans (trim_len s) hs) hb m w hm)
  go_enter Tryz.func77, Tryz.ntmps77
  go_wp2_with fail
  refine d1.out.mono ?_
  rintro e w1 ⟨rfl, rfl⟩
  go_wp2_with fail
  refine d2.out.mono ?_
  rintro e w2 ⟨rfl, K2⟩
  go_wp2
  go_ret
  exact ⟨rfl, K2⟩

set_option maxRecDepth 100000 in
theorem names14_any (w : World) : Calls Tryz.prog 29 #[] w fun e w' => e = .returned (.bool true) ∧ w' = w := by
  go_enter Tryz.func29, Tryz.ntmps29
  go_wp2
  go_ret
  exact ⟨rfl, rfl⟩

/-- All of {GDNS, a.b} of the host x.a.b. -/
theorem all_one (w0 : World) (m : Int) (w : World) (hm : Kp w0 m w) :
    Calls Tryz.prog 14 #[.agg #[.int .i64 2, .string ⟨#[97, 46, 98]⟩], .agg #[.int .i64 2, .string ⟨#[120, 46, 97, 46, 98]⟩]] w fun e w' => e = .returned (.bool true) ∧ Kp w0 m w' := by
  have e1 : dnsL [97, 46, 98] = true := by decide
  have e2 : hmay 2 [120, 46, 97, 46, 98] false = true := by decide
  have e3 : belB (trimW [120, 46, 97, 46, 98]) [97, 46, 98] = true := by decide
  have e4 : rAt 2 = 1 := rfl
  have h := all_kp w0 2 [97, 46, 98] 2 [120, 46, 97, 46, 98] true true true m w hm
    (fun W hW => by
      have h9 := wmay_kp W 2 [97, 46, 98] true m (fun _ V hV => by rw [e4]; have := isHost_kp W [97, 46, 98] (by decide) m V hV; rw [e1] at this; exact this) W (Kp.refl hW.2)
      exact h9.mono fun e W' ⟨k1, k2⟩ => ⟨k1, k2.1, hW.own k2⟩)
    (fun _ W hW => by
      have h9 := hmay_kp W 2 (by decide) [120, 46, 97, 46, 98] (by decide) false m (fun h => by cases h) W (Kp.refl hW.2)
      rw [e2] at h9
      exact h9.mono fun e W' ⟨k1, k2⟩ => ⟨k1, k2.1, hW.own k2⟩)
    (fun _ _ W hW => by
      have h9 := holds_kp W 2 [97, 46, 98] 2 [120, 46, 97, 46, 98] true m (by decide) (fun _ V hV => by rw [e4]; have := hasHost_kp W [97, 46, 98] [120, 46, 97, 46, 98] (by decide) (by decide) m V hV; rw [e3] at this; exact this) W (Kp.refl hW.2)
      exact h9.mono fun e W' ⟨k1, k2⟩ => ⟨k1, hW.own k2⟩)
  exact h

set_option maxRecDepth 100000 in
set_option maxHeartbeats 1000000 in
theorem works14_kp (w0 : World) (m : Int) (w : World) (hm : Kp w0 m w) :
    Calls Tryz.prog 9 #[] w fun e w' => e = .returned (.bool true) ∧ Kp w0 m w' := by
  have e1 : belB [120, 46, 97, 46, 98] [97, 46, 98] = true := by decide
  have d1 : Hid (∀ W, Kp w0 m W → Calls Tryz.prog 28 #[.string ⟨#[120, 46, 97, 46, 98]⟩, .string ⟨#[97, 46, 98]⟩] W fun e W' => e = .returned (.bool true) ∧ Kp w0 m W') := fun W h => by have := below_kp w0 [120, 46, 97, 46, 98] [97, 46, 98] (by decide) (by decide) m W h; rw [e1] at this; exact this
  have d2 := hide (all_one w0 m)
  have HM := hide hm
  clear e1 hm
  go_enter Tryz.func9, Tryz.ntmps9
  go_wp2_with fail
  refine (d1.out _ HM.out).mono ?_
  rintro e w1 ⟨rfl, K1⟩
  go_wp2_with fail
  refine (d2.out _ K1).mono ?_
  rintro e w2 ⟨rfl, K2⟩
  go_wp2_with fail
  refine (names14_any _).mono ?_
  rintro e w3 ⟨rfl, rfl⟩
  go_wp2
  go_ret
  exact ⟨rfl, K2⟩

end Go.Proofs.YtklchpdpooikdaaGreatDoor

namespace Go.Proofs.YtklchpdpooikdaaGreatDoor
open Go.RowKit Go.Shelf Go.IntWalk

/-- What stands behind a dot at the beginning; else the text itself. -/
def trimD (s : List UInt8) : List UInt8 := Lib.trimPrefix s [46]
theorem trimD_len (s : List UInt8) : (trimD s).length ≤ s.length := by
  unfold trimD Lib.trimPrefix
  split
  · rw [List.length_drop]; omega
  · exact Nat.le_refl _
theorem trimD_any (s : List UInt8) (w : World) :
    Calls Tryz.prog 109 #[.string (tx s), .string ⟨#[46]⟩] w fun e w' => e = .returned (.string (tx (trimD s))) ∧ w' = w := Tryz.strings_TrimPrefix (tx s) (tx [46]) w

/-- May a subtree of mail have this Base? -/
def isMailL (b : List UInt8) : Bool := mailL b || dnsL (trimD b)
set_option maxRecDepth 100000 in
theorem isMail_kp (w0 : World) (b : List UInt8) (hb : b.length ≤ 1048576) (m : Int) (w : World) (hm : Kp w0 m w) :
    Calls Tryz.prog 74 #[.string (tx b)] w fun e w' => e = .returned (.bool (isMailL b)) ∧ Kp w0 m w' := by
  have hR : Hid (isMailL b = (mailL b || dnsL (trimD b))) := rfl
  have d1 : Hid (∀ W, Kp w0 m W → Calls Tryz.prog 47 #[.string (tx b)] W fun e W' => e = .returned (.bool (mailL b)) ∧ Kp w0 m W') := fun W h => (email_any b hb m W h.2).mono fun e W' ⟨k1, k2⟩ => ⟨k1, h.next k2⟩
  have d2 := hide (fun W => trimD_any b W)
  have d3 : Hid (∀ W, Kp w0 m W → Calls Tryz.prog 43 #[.string (tx (trimD b))] W fun e W' => e = .returned (.bool (dnsL (trimD b))) ∧ Kp w0 m W') := fun W h => (dns_any (trimD b) (Nat.le_trans (trimD_len b) hb) m W h.2).mono fun e W' ⟨k1, k2⟩ => ⟨k1, h.next k2⟩
  generalize isMailL b = R at hR ⊢
  generalize mailL b = A at hR d1
  generalize dnsL (trimD b) = D at hR d3
  cases A with
  | true =>
    go_enter Tryz.func74, Tryz.ntmps74
    go_wp2_with fail
    refine (d1.out _ hm).mono ?_
    rintro e w1 ⟨rfl, K1⟩
    go_wp2
    go_ret
    exact ⟨by rw [hR.out]; rfl, K1⟩
  | false =>
    go_enter Tryz.func74, Tryz.ntmps74
    go_wp2_with fail
    refine (d1.out _ hm).mono ?_
    rintro e w1 ⟨rfl, K1⟩
    go_wp2_with fail
    refine (d2.out _).mono ?_
    rintro e w2 ⟨rfl, rfl⟩
    go_wp2_with fail
    refine (d3.out _ K1).mono ?_
    rintro e w3 ⟨rfl, K3⟩
    go_wp2
    go_ret
    exact ⟨by rw [hR.out]; rfl, K3⟩

/-- Does a mail address lie in a subtree of mail? -/
def hasMailL (b s : List UInt8) : Bool :=
  if (cutD 64 b).2.2 = true then ((tx (cutD 64 s).1).toList == (tx (cutD 64 b).1).toList) && matchL (cutD 64 b).2.1 (cutD 64 s).2.1
  else if Lib.hasPrefix b [46] = true then belB (cutD 64 s).2.1 (trimD b) && !matchL (trimD b) (cutD 64 s).2.1
  else matchL b (cutD 64 s).2.1
theorem cutPre_any (s : List UInt8) (w : World) :
    Calls Tryz.prog 84 #[.string (tx s), .string ⟨#[46]⟩] w fun e w' => e = .returned (.tuple #[.string (tx (trimD s)), .bool (Lib.hasPrefix s [46])]) ∧ w' = w := Tryz.strings_CutPrefix (tx s) (tx [46]) w

set_option maxRecDepth 100000 in
set_option maxHeartbeats 2000000 in
theorem hasMail_kp (w0 : World) (b s : List UInt8) (hb : b.length ≤ 1048576) (hs : s.length ≤ 1048576) (m : Int) (w : World) (hm : Kp w0 m w) :
    Calls Tryz.prog 75 #[.string (tx b), .string (tx s)] w fun e w' => e = .returned (.bool (hasMailL b s)) ∧ Kp w0 m w' := by
  have hR : Hid (hasMailL b s = if (cutD 64 b).2.2 = true then ((tx (cutD 64 s).1).toList == (tx (cutD 64 b).1).toList) && matchL (cutD 64 b).2.1 (cutD 64 s).2.1 else if Lib.hasPrefix b [46] = true then belB (cutD 64 s).2.1 (trimD b) && !matchL (trimD b) (cutD 64 s).2.1 else matchL b (cutD 64 s).2.1) := rfl
  have cs := (cutD_rest 64 s)
  have cb := (cutD_rest 64 b)
  have ct := trimD_len b
  have d1 : Hid (∀ W, Kp w0 m W → Calls Tryz.prog 82 #[.string (tx s), .string ⟨#[64]⟩] W fun e W' => e = .returned (.tuple #[.string (tx (cutD 64 s).1), .string (tx (cutD 64 s).2.1), .bool (cutD 64 s).2.2]) ∧ Kp w0 m W') := fun W h => (cut_any s 64 hs m W h.2).mono fun e W' ⟨k1, k2⟩ => ⟨k1, h.next k2⟩
  have d2 : Hid (∀ W, Kp w0 m W → Calls Tryz.prog 82 #[.string (tx b), .string ⟨#[64]⟩] W fun e W' => e = .returned (.tuple #[.string (tx (cutD 64 b).1), .string (tx (cutD 64 b).2.1), .bool (cutD 64 b).2.2]) ∧ Kp w0 m W') := fun W h => (cut_any b 64 hb m W h.2).mono fun e W' ⟨k1, k2⟩ => ⟨k1, h.next k2⟩
  have d3 := hide (fun W => cutPre_any b W)
  have m1 : Hid (∀ W, Kp w0 m W → Calls Tryz.prog 33 #[.string (tx (cutD 64 b).2.1), .string (tx (cutD 64 s).2.1)] W fun e W' => e = .returned (.bool (matchL (cutD 64 b).2.1 (cutD 64 s).2.1)) ∧ Kp w0 m W') := fun W h => (match_any _ _ (Nat.le_trans cb.1 hb) (Nat.le_trans cs.1 hs) m W h.2).mono fun e W' ⟨k1, k2⟩ => ⟨k1, h.next k2⟩
  have m2 : Hid (∀ W, Kp w0 m W → Calls Tryz.prog 33 #[.string (tx (trimD b)), .string (tx (cutD 64 s).2.1)] W fun e W' => e = .returned (.bool (matchL (trimD b) (cutD 64 s).2.1)) ∧ Kp w0 m W') := fun W h => (match_any _ _ (Nat.le_trans ct hb) (Nat.le_trans cs.1 hs) m W h.2).mono fun e W' ⟨k1, k2⟩ => ⟨k1, h.next k2⟩
  have m3 : Hid (∀ W, Kp w0 m W → Calls Tryz.prog 33 #[.string (tx b), .string (tx (cutD 64 s).2.1)] W fun e W' => e = .returned (.bool (matchL b (cutD 64 s).2.1)) ∧ Kp w0 m W') := fun W h => (match_any _ _ hb (Nat.le_trans cs.1 hs) m W h.2).mono fun e W' ⟨k1, k2⟩ => ⟨k1, h.next k2⟩
  have b1 := hide (below_kp w0 (cutD 64 s).2.1 (trimD b) (Nat.le_trans cs.1 hs) (Nat.le_trans ct hb) m)
  clear cs cb ct hb hs
  generalize hasMailL b s = R at hR ⊢
  generalize matchL (cutD 64 b).2.1 (cutD 64 s).2.1 = x1 at *
  generalize matchL (trimD b) (cutD 64 s).2.1 = x2 at *
  generalize matchL b (cutD 64 s).2.1 = x3 at *
  generalize belB (cutD 64 s).2.1 (trimD b) = x4 at *
  generalize Lib.hasPrefix b [46] = x5 at *
  generalize (cutD 64 b).2.2 = x6 at *
  generalize (cutD 64 s).2.2 = x7 at *
  generalize tx (cutD 64 s).1 = ls at *
  generalize tx (cutD 64 b).1 = lb at *
  generalize tx (cutD 64 s).2.1 = hs at *
  generalize tx (cutD 64 b).2.1 = hb at *
  generalize tx (trimD b) = td at *
  generalize tx s = S at *
  generalize tx b = B at *
  cases x6 with
  | true =>
    cases hq : (ls.toList == lb.toList) with
    | true =>
      have hF : Hid (R = x1) := by unfold Hid; rw [hR.out, hq]; simp
      clear hR
      go_enter Tryz.func75, Tryz.ntmps75
      go_wp2_with fail
      refine (d1.out _ hm).mono ?_
      rintro e w1 ⟨rfl, K1⟩
      go_wp2_with fail
      refine (d2.out _ K1).mono ?_
      rintro e w2 ⟨rfl, K2⟩
      go_wp2_with fail
      refine (m1.out _ K2).mono ?_
      rintro e w3 ⟨rfl, K3⟩
      go_wp2
      go_ret
      exact ⟨by rw [hF.out]; rfl, K3⟩
    | false =>
      have hF : Hid (R = false) := by unfold Hid; rw [hR.out, hq]; simp
      clear hR
      go_enter Tryz.func75, Tryz.ntmps75
      go_wp2_with fail
      refine (d1.out _ hm).mono ?_
      rintro e w1 ⟨rfl, K1⟩
      go_wp2_with fail
      refine (d2.out _ K1).mono ?_
      rintro e w2 ⟨rfl, K2⟩
      go_wp2
      go_ret
      exact ⟨by rw [hF.out]; rfl, K2⟩
  | false =>
    cases x5 with
    | true =>
      have hF : Hid (R = (x4 && !x2)) := by unfold Hid; rw [hR.out]; simp
      clear hR
      cases x4 with
      | false =>
        go_enter Tryz.func75, Tryz.ntmps75
        go_wp2_with fail
        refine (d1.out _ hm).mono ?_
        rintro e w1 ⟨rfl, K1⟩
        go_wp2_with fail
        refine (d2.out _ K1).mono ?_
        rintro e w2 ⟨rfl, K2⟩
        go_wp2_with fail
        refine (d3.out _).mono ?_
        rintro e w3 ⟨rfl, rfl⟩
        go_wp2_with fail
        refine (b1.out _ K2).mono ?_
        rintro e w4 ⟨rfl, K4⟩
        go_wp2
        go_ret
        exact ⟨by rw [hF.out]; rfl, K4⟩
      | true =>
        go_enter Tryz.func75, Tryz.ntmps75
        go_wp2_with fail
        refine (d1.out _ hm).mono ?_
        rintro e w1 ⟨rfl, K1⟩
        go_wp2_with fail
        refine (d2.out _ K1).mono ?_
        rintro e w2 ⟨rfl, K2⟩
        go_wp2_with fail
        refine (d3.out _).mono ?_
        rintro e w3 ⟨rfl, rfl⟩
        go_wp2_with fail
        refine (b1.out _ K2).mono ?_
        rintro e w4 ⟨rfl, K4⟩
        go_wp2_with fail
        refine (m2.out _ K4).mono ?_
        rintro e w5 ⟨rfl, K5⟩
        go_wp2
        go_ret
        exact ⟨by rw [hF.out]; rfl, K5⟩
    | false =>
      have hF : Hid (R = x3) := by unfold Hid; rw [hR.out]; simp
      clear hR
      go_enter Tryz.func75, Tryz.ntmps75
      go_wp2_with fail
      refine (d1.out _ hm).mono ?_
      rintro e w1 ⟨rfl, K1⟩
      go_wp2_with fail
      refine (d2.out _ K1).mono ?_
      rintro e w2 ⟨rfl, K2⟩
      go_wp2_with fail
      refine (d3.out _).mono ?_
      rintro e w3 ⟨rfl, rfl⟩
      go_wp2_with fail
      refine (m3.out _ K2).mono ?_
      rintro e w4 ⟨rfl, K4⟩
      go_wp2
      go_ret
      exact ⟨by rw [hF.out]; rfl, K4⟩

end Go.Proofs.YtklchpdpooikdaaGreatDoor
