/-
  within.All, meets, Some: what a rule's questions answer is handed in.
  The statements' own calls names and works answer true.
  within's questions of mail: isMail, hasMail.
  within.bit: does a bit of bytes stand?
  within's halves: a network's address and its mask.
  within's questions of networks: isNet.
  within's questions of networks: hasAddress.
  within.meets: what holds answers is handed in.
-/
import Derived.Test.YtklchpdpooikdaaGreatDoorYWiHMayToWiAll
import Derived.Test.YtklchpdpooikdaaGreatDoorYHoLToBoxSt
import Derived.RegionTactic
namespace Go.Proofs.YtklchpdpooikdaaGreatDoor
open Go.RowKit Go.Shelf Go.IntWalk

set_option maxRecDepth 100000 in
set_option maxHeartbeats 2000000 in
theorem all_kp (w0 : World) (kind : Int) (b : List UInt8) (gk : Int) (s : List UInt8) (A Y R : Bool) (m : Int) (w : World) (hm : Kp w0 m w)
    (h1 : ∀ W, Kp w0 m W → Calls Tryz.prog 10 #[.agg #[.int .i64 kind, .string (tx b)]] W fun e W' => e = .returned (.bool A) ∧ Below W.heap.size W W' ∧ Kp w0 m W')
    (h2 : A = true → ∀ W, Kp w0 m W → Calls Tryz.prog 13 #[.agg #[.int .i64 gk, .string (tx s)]] W fun e W' => e = .returned (.bool Y) ∧ Below W.heap.size W W' ∧ Kp w0 m W')
    (h3 : A = true → Y = true → ∀ W, Kp w0 m W → Calls Tryz.prog 20 #[.agg #[.int .i64 kind, .string (tx b)], .agg #[.int .i64 gk, .string (tx s)]] W fun e W' => e = .returned (.bool R) ∧ Kp w0 m W') :
    Calls Tryz.prog 14 #[.agg #[.int .i64 kind, .string (tx b)], .agg #[.int .i64 gk, .string (tx s)]] w fun e w' => e = .returned (.bool (A && (Y && R))) ∧ Kp w0 m w' := by
  have BX := (nbelowW w (boxS kind b)).trans ((nbelowW (w.alloc (boxS kind b)) (boxG gk s)).mono (by simp))
  have T0 := two_new w kind gk b s
  have KX := hide (hm.next BX)
  unfold boxS boxG at T0 KX
  clear BX
  have D1 := hide h1
  cases A with
  | false =>
    clear h1 h2 h3
    go_enter Tryz.func14, Tryz.ntmps14
    have s0 := T0.s0
    have s1 := T0.s1
    go_wp2_with fail
    refine (D1.out _ KX.out).mono ?_
    rintro e w1 ⟨rfl, B1, K1⟩
    have T1 := T0.below B1
    clear T0 s0 s1 KX B1
    go_wp2
    go_ret
    exact ⟨by simp, K1⟩
  | true =>
    have D2 := hide (h2 rfl)
    cases Y with
    | false =>
      clear h1 h2 h3
      go_enter Tryz.func14, Tryz.ntmps14
      have s0 := T0.s0
      have s1 := T0.s1
      go_wp2_with fail
      refine (D1.out _ KX.out).mono ?_
      rintro e w1 ⟨rfl, B1, K1⟩
      have T1 := T0.below B1
      clear T0 s0 s1 KX B1
      have r0 := T1.g0
      have r1 := T1.g1
      go_wp2_with fail
      refine (D2.out _ K1).mono ?_
      rintro e w2 ⟨rfl, B2, K2⟩
      have T2 := T1.below B2
      clear T1 r0 r1 K1 B2
      go_wp2
      go_ret
      exact ⟨by simp, K2⟩
    | true =>
      have D3 := hide (h3 rfl rfl)
      clear h1 h2 h3
      go_enter Tryz.func14, Tryz.ntmps14
      have s0 := T0.s0
      have s1 := T0.s1
      go_wp2_with fail
      refine (D1.out _ KX.out).mono ?_
      rintro e w1 ⟨rfl, B1, K1⟩
      have T1 := T0.below B1
      clear T0 s0 s1 KX B1
      have r0 := T1.g0
      have r1 := T1.g1
      go_wp2_with fail
      refine (D2.out _ K1).mono ?_
      rintro e w2 ⟨rfl, B2, K2⟩
      have T2 := T1.below B2
      clear T1 r0 r1 K1 B2
      have r0 := T2.s0
      have r1 := T2.s1
      have r2 := T2.g0
      have r3 := T2.g1
      go_wp2_with fail
      refine (D3.out _ K2).mono ?_
      rintro e w3 ⟨rfl, K3⟩
      go_wp2
      go_ret
      exact ⟨by simp, K3⟩
end Go.Proofs.YtklchpdpooikdaaGreatDoor

namespace Go.Proofs.YtklchpdpooikdaaGreatDoor
open Go.RowKit Go.Shelf Go.IntWalk

def trimW (s : List UInt8) : List UInt8 := Lib.trimPrefix s [42, 46]

set_option maxRecDepth 100000 in
theorem isHost_kp (w0 : World) (b : List UInt8) (hb : b.length ≤ 1048576) (m : Int) (w : World) (hm : Kp w0 m w) :
    Calls Tryz.prog 76 #[.string (tx b)] w fun e w' => e = .returned (.bool (dnsL b)) ∧ Kp w0 m w' := by
  have d1 := hide (dns_any b hb m w hm.2)
  have HM := hide hm
  clear hm
  go_enter Tryz.func76, Tryz.ntmps76
  go_wp2_with fail
  refine d1.out.mono ?_
  rintro e w1 ⟨rfl, B1⟩
  go_wp2
  go_ret
  exact ⟨rfl, HM.out.next B1⟩

theorem trim_any (s : List UInt8) (w : World) :
    Calls Tryz.prog 109 #[.string (tx s), .string ⟨#[42, 46]⟩] w fun e w' => e = .returned (.string (tx (trimW s))) ∧ w' = w := by
  exact Tryz.strings_TrimPrefix (tx s) (tx [42, 46]) w
theorem trim_len (s : List UInt8) : (trimW s).length ≤ s.length := by
  unfold trimW Lib.trimPrefix
  split
  · rw [List.length_drop]; omega
  · exact Nat.le_refl _

set_option maxRecDepth 100000 in
theorem hasHost_kp (w0 : World) (b s : List UInt8) (hb : b.length ≤ 1048576) (hs : s.length ≤ 1048576) (m : Int) (w : World) (hm : Kp w0 m w) :
    Calls Tryz.prog 77 #[.string (tx b), .string (tx s)] w fun e w' => e = .returned (.bool (belB (trimW s) b)) ∧ Kp w0 m w' := by
  have d1 := hide (trim_any s w)
  have d2 := hide (below_kp w0 (trimW s) b (Nat.le_trans (trim_len s) hs) hb m w hm)
  go_enter Tryz.func77, Tryz.ntmps77
  go_wp2_with fail
  refine d1.out.mono ?_
  rintro e w1 ⟨rfl, rfl⟩
  go_wp2_with fail
  refine d2.out.mono ?_
  rintro e w2 ⟨rfl, K2⟩
  go_wp2
  go_ret
  exact ⟨rfl, K2⟩

set_option maxRecDepth 100000 in
theorem names14_any (w : World) : Calls Tryz.prog 29 #[] w fun e w' => e = .returned (.bool true) ∧ w' = w := by
  go_enter Tryz.func29, Tryz.ntmps29
  go_wp2
  go_ret
  exact ⟨rfl, rfl⟩

theorem all_one (w0 : World) (m : Int) (w : World) (hm : Kp w0 m w) :
    Calls Tryz.prog 14 #[.agg #[.int .i64 2, .string ⟨#[97, 46, 98]⟩], .agg #[.int .i64 2, .string ⟨#[120, 46, 97, 46, 98]⟩]] w fun e w' => e = .returned (.bool true) ∧ Kp w0 m w' := by
  have e1 : dnsL [97, 46, 98] = true := by decide
  have e2 : hmay 2 [120, 46, 97, 46, 98] false = true := by decide
  have e3 : belB (trimW [120, 46, 97, 46, 98]) [97, 46, 98] = true := by decide
  have e4 : rAt 2 = 1 := rfl
  have h := all_kp w0 2 [97, 46, 98] 2 [120, 46, 97, 46, 98] true true true m w hm
    (fun W hW => by
      have h9 := wmay_kp W 2 [97, 46, 98] true m (fun _ V hV => by rw [e4]; have := isHost_kp W [97, 46, 98] (by decide) m V hV; rw [e1] at this; exact this) W (Kp.refl hW.2)
      exact h9.mono fun e W' ⟨k1, k2⟩ => ⟨k1, k2.1, hW.own k2⟩)
    (fun _ W hW => by
      have h9 := hmay_kp W 2 (by decide) [120, 46, 97, 46, 98] (by decide) false m (fun h => by cases h) W (Kp.refl hW.2)
      rw [e2] at h9
      exact h9.mono fun e W' ⟨k1, k2⟩ => ⟨k1, k2.1, hW.own k2⟩)
    (fun _ _ W hW => by
      have h9 := holds_kp W 2 [97, 46, 98] 2 [120, 46, 97, 46, 98] true m (by decide) (fun _ V hV => by rw [e4]; have := hasHost_kp W [97, 46, 98] [120, 46, 97, 46, 98] (by decide) (by decide) m V hV; rw [e3] at this; exact this) W (Kp.refl hW.2)
      exact h9.mono fun e W' ⟨k1, k2⟩ => ⟨k1, hW.own k2⟩)
  exact h

set_option maxRecDepth 100000 in
set_option maxHeartbeats 1000000 in
theorem works14_kp (w0 : World) (m : Int) (w : World) (hm : Kp w0 m w) :
    Calls Tryz.prog 9 #[] w fun e w' => e = .returned (.bool true) ∧ Kp w0 m w' := by
  have e1 : belB [120, 46, 97, 46, 98] [97, 46, 98] = true := by decide
  have d1 : Hid (∀ W, Kp w0 m W → Calls Tryz.prog 28 #[.string ⟨#[120, 46, 97, 46, 98]⟩, .string ⟨#[97, 46, 98]⟩] W fun e W' => e = .returned (.bool true) ∧ Kp w0 m W') := fun W h => by have := below_kp w0 [120, 46, 97, 46, 98] [97, 46, 98] (by decide) (by decide) m W h; rw [e1] at this; exact this
  have d2 := hide (all_one w0 m)
  have HM := hide hm
  clear e1 hm
  go_enter Tryz.func9, Tryz.ntmps9
  go_wp2_with fail
  refine (d1.out _ HM.out).mono ?_
  rintro e w1 ⟨rfl, K1⟩
  go_wp2_with fail
  refine (d2.out _ K1).mono ?_
  rintro e w2 ⟨rfl, K2⟩
  go_wp2_with fail
  refine (names14_any _).mono ?_
  rintro e w3 ⟨rfl, rfl⟩
  go_wp2
  go_ret
  exact ⟨rfl, K2⟩

end Go.Proofs.YtklchpdpooikdaaGreatDoor

namespace Go.Proofs.YtklchpdpooikdaaGreatDoor
open Go.RowKit Go.Shelf Go.IntWalk

def trimD (s : List UInt8) : List UInt8 := Lib.trimPrefix s [46]
theorem trimD_len (s : List UInt8) : (trimD s).length ≤ s.length := by
  unfold trimD Lib.trimPrefix
  split
  · rw [List.length_drop]; omega
  · exact Nat.le_refl _
theorem trimD_any (s : List UInt8) (w : World) :
    Calls Tryz.prog 109 #[.string (tx s), .string ⟨#[46]⟩] w fun e w' => e = .returned (.string (tx (trimD s))) ∧ w' = w := Tryz.strings_TrimPrefix (tx s) (tx [46]) w

def isMailL (b : List UInt8) : Bool := mailL b || dnsL (trimD b)
set_option maxRecDepth 100000 in
theorem isMail_kp (w0 : World) (b : List UInt8) (hb : b.length ≤ 1048576) (m : Int) (w : World) (hm : Kp w0 m w) :
    Calls Tryz.prog 74 #[.string (tx b)] w fun e w' => e = .returned (.bool (isMailL b)) ∧ Kp w0 m w' := by
  have hR : Hid (isMailL b = (mailL b || dnsL (trimD b))) := rfl
  have d1 : Hid (∀ W, Kp w0 m W → Calls Tryz.prog 47 #[.string (tx b)] W fun e W' => e = .returned (.bool (mailL b)) ∧ Kp w0 m W') := fun W h => (email_any b hb m W h.2).mono fun e W' ⟨k1, k2⟩ => ⟨k1, h.next k2⟩
  have d2 := hide (fun W => trimD_any b W)
  have d3 : Hid (∀ W, Kp w0 m W → Calls Tryz.prog 43 #[.string (tx (trimD b))] W fun e W' => e = .returned (.bool (dnsL (trimD b))) ∧ Kp w0 m W') := fun W h => (dns_any (trimD b) (Nat.le_trans (trimD_len b) hb) m W h.2).mono fun e W' ⟨k1, k2⟩ => ⟨k1, h.next k2⟩
  generalize isMailL b = R at hR ⊢
  generalize mailL b = A at hR d1
  generalize dnsL (trimD b) = D at hR d3
  cases A with
  | true =>
    go_enter Tryz.func74, Tryz.ntmps74
    go_wp2_with fail
    refine (d1.out _ hm).mono ?_
    rintro e w1 ⟨rfl, K1⟩
    go_wp2
    go_ret
    exact ⟨by rw [hR.out]; rfl, K1⟩
  | false =>
    go_enter Tryz.func74, Tryz.ntmps74
    go_wp2_with fail
    refine (d1.out _ hm).mono ?_
    rintro e w1 ⟨rfl, K1⟩
    go_wp2_with fail
    refine (d2.out _).mono ?_
    rintro e w2 ⟨rfl, rfl⟩
    go_wp2_with fail
    refine (d3.out _ K1).mono ?_
    rintro e w3 ⟨rfl, K3⟩
    go_wp2
    go_ret
    exact ⟨by rw [hR.out]; rfl, K3⟩

def hasMailL (b s : List UInt8) : Bool :=
  if (cutD 64 b).2.2 = true then ((tx (cutD 64 s).1).toList == (tx (cutD 64 b).1).toList) && matchL (cutD 64 b).2.1 (cutD 64 s).2.1
  else if Lib.hasPrefix b [46] = true then belB (cutD 64 s).2.1 (trimD b) && !matchL (trimD b) (cutD 64 s).2.1
  else matchL b (cutD 64 s).2.1
theorem cutPre_any (s : List UInt8) (w : World) :
    Calls Tryz.prog 84 #[.string (tx s), .string ⟨#[46]⟩] w fun e w' => e = .returned (.tuple #[.string (tx (trimD s)), .bool (Lib.hasPrefix s [46])]) ∧ w' = w := Tryz.strings_CutPrefix (tx s) (tx [46]) w

set_option maxRecDepth 100000 in
set_option maxHeartbeats 2000000 in
theorem hasMail_kp (w0 : World) (b s : List UInt8) (hb : b.length ≤ 1048576) (hs : s.length ≤ 1048576) (m : Int) (w : World) (hm : Kp w0 m w) :
    Calls Tryz.prog 75 #[.string (tx b), .string (tx s)] w fun e w' => e = .returned (.bool (hasMailL b s)) ∧ Kp w0 m w' := by
  have hR : Hid (hasMailL b s = if (cutD 64 b).2.2 = true then ((tx (cutD 64 s).1).toList == (tx (cutD 64 b).1).toList) && matchL (cutD 64 b).2.1 (cutD 64 s).2.1 else if Lib.hasPrefix b [46] = true then belB (cutD 64 s).2.1 (trimD b) && !matchL (trimD b) (cutD 64 s).2.1 else matchL b (cutD 64 s).2.1) := rfl
  have cs := (cutD_rest 64 s)
  have cb := (cutD_rest 64 b)
  have ct := trimD_len b
  have d1 : Hid (∀ W, Kp w0 m W → Calls Tryz.prog 82 #[.string (tx s), .string ⟨#[64]⟩] W fun e W' => e = .returned (.tuple #[.string (tx (cutD 64 s).1), .string (tx (cutD 64 s).2.1), .bool (cutD 64 s).2.2]) ∧ Kp w0 m W') := fun W h => (cut_any s 64 hs m W h.2).mono fun e W' ⟨k1, k2⟩ => ⟨k1, h.next k2⟩
  have d2 : Hid (∀ W, Kp w0 m W → Calls Tryz.prog 82 #[.string (tx b), .string ⟨#[64]⟩] W fun e W' => e = .returned (.tuple #[.string (tx (cutD 64 b).1), .string (tx (cutD 64 b).2.1), .bool (cutD 64 b).2.2]) ∧ Kp w0 m W') := fun W h => (cut_any b 64 hb m W h.2).mono fun e W' ⟨k1, k2⟩ => ⟨k1, h.next k2⟩
  have d3 := hide (fun W => cutPre_any b W)
  have m1 : Hid (∀ W, Kp w0 m W → Calls Tryz.prog 33 #[.string (tx (cutD 64 b).2.1), .string (tx (cutD 64 s).2.1)] W fun e W' => e = .returned (.bool (matchL (cutD 64 b).2.1 (cutD 64 s).2.1)) ∧ Kp w0 m W') := fun W h => (match_any _ _ (Nat.le_trans cb.1 hb) (Nat.le_trans cs.1 hs) m W h.2).mono fun e W' ⟨k1, k2⟩ => ⟨k1, h.next k2⟩
  have m2 : Hid (∀ W, Kp w0 m W → Calls Tryz.prog 33 #[.string (tx (trimD b)), .string (tx (cutD 64 s).2.1)] W fun e W' => e = .returned (.bool (matchL (trimD b) (cutD 64 s).2.1)) ∧ Kp w0 m W') := fun W h => (match_any _ _ (Nat.le_trans ct hb) (Nat.le_trans cs.1 hs) m W h.2).mono fun e W' ⟨k1, k2⟩ => ⟨k1, h.next k2⟩
  have m3 : Hid (∀ W, Kp w0 m W → Calls Tryz.prog 33 #[.string (tx b), .string (tx (cutD 64 s).2.1)] W fun e W' => e = .returned (.bool (matchL b (cutD 64 s).2.1)) ∧ Kp w0 m W') := fun W h => (match_any _ _ hb (Nat.le_trans cs.1 hs) m W h.2).mono fun e W' ⟨k1, k2⟩ => ⟨k1, h.next k2⟩
  have b1 := hide (below_kp w0 (cutD 64 s).2.1 (trimD b) (Nat.le_trans cs.1 hs) (Nat.le_trans ct hb) m)
  clear cs cb ct hb hs
  generalize hasMailL b s = R at hR ⊢
  generalize matchL (cutD 64 b).2.1 (cutD 64 s).2.1 = x1 at *
  generalize matchL (trimD b) (cutD 64 s).2.1 = x2 at *
  generalize matchL b (cutD 64 s).2.1 = x3 at *
  generalize belB (cutD 64 s).2.1 (trimD b) = x4 at *
  generalize Lib.hasPrefix b [46] = x5 at *
  generalize (cutD 64 b).2.2 = x6 at *
  generalize (cutD 64 s).2.2 = x7 at *
  generalize tx (cutD 64 s).1 = ls at *
  generalize tx (cutD 64 b).1 = lb at *
  generalize tx (cutD 64 s).2.1 = hs at *
  generalize tx (cutD 64 b).2.1 = hb at *
  generalize tx (trimD b) = td at *
  generalize tx s = S at *
  generalize tx b = B at *
  cases x6 with
  | true =>
    cases hq : (ls.toList == lb.toList) with
    | true =>
      have hF : Hid (R = x1) := by unfold Hid; rw [hR.out, hq]; simp
      clear hR
      go_enter Tryz.func75, Tryz.ntmps75
      go_wp2_with fail
      refine (d1.out _ hm).mono ?_
      rintro e w1 ⟨rfl, K1⟩
      go_wp2_with fail
      refine (d2.out _ K1).mono ?_
      rintro e w2 ⟨rfl, K2⟩
      go_wp2_with fail
      refine (m1.out _ K2).mono ?_
      rintro e w3 ⟨rfl, K3⟩
      go_wp2
      go_ret
      exact ⟨by rw [hF.out]; rfl, K3⟩
    | false =>
      have hF : Hid (R = false) := by unfold Hid; rw [hR.out, hq]; simp
      clear hR
      go_enter Tryz.func75, Tryz.ntmps75
      go_wp2_with fail
      refine (d1.out _ hm).mono ?_
      rintro e w1 ⟨rfl, K1⟩
      go_wp2_with fail
      refine (d2.out _ K1).mono ?_
      rintro e w2 ⟨rfl, K2⟩
      go_wp2
      go_ret
      exact ⟨by rw [hF.out]; rfl, K2⟩
  | false =>
    cases x5 with
    | true =>
      have hF : Hid (R = (x4 && !x2)) := by unfold Hid; rw [hR.out]; simp
      clear hR
      cases x4 with
      | false =>
        go_enter Tryz.func75, Tryz.ntmps75
        go_wp2_with fail
        refine (d1.out _ hm).mono ?_
        rintro e w1 ⟨rfl, K1⟩
        go_wp2_with fail
        refine (d2.out _ K1).mono ?_
        rintro e w2 ⟨rfl, K2⟩
        go_wp2_with fail
        refine (d3.out _).mono ?_
        rintro e w3 ⟨rfl, rfl⟩
        go_wp2_with fail
        refine (b1.out _ K2).mono ?_
        rintro e w4 ⟨rfl, K4⟩
        go_wp2
        go_ret
        exact ⟨by rw [hF.out]; rfl, K4⟩
      | true =>
        go_enter Tryz.func75, Tryz.ntmps75
        go_wp2_with fail
        refine (d1.out _ hm).mono ?_
        rintro e w1 ⟨rfl, K1⟩
        go_wp2_with fail
        refine (d2.out _ K1).mono ?_
        rintro e w2 ⟨rfl, K2⟩
        go_wp2_with fail
        refine (d3.out _).mono ?_
        rintro e w3 ⟨rfl, rfl⟩
        go_wp2_with fail
        refine (b1.out _ K2).mono ?_
        rintro e w4 ⟨rfl, K4⟩
        go_wp2_with fail
        refine (m2.out _ K4).mono ?_
        rintro e w5 ⟨rfl, K5⟩
        go_wp2
        go_ret
        exact ⟨by rw [hF.out]; rfl, K5⟩
    | false =>
      have hF : Hid (R = x3) := by unfold Hid; rw [hR.out]; simp
      clear hR
      go_enter Tryz.func75, Tryz.ntmps75
      go_wp2_with fail
      refine (d1.out _ hm).mono ?_
      rintro e w1 ⟨rfl, K1⟩
      go_wp2_with fail
      refine (d2.out _ K1).mono ?_
      rintro e w2 ⟨rfl, K2⟩
      go_wp2_with fail
      refine (d3.out _).mono ?_
      rintro e w3 ⟨rfl, rfl⟩
      go_wp2_with fail
      refine (m3.out _ K2).mono ?_
      rintro e w4 ⟨rfl, K4⟩
      go_wp2
      go_ret
      exact ⟨by rw [hF.out]; rfl, K4⟩

end Go.Proofs.YtklchpdpooikdaaGreatDoor

namespace Go.Proofs.YtklchpdpooikdaaGreatDoor
open Go.RowKit Go.Shelf Go.IntWalk

def bitB (l : List UInt8) (i : Nat) : Bool := decide ((l.getD (i / 8) 0).toNat / 2 ^ (7 - i % 8) % 2 = 1)

set_option maxRecDepth 100000 in
theorem and_one (n : Nat) (h : n < 256) : bits .and .u8 (n : Int) 1 = ((n % 2 : Nat) : Int) := (show ∀ k : Fin 256, bits .and .u8 ((k.val : Nat) : Int) 1 = ((k.val % 2 : Nat) : Int) by decide +kernel) ⟨n, h⟩
theorem get_tx (l : List UInt8) (k : Nat) (h : k < (tx l).size) : (tx l)[k]'h = l.getD k 0 := by
  have h2 : k < l.length := by rw [tx_size] at h; exact h
  rw [List.getD, List.getElem?_eq_getElem h2]
  rfl
theorem bit_fact (l : List UInt8) (i : Nat) (h : i / 8 < (tx l).size) : (bits .and .u8 ((((tx l)[i / 8]'h).toNat : Int) / 2 ^ (7 - i % 8)) 1 == 1) = bitB l i := by
  rw [get_tx]
  unfold bitB
  generalize hx : (l.getD (i / 8) 0).toNat = x
  have hx2 : x < 256 := by rw [← hx]; exact (l.getD (i / 8) 0).toNat_lt
  have e : ((x : Int) / 2 ^ (7 - i % 8)) = ((x / 2 ^ (7 - i % 8) : Nat) : Int) := by push_cast; rfl
  have hle : x / 2 ^ (7 - i % 8) ≤ x := Nat.div_le_self _ _
  rw [e, and_one _ (by omega)]
  generalize x / 2 ^ (7 - i % 8) = y
  rw [Bool.eq_iff_iff]
  simp
  omega
set_option maxRecDepth 100000 in
theorem bit_any (l : List UInt8) (i : Nat) (hi : i < 8 * l.length) (hl : l.length ≤ 1048576) (w : World) :
    Calls Tryz.prog 112 #[.string (tx l), .int .i64 i] w fun e w' => e = .returned (.bool (bitB l i)) ∧ w' = w := by
  have hz := tx_size l
  have h1 : i / 8 < (tx l).size := by rw [hz]; omega
  have h2 : ((i / 8 : Nat) : Int) < ((tx l).size : Int) := by omega
  have h3 : (i : Int) ≤ 8388608 := by omega
  go_enter Tryz.func112, Tryz.ntmps112
  go_wp2
  go_ret
  exact ⟨by rw [← bit_fact l i h1]; rfl, rfl⟩

end Go.Proofs.YtklchpdpooikdaaGreatDoor

namespace Go.Proofs.YtklchpdpooikdaaGreatDoor
open Go.RowKit Go.Shelf Go.IntWalk

theorem extract_lo (l : List UInt8) (h : Nat) : (tx l).extract 0 h = tx (l.take h) := by
  rw [cut_textH]
  unfold cutH
  simp [tx]
theorem extract_hi (l : List UInt8) (h : Nat) : (tx l).extract h l.length = tx (l.drop h) := by
  rw [cut_textH]
  unfold cutH
  simp [tx]
set_option maxRecDepth 100000 in
set_option maxHeartbeats 1000000 in
theorem halves_any (l : List UInt8) (hl : l.length ≤ 1048576) (w : World) :
    Calls Tryz.prog 111 #[.string (tx l)] w fun e w' => e = .returned (.tuple #[.string (tx (l.take (l.length / 2))), .string (tx (l.drop (l.length / 2)))]) ∧ Below w.heap.size w w' := by
  have hz := tx_size l
  have h2 : l.length / 2 ≤ (tx l).size := by rw [hz]; omega
  have h2I : ((l.length / 2 : Nat) : Int) ≤ ((tx l).size : Int) := by omega
  have h3 : ((tx l).size : Int) = (l.length : Int) := by rw [hz]
  go_enter Tryz.func111, Tryz.ntmps111
  go_wp2_with fail
  go_region
  all_goals
    go_wp2
    rw [extract_lo, extract_hi]
    refine bodyPost_ret (v := .tuple #[.string (tx (l.take (l.length / 2))), .string (tx (l.drop (l.length / 2)))]) (by simp [results, Tryz.results111, go_sem]) rfl ⟨rfl, (Below.refl _ w).drew⟩

end Go.Proofs.YtklchpdpooikdaaGreatDoor

namespace Go.Proofs.YtklchpdpooikdaaGreatDoor
open Go.RowKit Go.Shelf Go.IntWalk

def endB (mask : List UInt8) (i : Nat) : Bool := decide (0 < i) && !bitB mask (i - 1)
def okB (addr mask : List UInt8) (i : Nat) : Bool := !(bitB mask i && endB mask i) && !(!bitB mask i && bitB addr i)
def netG (addr mask : List UInt8) : Nat → Nat → Bool
  | _, 0 => true
  | i, n + 1 => okB addr mask i && netG addr mask (i + 1) n
def isNetL (b : List UInt8) : Bool := ipL (b.take (b.length / 2)) && (decide ((b.drop (b.length / 2)).length = (b.take (b.length / 2)).length) && netG (b.take (b.length / 2)) (b.drop (b.length / 2)) 0 (8 * (b.drop (b.length / 2)).length))

set_option maxRecDepth 100000 in
set_option maxHeartbeats 4000000 in
theorem isNet_any (b : List UInt8) (hb : b.length ≤ 1048576) (w : World) :
    Calls Tryz.prog 80 #[.string (tx b)] w fun e w' => e = .returned (.bool (isNetL b)) ∧ Below w.heap.size w w' := by
  have hH := hide (fun W => halves_any b hb W)
  have hR : Hid (isNetL b = (ipL (b.take (b.length / 2)) && (decide ((b.drop (b.length / 2)).length = (b.take (b.length / 2)).length) && netG (b.take (b.length / 2)) (b.drop (b.length / 2)) 0 (8 * (b.drop (b.length / 2)).length)))) := rfl
  have hla : (b.take (b.length / 2)).length ≤ 1048576 := by rw [List.length_take]; omega
  have hlm : (b.drop (b.length / 2)).length ≤ 1048576 := by rw [List.length_drop]; omega
  generalize isNetL b = R at hR ⊢
  generalize b.take (b.length / 2) = A at *
  generalize b.drop (b.length / 2) = M at *
  have hi := hide (fun W => ip_any A W)
  have zA := tx_size A
  have zM := tx_size M
  cases hq : ipL A with
  | false =>
    have hF : Hid (R = false) := by unfold Hid; rw [hR.out, hq]; rfl
    rw [hq] at hi
    go_enter Tryz.func80, Tryz.ntmps80
    go_wp2_with fail
    refine (hH.out _).mono ?_
    rintro e w1 ⟨rfl, B1⟩
    go_wp2_with fail
    refine (hi.out _).mono ?_
    rintro e w2 ⟨rfl, rfl⟩
    go_wp2
    go_ret
    exact ⟨by rw [hF.out]; rfl, B1⟩
  | true =>
    rw [hq] at hi
    by_cases hl : M.length = A.length
    · have hR2 : Hid (R = netG A M 0 (8 * M.length)) := by unfold Hid; rw [hR.out, hq, decide_eq_true hl]; rfl
      have hlI : ((tx M).size : Int) = ((tx A).size : Int) := by omega
      clear hR
      go_enter Tryz.func80, Tryz.ntmps80
      go_wp2_with fail
      refine (hH.out _).mono ?_
      rintro e w1 ⟨rfl, B1⟩
      go_wp2_with fail
      refine (hi.out _).mono ?_
      rintro e w2 ⟨rfl, hw⟩
      have hw2 := hw.symm
      subst hw2
      have HB := hide B1
      clear hw B1 hi hH hlI
      go_wp2
      go_loopw [5, 25] (fun ev v wr => ∃ (k : Nat) (ef : Bool), ev = .bool ef ∧ v = .int .i64 k ∧ k ≤ 8 * M.length ∧ Hid (R = netG A M k (8 * M.length - k)) ∧ Hid (ef = endB M k) ∧ Hid (Below w.heap.size w wr)) (fun _ v _ => 8 * M.length - (intOf v).toNat)
      case atStart => exact ⟨0, false, rfl, rfl, Nat.zero_le _, hR2.out, rfl, HB.out⟩
      case round =>
        obtain ⟨k, ef, rfl, rfl, hk, hE, hEF, hQ⟩ := hrel
        by_cases hlt : k < 8 * M.length
        · have ltI : (k : Int) < 8 * (M.length : Int) := by omega
          have hst : netG A M k (8 * M.length - k) = (okB A M k && netG A M (k + 1) (8 * M.length - (k + 1))) := by
            rw [show 8 * M.length - k = (8 * M.length - (k + 1)) + 1 by omega, netG]
          have d1 := hide (fun W => bit_any M k hlt hlm W)
          have d2 := hide (fun W => bit_any A k (by omega) hla W)
          have hN : endB M (k + 1) = !bitB M k := by unfold endB; simp
          have hOk : okB A M k = (!(bitB M k && ef) && !(!bitB M k && bitB A k)) := by unfold okB; rw [← hEF.out]
          generalize bitB M k = mk at d1 hN hOk
          generalize bitB A k = ak at d2 hOk
          rw [hst, hOk] at hE
          have HE := hide hE.out
          have HN := hide hN
          clear hst hOk hE hN hEF
          cases mk with
          | true =>
            cases ef with
            | true =>
              have hF : Hid (R = false) := by unfold Hid; rw [HE.out]; rfl
              go_wp2_with fail
              refine (d1.out _).mono ?_
              rintro e w1 ⟨rfl, hw1⟩
              have hw2 := hw1.symm
              subst hw2
              clear hw1
              go_wp2
              go_ret
              exact ⟨by rw [hF.out]; rfl, hQ.out⟩
            | false =>
              have hE2 : Hid (R = netG A M (k + 1) (8 * M.length - (k + 1))) := by unfold Hid; rw [HE.out]; simp
              have hN2 : Hid (false = endB M (k + 1)) := by unfold Hid; rw [HN.out]; rfl
              go_wp2_with fail
              refine (d1.out _).mono ?_
              rintro e w1 ⟨rfl, hw1⟩
              have hw2 := hw1.symm
              subst hw2
              clear hw1
              go_wp2_with fail
              refine (d1.out _).mono ?_
              rintro e w1 ⟨rfl, hw1⟩
              have hw2 := hw1.symm
              subst hw2
              clear hw1
              go_wp2_with fail
              refine (d1.out _).mono ?_
              rintro e w1 ⟨rfl, hw1⟩
              have hw2 := hw1.symm
              subst hw2
              clear hw1
              go_wp2
              go_roundw
              case rel => exact ⟨k + 1, false, rfl, by simp, by omega, hE2, hN2, hQ⟩
              case measure => simp [intOf]; omega
          | false =>
            cases ak with
            | true =>
              have hF : Hid (R = false) := by unfold Hid; rw [HE.out]; simp
              go_wp2_with fail
              refine (d1.out _).mono ?_
              rintro e w1 ⟨rfl, hw1⟩
              have hw2 := hw1.symm
              subst hw2
              clear hw1
              go_wp2_with fail
              refine (d1.out _).mono ?_
              rintro e w1 ⟨rfl, hw1⟩
              have hw2 := hw1.symm
              subst hw2
              clear hw1
              go_wp2_with fail
              refine (d2.out _).mono ?_
              rintro e w1 ⟨rfl, hw1⟩
              have hw2 := hw1.symm
              subst hw2
              clear hw1
              go_wp2
              go_ret
              exact ⟨by rw [hF.out]; rfl, hQ.out⟩
            | false =>
              have hE2 : Hid (R = netG A M (k + 1) (8 * M.length - (k + 1))) := by unfold Hid; rw [HE.out]; simp
              have hN2 : Hid (true = endB M (k + 1)) := by unfold Hid; rw [HN.out]; rfl
              go_wp2_with fail
              refine (d1.out _).mono ?_
              rintro e w1 ⟨rfl, hw1⟩
              have hw2 := hw1.symm
              subst hw2
              clear hw1
              go_wp2_with fail
              refine (d1.out _).mono ?_
              rintro e w1 ⟨rfl, hw1⟩
              have hw2 := hw1.symm
              subst hw2
              clear hw1
              go_wp2_with fail
              refine (d2.out _).mono ?_
              rintro e w1 ⟨rfl, hw1⟩
              have hw2 := hw1.symm
              subst hw2
              clear hw1
              go_wp2_with fail
              refine (d1.out _).mono ?_
              rintro e w1 ⟨rfl, hw1⟩
              have hw2 := hw1.symm
              subst hw2
              clear hw1
              go_wp2
              go_roundw
              case rel => exact ⟨k + 1, true, rfl, by simp, by omega, hE2, hN2, hQ⟩
              case measure => simp [intOf]; omega
        · have ltI : ¬ (k : Int) < 8 * (M.length : Int) := by omega
          have hF : Hid (R = true) := by unfold Hid; rw [hE.out, show 8 * M.length - k = 0 by omega, netG]
          go_wp2
          go_ret
          exact ⟨by rw [hF.out]; rfl, hQ.out⟩
    · have hF : Hid (R = false) := by unfold Hid; rw [hR.out, hq, decide_eq_false hl]; rfl
      have hlI : ¬ ((tx M).size : Int) = ((tx A).size : Int) := by omega
      go_enter Tryz.func80, Tryz.ntmps80
      go_wp2_with fail
      refine (hH.out _).mono ?_
      rintro e w1 ⟨rfl, B1⟩
      go_wp2_with fail
      refine (hi.out _).mono ?_
      rintro e w2 ⟨rfl, rfl⟩
      go_wp2
      go_ret
      exact ⟨by rw [hF.out]; rfl, B1⟩

end Go.Proofs.YtklchpdpooikdaaGreatDoor

namespace Go.Proofs.YtklchpdpooikdaaGreatDoor
open Go.RowKit Go.Shelf Go.IntWalk

def mskB (A M s : List UInt8) (i : Nat) : Bool := bits .and .u8 ((s.getD i 0).toNat : Int) ((M.getD i 0).toNat : Int) == ((A.getD i 0).toNat : Int)
def adG (A M s : List UInt8) : Nat → Nat → Bool
  | _, 0 => true
  | i, n + 1 => mskB A M s i && adG A M s (i + 1) n
def hasAddrL (b s : List UInt8) : Bool := decide (s.length = (b.take (b.length / 2)).length) && adG (b.take (b.length / 2)) (b.drop (b.length / 2)) s 0 (b.drop (b.length / 2)).length

set_option maxRecDepth 100000 in
set_option maxHeartbeats 4000000 in
theorem hasAddress_any (b s : List UInt8) (hb : b.length ≤ 1048576) (heq : (b.drop (b.length / 2)).length = (b.take (b.length / 2)).length) (w : World) :
    Calls Tryz.prog 81 #[.string (tx b), .string (tx s)] w fun e w' => e = .returned (.bool (hasAddrL b s)) ∧ Below w.heap.size w w' := by
  have hH := hide (fun W => halves_any b hb W)
  have hR : Hid (hasAddrL b s = (decide (s.length = (b.take (b.length / 2)).length) && adG (b.take (b.length / 2)) (b.drop (b.length / 2)) s 0 (b.drop (b.length / 2)).length)) := rfl
  have hlm : (b.drop (b.length / 2)).length ≤ 1048576 := by rw [List.length_drop]; omega
  generalize hasAddrL b s = R at hR ⊢
  generalize b.take (b.length / 2) = A at *
  generalize b.drop (b.length / 2) = M at *
  have zA := tx_size A
  have zM := tx_size M
  have zS := tx_size s
  by_cases hl : s.length = A.length
  · have hR2 : Hid (R = adG A M s 0 M.length) := by unfold Hid; rw [hR.out, decide_eq_true hl]; rfl
    have HEQ := hide heq
    have HL := hide hl
    have hlI : ((tx s).size : Int) = ((tx A).size : Int) := by omega
    clear hR heq hl
    go_enter Tryz.func81, Tryz.ntmps81
    go_wp2_with fail
    refine (hH.out _).mono ?_
    rintro e w1 ⟨rfl, B1⟩
    have HB := hide B1
    clear B1 hH
    go_wp2
    clear hlI
    go_loopw [20] (fun v wr => ∃ k : Nat, v = .int .i64 k ∧ k ≤ M.length ∧ Hid (R = adG A M s k (M.length - k)) ∧ Hid (Below w.heap.size w wr)) (fun v _ => M.length - (intOf v).toNat)
    case atStart => exact ⟨0, rfl, Nat.zero_le _, hR2.out, HB.out⟩
    case round =>
      obtain ⟨k, rfl, hk, hE, hQ⟩ := hrel
      by_cases hlt : k < M.length
      · have ltI : (k : Int) < (M.length : Int) := by omega
        have hst : adG A M s k (M.length - k) = (mskB A M s k && adG A M s (k + 1) (M.length - (k + 1))) := by
          rw [show M.length - k = (M.length - (k + 1)) + 1 by omega, adG]
        have kS : k < (tx s).size := by have := HEQ.out; have := HL.out; omega
        have kM : k < (tx M).size := by omega
        have kA : k < (tx A).size := by have := HEQ.out; omega
        have jS : (k : Int) < (s.length : Int) := by omega
        have jA : (k : Int) < (A.length : Int) := by omega
        have lS : k < s.length := by omega
        have lA : k < A.length := by omega
        have hm : mskB A M s k = (bits .and .u8 (((tx s)[k]'kS).toNat : Int) (((tx M)[k]'kM).toNat : Int) == (((tx A)[k]'kA).toNat : Int)) := by rw [get_tx, get_tx, get_tx]; rfl
        rw [hst] at hE
        cases hq : mskB A M s k with
        | true =>
          have hE2 : Hid (R = adG A M s (k + 1) (M.length - (k + 1))) := by unfold Hid; rw [hE.out, hq]; rfl
          rw [hq] at hm
          have hm2 := hm.symm
          clear hE hst hm hq
          go_wp2_with fail
          go_region
          all_goals
            go_wp2
            go_roundw
            case rel => exact ⟨k + 1, by simp, by omega, hE2, hQ.out.drew⟩
            case measure => simp [intOf]; omega
        | false =>
          have hF : Hid (R = false) := by unfold Hid; rw [hE.out, hq]; rfl
          rw [hq] at hm
          have hm2 := hm.symm
          clear hE hst hm hq
          go_wp2_with fail
          go_region
          all_goals
            go_wp2
            go_ret
            exact ⟨by rw [hF.out]; rfl, hQ.out.drew⟩
      · have ltI : ¬ (k : Int) < (M.length : Int) := by omega
        have hF : Hid (R = true) := by unfold Hid; rw [hE.out, show M.length - k = 0 by omega, adG]
        go_wp2
        go_ret
        exact ⟨by rw [hF.out]; rfl, hQ.out⟩
  · have hF : Hid (R = false) := by unfold Hid; rw [hR.out, decide_eq_false hl]; rfl
    have hlI : ¬ ((tx s).size : Int) = ((tx A).size : Int) := by omega
    go_enter Tryz.func81, Tryz.ntmps81
    go_wp2_with fail
    refine (hH.out _).mono ?_
    rintro e w1 ⟨rfl, B1⟩
    go_wp2
    go_ret
    exact ⟨by rw [hF.out]; rfl, B1⟩

end Go.Proofs.YtklchpdpooikdaaGreatDoor

namespace Go.Proofs.YtklchpdpooikdaaGreatDoor
open Go.RowKit Go.Shelf Go.IntWalk

set_option maxRecDepth 100000 in
set_option maxHeartbeats 2000000 in
theorem meets_kp (w0 : World) (kind : Int) (b : List UInt8) (gk : Int) (s : List UInt8) (H X : Bool) (m : Int) (w : World) (hm : Kp w0 m w)
    (h1 : ∀ W, Kp w0 m W → Calls Tryz.prog 20 #[.agg #[.int .i64 kind, .string (tx b)], .agg #[.int .i64 gk, .string (tx s)]] W fun e W' => e = .returned (.bool H) ∧ Below W.heap.size W W' ∧ Kp w0 m W')
    (h2 : kind = 2 → gk = 2 → ∀ W, Kp w0 m W → Calls Tryz.prog 33 #[.string (tx s), .string (tx b)] W fun e W' => e = .returned (.bool X) ∧ Kp w0 m W') :
    Calls Tryz.prog 23 #[.agg #[.int .i64 kind, .string (tx b)], .agg #[.int .i64 gk, .string (tx s)]] w fun e w' => e = .returned (.bool (H || (decide (kind = 2) && (decide (gk = 2) && X)))) ∧ Kp w0 m w' := by
  obtain ⟨R, hR⟩ : ∃ R, (H || (decide (kind = 2) && (decide (gk = 2) && X))) = R := ⟨_, rfl⟩
  rw [hR]
  have D1 := hide h1
  cases H with
  | true =>
    have hF : Hid (R = true) := by rw [← hR]; rfl
    clear h1 h2 hR
    have BX := (nbelowW w (boxS (kind) b)).trans ((nbelowW (w.alloc (boxS (kind) b)) (boxG (gk) s)).mono (by simp))
    have T0 := two_new w (kind) (gk) b s
    have KX := hide (hm.next BX)
    unfold boxS boxG at T0 KX
    clear BX
    go_enter Tryz.func23, Tryz.ntmps23
    have s0 := T0.s0
    have s1 := T0.s1
    have s2 := T0.g0
    have s3 := T0.g1
    go_wp2_with fail
    refine (D1.out _ KX.out).mono ?_
    rintro e w1 ⟨rfl, B1, K1⟩
    have T1 := T0.below B1
    clear T0 s0 s1 s2 s3 KX B1
    have r0 := T1.s0
    have r1 := T1.s1
    have r2 := T1.g0
    have r3 := T1.g1
    go_wp2
    go_ret
    exact ⟨by rw [hF.out]; rfl, K1⟩
  | false =>
    by_cases k2 : kind = 2
    · by_cases g2 : gk = 2
      · have hF : Hid (R = X) := by rw [← hR, decide_eq_true k2, decide_eq_true g2]; rfl
        have D2 := hide (h2 k2 g2)
        clear h1 h2 hR
        subst k2
        subst g2
        have BX := (nbelowW w (boxS (2) b)).trans ((nbelowW (w.alloc (boxS (2) b)) (boxG (2) s)).mono (by simp))
        have T0 := two_new w (2) (2) b s
        have KX := hide (hm.next BX)
        unfold boxS boxG at T0 KX
        clear BX
        go_enter Tryz.func23, Tryz.ntmps23
        have s0 := T0.s0
        have s1 := T0.s1
        have s2 := T0.g0
        have s3 := T0.g1
        go_wp2_with fail
        refine (D1.out _ KX.out).mono ?_
        rintro e w1 ⟨rfl, B1, K1⟩
        have T1 := T0.below B1
        clear T0 s0 s1 s2 s3 KX B1
        have r0 := T1.s0
        have r1 := T1.s1
        have r2 := T1.g0
        have r3 := T1.g1
        go_wp2_with fail
        refine (D2.out _ K1).mono ?_
        rintro e w2 ⟨rfl, K2⟩
        go_wp2
        go_ret
        exact ⟨by rw [hF.out]; simp, K2⟩
      · have hF : Hid (R = false) := by unfold Hid; rw [← hR, decide_eq_false g2]; simp
        clear h1 h2 hR
        subst k2
        have BX := (nbelowW w (boxS (2) b)).trans ((nbelowW (w.alloc (boxS (2) b)) (boxG (gk) s)).mono (by simp))
        have T0 := two_new w (2) (gk) b s
        have KX := hide (hm.next BX)
        unfold boxS boxG at T0 KX
        clear BX
        go_enter Tryz.func23, Tryz.ntmps23
        have s0 := T0.s0
        have s1 := T0.s1
        have s2 := T0.g0
        have s3 := T0.g1
        go_wp2_with fail
        refine (D1.out _ KX.out).mono ?_
        rintro e w1 ⟨rfl, B1, K1⟩
        have T1 := T0.below B1
        clear T0 s0 s1 s2 s3 KX B1
        have r0 := T1.s0
        have r1 := T1.s1
        have r2 := T1.g0
        have r3 := T1.g1
        go_wp2
        go_ret
        exact ⟨by rw [hF.out]; rfl, K1⟩
    · have hF : Hid (R = false) := by rw [← hR, decide_eq_false k2]; rfl
      clear h1 h2 hR
      have BX := (nbelowW w (boxS (kind) b)).trans ((nbelowW (w.alloc (boxS (kind) b)) (boxG (gk) s)).mono (by simp))
      have T0 := two_new w (kind) (gk) b s
      have KX := hide (hm.next BX)
      unfold boxS boxG at T0 KX
      clear BX
      go_enter Tryz.func23, Tryz.ntmps23
      have s0 := T0.s0
      have s1 := T0.s1
      have s2 := T0.g0
      have s3 := T0.g1
      go_wp2_with fail
      refine (D1.out _ KX.out).mono ?_
      rintro e w1 ⟨rfl, B1, K1⟩
      have T1 := T0.below B1
      clear T0 s0 s1 s2 s3 KX B1
      have r0 := T1.s0
      have r1 := T1.s1
      have r2 := T1.g0
      have r3 := T1.g1
      go_wp2
      go_ret
      exact ⟨by rw [hF.out]; rfl, K1⟩

end Go.Proofs.YtklchpdpooikdaaGreatDoor
