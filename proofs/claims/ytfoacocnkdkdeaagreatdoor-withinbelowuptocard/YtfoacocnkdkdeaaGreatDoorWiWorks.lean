/-
  The statements' own calls names and works answer true.
-/
import Derived.Test.YtfoacocnkdkdeaaGreatDoorWiAll2
namespace Go.Proofs.YtfoacocnkdkdeaaGreatDoor
open Go.RowKit Go.Shelf Go.IntWalk

/-- What stands behind the *. of a wild name; else the text itself. -/
def trimW (s : List UInt8) : List UInt8 := Lib.trimPrefix s [42, 46]

theorem Kp.own {w0 w : World} {m : Int} (h : Kp w0 m w) {W' : World} (h2 : Kp w m W') : Kp w0 m W' := h.next h2.1

set_option maxRecDepth 100000 in
theorem isHost_kp (w0 : World) (b : List UInt8) (hb : b.length ≤ 1048576) (m : Int) (w : World) (hm : Kp w0 m w) :
    Calls Tryz.prog 99 #[.string (tx b)] w fun e w' => e = .returned (.bool (dnsL b)) ∧ Kp w0 m w' := by
  have d1 := hide (dns_any b hb m w hm.2)
  have HM := hide hm
  clear hm
  go_enter Tryz.func99, Tryz.ntmps99
  go_wp2_with fail
  refine d1.out.mono ?_
  rintro e w1 ⟨rfl, B1⟩
  go_wp2
  go_ret
  exact ⟨rfl, HM.out.next B1⟩

theorem trim_any (s : List UInt8) (w : World) :
    Calls Tryz.prog 125 #[.string (tx s), .string ⟨#[42, 46]⟩] w fun e w' => e = .returned (.string (tx (trimW s))) ∧ w' = w := by
  exact Tryz.strings_TrimPrefix (tx s) (tx [42, 46]) w
theorem trim_len (s : List UInt8) : (trimW s).length ≤ s.length := by
  unfold trimW Lib.trimPrefix
  split
  · rw [List.length_drop]; omega
  · exact Nat.le_refl _

set_option maxRecDepth 100000 in
theorem hasHost_kp (w0 : World) (b s : List UInt8) (hb : b.length ≤ 1048576) (hs : s.length ≤ 1048576) (m : Int) (w : World) (hm : Kp w0 m w) :
    Calls Tryz.prog 100 #[.string (tx b), .string (tx s)] w fun e w' => e = .returned (.bool (belB (trimW s) b)) ∧ Kp w0 m w' := by
  have d1 := hide (trim_any s w)
  have d2 := hide (below_kp w0 (trimW s) b (Nat.le_trans (trim_len s) hs) hb m w hm)
  go_enter Tryz.func100, Tryz.ntmps100
  go_wp2_with fail
  refine d1.out.mono ?_
  rintro e w1 ⟨rfl, rfl⟩
  go_wp2_with fail
  refine d2.out.mono ?_
  rintro e w2 ⟨rfl, K2⟩
  go_wp2
  go_ret
  exact ⟨rfl, K2⟩

set_option maxRecDepth 100000 in
theorem names14_any (w : World) : Calls Tryz.prog 31 #[] w fun e w' => e = .returned (.bool true) ∧ w' = w := by
  go_enter Tryz.func31, Tryz.ntmps31
  go_wp2
  go_ret
  exact ⟨rfl, rfl⟩

/-- All of {GDNS, a.b} of the host x.a.b. -/
theorem all_one (w0 : World) (m : Int) (w : World) (hm : Kp w0 m w) :
    Calls Tryz.prog 13 #[.agg #[.int .i64 2, .string ⟨#[97, 46, 98]⟩], .agg #[.int .i64 2, .string ⟨#[120, 46, 97, 46, 98]⟩]] w fun e w' => e = .returned (.bool true) ∧ Kp w0 m w' := by
  have e1 : dnsL [97, 46, 98] = true := by decide
  have e2 : hmay 2 [120, 46, 97, 46, 98] false = true := by decide
  have e3 : belB (trimW [120, 46, 97, 46, 98]) [97, 46, 98] = true := by decide
  have e4 : rAt 2 = 1 := rfl
  have h := all_kp w0 2 [97, 46, 98] 2 [120, 46, 97, 46, 98] true true true m w hm
    (fun W hW => by
      have h9 := wmay_kp W 2 [97, 46, 98] true m (fun _ V hV => by rw [e4]; have := isHost_kp W [97, 46, 98] (by decide) m V hV; rw [e1] at this; exact this) W (Kp.refl hW.2)
      exact h9.mono fun e W' ⟨k1, k2⟩ => ⟨k1, k2.1, hW.own k2⟩)
    (fun _ W hW => by
      have h9 := hmay_kp W 2 (by decide) [120, 46, 97, 46, 98] (by decide) false m (fun h => by cases h) W (Kp.refl hW.2)
      rw [e2] at h9
      exact h9.mono fun e W' ⟨k1, k2⟩ => ⟨k1, k2.1, hW.own k2⟩)
    (fun _ _ W hW => by
      have h9 := holds_kp W 2 [97, 46, 98] 2 [120, 46, 97, 46, 98] true m (by decide) (fun _ V hV => by rw [e4]; have := hasHost_kp W [97, 46, 98] [120, 46, 97, 46, 98] (by decide) (by decide) m V hV; rw [e3] at this; exact this) W (Kp.refl hW.2)
      exact h9.mono fun e W' ⟨k1, k2⟩ => ⟨k1, hW.own k2⟩)
  exact h

set_option maxRecDepth 100000 in
set_option maxHeartbeats 1000000 in
theorem works14_kp (w0 : World) (m : Int) (w : World) (hm : Kp w0 m w) :
    Calls Tryz.prog 10 #[] w fun e w' => e = .returned (.bool true) ∧ Kp w0 m w' := by
  have e1 : belB [120, 46, 97, 46, 98] [97, 46, 98] = true := by decide
  have d1 : Hid (∀ W, Kp w0 m W → Calls Tryz.prog 8 #[.string ⟨#[120, 46, 97, 46, 98]⟩, .string ⟨#[97, 46, 98]⟩] W fun e W' => e = .returned (.bool true) ∧ Kp w0 m W') := fun W h => by have := below_kp w0 [120, 46, 97, 46, 98] [97, 46, 98] (by decide) (by decide) m W h; rw [e1] at this; exact this
  have d2 := hide (all_one w0 m)
  have HM := hide hm
  clear e1 hm
  go_enter Tryz.func10, Tryz.ntmps10
  go_wp2_with fail
  refine (d1.out _ HM.out).mono ?_
  rintro e w1 ⟨rfl, K1⟩
  go_wp2_with fail
  refine (d2.out _ K1).mono ?_
  rintro e w2 ⟨rfl, K2⟩
  go_wp2_with fail
  refine (names14_any _).mono ?_
  rintro e w3 ⟨rfl, rfl⟩
  go_wp2
  go_ret
  exact ⟨rfl, K2⟩

end Go.Proofs.YtfoacocnkdkdeaaGreatDoor
