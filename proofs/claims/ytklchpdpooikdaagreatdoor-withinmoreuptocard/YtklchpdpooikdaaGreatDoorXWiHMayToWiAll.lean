/-
  host.May: may a general name be? What it asks of a name's bytes is handed in.
  within.May, holds, All: what a rule's questions answer is handed in.
  within.holds and All: what a rule's questions answer is handed in.
-/
import Derived.Deep.RegionHeld3
import Derived.Test.YtklchpdpooikdaaGreatDoorXWiMToWiRule
namespace Go.Proofs.YtklchpdpooikdaaGreatDoor
open Go.RowKit Go.Shelf Go.IntWalk

/-- May a general name be? N: are its bytes a name's? -/
def hmay (kind : Int) (s : List UInt8) (N : Bool) : Bool := if kind = 1 then mailL s else if kind = 2 then (dnsL s || wildL s) else if kind = 4 then N else if kind = 7 then ipL s else false

set_option maxRecDepth 100000 in
theorem dnsOrWild_kp (w0 : World) (s : List UInt8) (hs : s.length ≤ 1048576) (m : Int) (w : World) (hm : Kp w0 m w) :
    Calls Tryz.prog 48 #[.string (tx s)] w fun e w' => e = .returned (.bool (dnsL s || wildL s)) ∧ Kp w0 m w' := by
  have d1 := hide (dns_any s hs m w hm.2)
  have d2 : Hid (∀ W, Kp w0 m W → Calls Tryz.prog 49 #[.string (tx s)] W fun e W' => e = .returned (.bool (wildL s)) ∧ Kp w0 m W') := fun W h => (wild_any s hs m W h.2).mono fun e W' ⟨h1, h2⟩ => ⟨h1, h.next h2⟩
  have HM := hide hm
  clear hm
  generalize dnsL s = D at *
  generalize wildL s = Wd at *
  cases D with
  | true =>
    go_enter Tryz.func48, Tryz.ntmps48
    go_wp2_with fail
    refine d1.out.mono ?_
    rintro e w1 ⟨rfl, B1⟩
    go_wp2
    go_ret
    exact ⟨rfl, HM.out.next B1⟩
  | false =>
    go_enter Tryz.func48, Tryz.ntmps48
    go_wp2_with fail
    refine d1.out.mono ?_
    rintro e w1 ⟨rfl, B1⟩
    go_wp2_with fail
    refine (d2.out _ (HM.out.next B1)).mono ?_
    rintro e w2 ⟨rfl, K2⟩
    go_wp2
    go_ret
    exact ⟨by simp, K2⟩

set_option maxRecDepth 100000 in
set_option maxHeartbeats 2000000 in
theorem hmay_kp (w0 : World) (kind : Int) (hkind : (Lit.int .i64 kind).wf = true) (s : List UInt8) (hs : s.length ≤ 1048576) (N : Bool) (m : Int)
    (hN : kind = 4 → ∀ W, Kp w0 m W → Calls Tryz.prog 50 #[.string (tx s)] W fun e W' => e = .returned (.bool N) ∧ Kp w0 m W') (w : World) (hm : Kp w0 m w) :
    Calls Tryz.prog 13 #[.agg #[.int .i64 kind, .string (tx s)]] w fun e w' => e = .returned (.bool (hmay kind s N)) ∧ Kp w0 m w' := by
  by_cases h1 : kind = 1
  · subst h1
    have D : Hid (∀ W, Kp w0 m W → Calls Tryz.prog 47 #[.string (tx s)] W fun e W' => e = .returned (.bool (hmay 1 s N)) ∧ Kp w0 m W') := fun W h => (email_any s hs m W h.2).mono fun e W' ⟨k1, k2⟩ => ⟨k1, h.next k2⟩
    have LK : Hid (∀ W b, W.heap[b]? = some (.map rulesM 4) → (Instr.lookup 56 (.map (some b)) (.int .i64 1) true).run Tryz.prog W = .ok (.tuple #[fnV 47, .bool true]) W) := fun W b hb =>
      look_yes hb 1 _ (by decide) rules_keys (by intro e he hk; simp [rulesM] at he; rcases he with rfl | rfl | rfl | rfl <;> first | rfl | (exfalso; revert hk; simp)) ⟨⟨.int .i64 1, fnV 47, 0⟩, by simp [rulesM], rfl⟩
    unfold fnV at LK
    generalize hkd : (1 : Int) = kind at *
    have BX := nbelowW w (.cells #[.int .i64 kind, .string (tx s)] 32)
    have c0 : (w.alloc (.cells #[.int .i64 kind, .string (tx s)] 32)).cell? ⟨w.heap.size, 0, none⟩ = some (.int .i64 kind) := by simp
    have c1 : (w.alloc (.cells #[.int .i64 kind, .string (tx s)] 32)).cell? ⟨w.heap.size, 1, none⟩ = some (.string (tx s)) := by simp
    have KX := hide (hm.next BX)
    go_enter Tryz.func13, Tryz.ntmps13
    go_wp2_with fail
    go_region_held3 (fun W => W.cell? ⟨w.heap.size, 0, none⟩ = some (.int .i64 kind) ∧ W.cell? ⟨w.heap.size, 1, none⟩ = some (.string (tx s))) (go_keep) (first | (go_at_call 31; refine (hrules_any _).mono ?_; rintro e w1 ⟨b, rfl, hb, B1⟩; have lk := LK.out w1 b hb; have k0 := (B1.cell (p := ⟨w.heap.size, 0, none⟩) (lt_of_cell c0)).trans c0; have k1 := (B1.cell (p := ⟨w.heap.size, 1, none⟩) (lt_of_cell c1)).trans c1))
    have K1 := hide ((KX.out.next ((Below.refl _ _).drew)).next B1)
    clear B1 BX hb KX
    go_wp2_with fail
    refine (D.out _ K1.out).mono ?_
    rintro e w2 ⟨rfl, K2⟩
    go_wp2
    go_ret
    exact ⟨rfl, K2⟩
  by_cases h2 : kind = 2
  · subst h2
    have D : Hid (∀ W, Kp w0 m W → Calls Tryz.prog 48 #[.string (tx s)] W fun e W' => e = .returned (.bool (hmay 2 s N)) ∧ Kp w0 m W') := dnsOrWild_kp w0 s hs m
    have LK : Hid (∀ W b, W.heap[b]? = some (.map rulesM 4) → (Instr.lookup 56 (.map (some b)) (.int .i64 2) true).run Tryz.prog W = .ok (.tuple #[fnV 48, .bool true]) W) := fun W b hb =>
      look_yes hb 2 _ (by decide) rules_keys (by intro e he hk; simp [rulesM] at he; rcases he with rfl | rfl | rfl | rfl <;> first | rfl | (exfalso; revert hk; simp)) ⟨⟨.int .i64 2, fnV 48, 1⟩, by simp [rulesM], rfl⟩
    unfold fnV at LK
    generalize hkd : (2 : Int) = kind at *
    have BX := nbelowW w (.cells #[.int .i64 kind, .string (tx s)] 32)
    have c0 : (w.alloc (.cells #[.int .i64 kind, .string (tx s)] 32)).cell? ⟨w.heap.size, 0, none⟩ = some (.int .i64 kind) := by simp
    have c1 : (w.alloc (.cells #[.int .i64 kind, .string (tx s)] 32)).cell? ⟨w.heap.size, 1, none⟩ = some (.string (tx s)) := by simp
    have KX := hide (hm.next BX)
    go_enter Tryz.func13, Tryz.ntmps13
    go_wp2_with fail
    go_region_held3 (fun W => W.cell? ⟨w.heap.size, 0, none⟩ = some (.int .i64 kind) ∧ W.cell? ⟨w.heap.size, 1, none⟩ = some (.string (tx s))) (go_keep) (first | (go_at_call 31; refine (hrules_any _).mono ?_; rintro e w1 ⟨b, rfl, hb, B1⟩; have lk := LK.out w1 b hb; have k0 := (B1.cell (p := ⟨w.heap.size, 0, none⟩) (lt_of_cell c0)).trans c0; have k1 := (B1.cell (p := ⟨w.heap.size, 1, none⟩) (lt_of_cell c1)).trans c1))
    have K1 := hide ((KX.out.next ((Below.refl _ _).drew)).next B1)
    clear B1 BX hb KX
    go_wp2_with fail
    refine (D.out _ K1.out).mono ?_
    rintro e w2 ⟨rfl, K2⟩
    go_wp2
    go_ret
    exact ⟨rfl, K2⟩
  by_cases h4 : kind = 4
  · subst h4
    have D : Hid (∀ W, Kp w0 m W → Calls Tryz.prog 50 #[.string (tx s)] W fun e W' => e = .returned (.bool (hmay 4 s N)) ∧ Kp w0 m W') := hN rfl
    have LK : Hid (∀ W b, W.heap[b]? = some (.map rulesM 4) → (Instr.lookup 56 (.map (some b)) (.int .i64 4) true).run Tryz.prog W = .ok (.tuple #[fnV 50, .bool true]) W) := fun W b hb =>
      look_yes hb 4 _ (by decide) rules_keys (by intro e he hk; simp [rulesM] at he; rcases he with rfl | rfl | rfl | rfl <;> first | rfl | (exfalso; revert hk; simp)) ⟨⟨.int .i64 4, fnV 50, 2⟩, by simp [rulesM], rfl⟩
    unfold fnV at LK
    generalize hkd : (4 : Int) = kind at *
    have BX := nbelowW w (.cells #[.int .i64 kind, .string (tx s)] 32)
    have c0 : (w.alloc (.cells #[.int .i64 kind, .string (tx s)] 32)).cell? ⟨w.heap.size, 0, none⟩ = some (.int .i64 kind) := by simp
    have c1 : (w.alloc (.cells #[.int .i64 kind, .string (tx s)] 32)).cell? ⟨w.heap.size, 1, none⟩ = some (.string (tx s)) := by simp
    have KX := hide (hm.next BX)
    go_enter Tryz.func13, Tryz.ntmps13
    go_wp2_with fail
    go_region_held3 (fun W => W.cell? ⟨w.heap.size, 0, none⟩ = some (.int .i64 kind) ∧ W.cell? ⟨w.heap.size, 1, none⟩ = some (.string (tx s))) (go_keep) (first | (go_at_call 31; refine (hrules_any _).mono ?_; rintro e w1 ⟨b, rfl, hb, B1⟩; have lk := LK.out w1 b hb; have k0 := (B1.cell (p := ⟨w.heap.size, 0, none⟩) (lt_of_cell c0)).trans c0; have k1 := (B1.cell (p := ⟨w.heap.size, 1, none⟩) (lt_of_cell c1)).trans c1))
    have K1 := hide ((KX.out.next ((Below.refl _ _).drew)).next B1)
    clear B1 BX hb KX
    go_wp2_with fail
    refine (D.out _ K1.out).mono ?_
    rintro e w2 ⟨rfl, K2⟩
    go_wp2
    go_ret
    exact ⟨rfl, K2⟩
  by_cases h7 : kind = 7
  · subst h7
    have D : Hid (∀ W, Kp w0 m W → Calls Tryz.prog 51 #[.string (tx s)] W fun e W' => e = .returned (.bool (hmay 7 s N)) ∧ Kp w0 m W') := fun W h => (ip_any s W).mono fun e W' ⟨k1, k2⟩ => ⟨k1, by rw [k2]; exact h⟩
    have LK : Hid (∀ W b, W.heap[b]? = some (.map rulesM 4) → (Instr.lookup 56 (.map (some b)) (.int .i64 7) true).run Tryz.prog W = .ok (.tuple #[fnV 51, .bool true]) W) := fun W b hb =>
      look_yes hb 7 _ (by decide) rules_keys (by intro e he hk; simp [rulesM] at he; rcases he with rfl | rfl | rfl | rfl <;> first | rfl | (exfalso; revert hk; simp)) ⟨⟨.int .i64 7, fnV 51, 3⟩, by simp [rulesM], rfl⟩
    unfold fnV at LK
    generalize hkd : (7 : Int) = kind at *
    have BX := nbelowW w (.cells #[.int .i64 kind, .string (tx s)] 32)
    have c0 : (w.alloc (.cells #[.int .i64 kind, .string (tx s)] 32)).cell? ⟨w.heap.size, 0, none⟩ = some (.int .i64 kind) := by simp
    have c1 : (w.alloc (.cells #[.int .i64 kind, .string (tx s)] 32)).cell? ⟨w.heap.size, 1, none⟩ = some (.string (tx s)) := by simp
    have KX := hide (hm.next BX)
    go_enter Tryz.func13, Tryz.ntmps13
    go_wp2_with fail
    go_region_held3 (fun W => W.cell? ⟨w.heap.size, 0, none⟩ = some (.int .i64 kind) ∧ W.cell? ⟨w.heap.size, 1, none⟩ = some (.string (tx s))) (go_keep) (first | (go_at_call 31; refine (hrules_any _).mono ?_; rintro e w1 ⟨b, rfl, hb, B1⟩; have lk := LK.out w1 b hb; have k0 := (B1.cell (p := ⟨w.heap.size, 0, none⟩) (lt_of_cell c0)).trans c0; have k1 := (B1.cell (p := ⟨w.heap.size, 1, none⟩) (lt_of_cell c1)).trans c1))
    have K1 := hide ((KX.out.next ((Below.refl _ _).drew)).next B1)
    clear B1 BX hb KX
    go_wp2_with fail
    refine (D.out _ K1.out).mono ?_
    rintro e w2 ⟨rfl, K2⟩
    go_wp2
    go_ret
    exact ⟨rfl, K2⟩
  have hF : Hid (hmay kind s N = false) := by unfold Hid hmay; rw [if_neg h1, if_neg h2, if_neg h4, if_neg h7]
  have LK : Hid (∀ W b, W.heap[b]? = some (.map rulesM 4) → (Instr.lookup 56 (.map (some b)) (.int .i64 kind) true).run Tryz.prog W = .ok (.tuple #[.nilFunc, .bool false]) W) := fun W b hb =>
    look_no hb kind hkind rules_keys (by intro e he hk; simp [rulesM] at he; rcases he with rfl | rfl | rfl | rfl <;> (simp at hk; omega))
  have BX := nbelowW w (.cells #[.int .i64 kind, .string (tx s)] 32)
  have c0 : (w.alloc (.cells #[.int .i64 kind, .string (tx s)] 32)).cell? ⟨w.heap.size, 0, none⟩ = some (.int .i64 kind) := by simp
  have c1 : (w.alloc (.cells #[.int .i64 kind, .string (tx s)] 32)).cell? ⟨w.heap.size, 1, none⟩ = some (.string (tx s)) := by simp
  have KX := hide (hm.next BX)
  go_enter Tryz.func13, Tryz.ntmps13
  go_wp2_with fail
  go_region_held3 (fun W => W.cell? ⟨w.heap.size, 0, none⟩ = some (.int .i64 kind) ∧ W.cell? ⟨w.heap.size, 1, none⟩ = some (.string (tx s))) (go_keep) (first | (go_at_call 31; refine (hrules_any _).mono ?_; rintro e w1 ⟨b, rfl, hb, B1⟩; have lk := LK.out w1 b hb; have k0 := (B1.cell (p := ⟨w.heap.size, 0, none⟩) (lt_of_cell c0)).trans c0; have k1 := (B1.cell (p := ⟨w.heap.size, 1, none⟩) (lt_of_cell c1)).trans c1))
  have K1 := hide ((KX.out.next ((Below.refl _ _).drew)).next B1)
  clear B1 BX hb KX
  go_wp2
  go_ret
  exact ⟨by rw [hF.out]; rfl, K1.out⟩

end Go.Proofs.YtklchpdpooikdaaGreatDoor

namespace Go.Proofs.YtklchpdpooikdaaGreatDoor
open Go.RowKit Go.Shelf Go.IntWalk

def rmF : Nat → Nat | 0 => 74 | 1 => 76 | 2 => 78 | _ => 80
def rhF : Nat → Nat | 0 => 75 | 1 => 77 | 2 => 79 | _ => 81
theorem rm_F (k : Nat) : rm k = .func (.func (rmF k)) #[] #[] := by rcases k with _ | _ | _ | k <;> rfl
theorem rh_F (k : Nat) : rh k = .func (.func (rhF k)) #[] #[] := by rcases k with _ | _ | _ | k <;> rfl
theorem rAt_none {kind : Int} (h : ¬ rAt kind < 4) : ruleV kind = .agg #[.int .i64 0, .nilFunc, .nilFunc] := by unfold ruleV; rw [if_neg h]
theorem rAt_some {kind : Int} (h : rAt kind < 4) : ruleV kind = .agg #[.int .i64 kind, .func (.func (rmF (rAt kind))) #[] #[], .func (.func (rhF (rAt kind))) #[] #[]] := by unfold ruleV; rw [if_pos h, rm_F, rh_F]

set_option maxRecDepth 100000 in
set_option maxHeartbeats 2000000 in
theorem wmay_kp (w0 : World) (kind : Int) (b : List UInt8) (M : Bool) (m : Int)
    (hM : rAt kind < 4 → ∀ W, Kp w0 m W → Calls Tryz.prog (rmF (rAt kind)) #[.string (tx b)] W fun e W' => e = .returned (.bool M) ∧ Kp w0 m W') (w : World) (hm : Kp w0 m w) :
    Calls Tryz.prog 10 #[.agg #[.int .i64 kind, .string (tx b)]] w fun e w' => e = .returned (.bool (decide (rAt kind < 4) && M)) ∧ Kp w0 m w' := by
  by_cases h4 : rAt kind < 4
  · have hd := decide_eq_true h4
    have hv := rAt_some h4
    have D := hide (hM h4)
    rw [hd]
    have BX := nbelowW w (.cells #[.int .i64 kind, .string (tx b)] 36)
    have c0 : (w.alloc (.cells #[.int .i64 kind, .string (tx b)] 36)).cell? ⟨w.heap.size, 0, none⟩ = some (.int .i64 kind) := by simp
    have c1 : (w.alloc (.cells #[.int .i64 kind, .string (tx b)] 36)).cell? ⟨w.heap.size, 1, none⟩ = some (.string (tx b)) := by simp
    have KX := hide (hm.next BX)
    have hR := hide (fun W => ruleOf_any kind W)
    go_enter Tryz.func10, Tryz.ntmps10
    go_wp2_with fail
    refine (hR.out _).mono ?_
    rintro e w1 ⟨rfl, B1⟩
    have k1 := (B1.cell (p := ⟨w.heap.size, 1, none⟩) (lt_of_cell c1)).trans c1
    have K1 := hide (KX.out.next B1)
    clear KX BX B1 c0 c1
    rw [hv, hd]
    have hk4 := h4
    clear hv hd h4 hR
    generalize rAt kind = rk4 at D hk4 ⊢
    rcases (by omega : rk4 = 0 ∨ rk4 = 1 ∨ rk4 = 2 ∨ rk4 = 3) with rfl | rfl | rfl | rfl
    · have q1 : ∀ o, (w1.alloc o).cell? ⟨w.heap.size, 1, none⟩ = some (.string (tx b)) := fun o => ((nbelowW w1 o).cell (p := ⟨w.heap.size, 1, none⟩) (lt_of_cell k1)).trans k1
      simp only [rmF, rhF] at D ⊢
      go_wp2_with fail
      refine (D.out _ (K1.out.next (nbelowW _ _))).mono ?_
      rintro e w2 ⟨rfl, K2⟩
      go_wp2
      go_ret
      exact ⟨by simp, K2⟩
    · have q1 : ∀ o, (w1.alloc o).cell? ⟨w.heap.size, 1, none⟩ = some (.string (tx b)) := fun o => ((nbelowW w1 o).cell (p := ⟨w.heap.size, 1, none⟩) (lt_of_cell k1)).trans k1
      simp only [rmF, rhF] at D ⊢
      go_wp2_with fail
      refine (D.out _ (K1.out.next (nbelowW _ _))).mono ?_
      rintro e w2 ⟨rfl, K2⟩
      go_wp2
      go_ret
      exact ⟨by simp, K2⟩
    · have q1 : ∀ o, (w1.alloc o).cell? ⟨w.heap.size, 1, none⟩ = some (.string (tx b)) := fun o => ((nbelowW w1 o).cell (p := ⟨w.heap.size, 1, none⟩) (lt_of_cell k1)).trans k1
      simp only [rmF, rhF] at D ⊢
      go_wp2_with fail
      refine (D.out _ (K1.out.next (nbelowW _ _))).mono ?_
      rintro e w2 ⟨rfl, K2⟩
      go_wp2
      go_ret
      exact ⟨by simp, K2⟩
    · have q1 : ∀ o, (w1.alloc o).cell? ⟨w.heap.size, 1, none⟩ = some (.string (tx b)) := fun o => ((nbelowW w1 o).cell (p := ⟨w.heap.size, 1, none⟩) (lt_of_cell k1)).trans k1
      simp only [rmF, rhF] at D ⊢
      go_wp2_with fail
      refine (D.out _ (K1.out.next (nbelowW _ _))).mono ?_
      rintro e w2 ⟨rfl, K2⟩
      go_wp2
      go_ret
      exact ⟨by simp, K2⟩
  · have hd := decide_eq_false h4
    have hv := rAt_none h4
    rw [hd]
    have BX := nbelowW w (.cells #[.int .i64 kind, .string (tx b)] 36)
    have c0 : (w.alloc (.cells #[.int .i64 kind, .string (tx b)] 36)).cell? ⟨w.heap.size, 0, none⟩ = some (.int .i64 kind) := by simp
    have c1 : (w.alloc (.cells #[.int .i64 kind, .string (tx b)] 36)).cell? ⟨w.heap.size, 1, none⟩ = some (.string (tx b)) := by simp
    have KX := hide (hm.next BX)
    have hR := hide (fun W => ruleOf_any kind W)
    go_enter Tryz.func10, Tryz.ntmps10
    go_wp2_with fail
    refine (hR.out _).mono ?_
    rintro e w1 ⟨rfl, B1⟩
    have k1 := (B1.cell (p := ⟨w.heap.size, 1, none⟩) (lt_of_cell c1)).trans c1
    have K1 := hide (KX.out.next B1)
    clear KX BX B1 c0 c1
    rw [hv, hd]
    clear hv hd h4 hR
    go_wp2
    go_ret
    exact ⟨by simp, K1.out.next (nbelowW _ _)⟩

end Go.Proofs.YtklchpdpooikdaaGreatDoor

namespace Go.Proofs.YtklchpdpooikdaaGreatDoor
open Go.RowKit Go.Shelf Go.IntWalk

def boxS (kind : Int) (b : List UInt8) : Obj := .cells #[.int .i64 kind, .string (tx b)] 36
def boxG (kind : Int) (s : List UInt8) : Obj := .cells #[.int .i64 kind, .string (tx s)] 32
/-- The boxes of a subtree and of a general name. -/
structure Two (g : Nat) (kind : Int) (b : List UInt8) (gk : Int) (s : List UInt8) (W : World) : Prop where
  s0 : W.cell? ⟨g, 0, none⟩ = some (.int .i64 kind)
  s1 : W.cell? ⟨g, 1, none⟩ = some (.string (tx b))
  g0 : W.cell? ⟨g + 1, 0, none⟩ = some (.int .i64 gk)
  g1 : W.cell? ⟨g + 1, 1, none⟩ = some (.string (tx s))
theorem Two.below {g : Nat} {kind gk : Int} {b s : List UInt8} {W W' : World} (h : Two g kind b gk s W) (hb : Below W.heap.size W W') : Two g kind b gk s W' :=
  ⟨(hb.cell (lt_of_cell h.s0)).trans h.s0, (hb.cell (lt_of_cell h.s1)).trans h.s1, (hb.cell (lt_of_cell h.g0)).trans h.g0, (hb.cell (lt_of_cell h.g1)).trans h.g1⟩
theorem two_new (w : World) (kind gk : Int) (b s : List UInt8) : Two w.heap.size kind b gk s ((w.alloc (boxS kind b)).alloc (boxG gk s)) := by
  have hz : (w.alloc (boxS kind b)).heap.size = w.heap.size + 1 := by simp
  have B := nbelowW (w.alloc (boxS kind b)) (boxG gk s)
  have c0 : (w.alloc (boxS kind b)).cell? ⟨w.heap.size, 0, none⟩ = some (.int .i64 kind) := by unfold boxS; simp
  have c1 : (w.alloc (boxS kind b)).cell? ⟨w.heap.size, 1, none⟩ = some (.string (tx b)) := by unfold boxS; simp
  refine ⟨(B.cell (lt_of_cell c0)).trans c0, (B.cell (lt_of_cell c1)).trans c1, ?_, ?_⟩
  · rw [← hz]; unfold boxG; simp
  · rw [← hz]; unfold boxG; simp

set_option maxRecDepth 100000 in
set_option maxHeartbeats 2000000 in
theorem holds_kp (w0 : World) (kind : Int) (b : List UInt8) (gk : Int) (s : List UInt8) (H : Bool) (m : Int) (h4 : rAt kind < 4)
    (hH : kind = gk → ∀ W, Kp w0 m W → Calls Tryz.prog (rhF (rAt kind)) #[.string (tx b), .string (tx s)] W fun e W' => e = .returned (.bool H) ∧ Kp w0 m W') (w : World) (hm : Kp w0 m w) :
    Calls Tryz.prog 20 #[.agg #[.int .i64 kind, .string (tx b)], .agg #[.int .i64 gk, .string (tx s)]] w fun e w' => e = .returned (.bool (decide (kind = gk) && H)) ∧ Kp w0 m w' := by
  have hR := hide (fun W => ruleOf_any kind W)
  have hv := rAt_some h4
  have BX := (nbelowW w (boxS kind b)).trans ((nbelowW (w.alloc (boxS kind b)) (boxG gk s)).mono (by simp))
  have T0 := two_new w kind gk b s
  have KX := hide (hm.next BX)
  unfold boxS boxG at T0 KX
  clear BX
  go_enter Tryz.func20, Tryz.ntmps20
  have t0 := T0.s0
  go_wp2_with fail
  refine (hR.out _).mono ?_
  rintro e w1 ⟨rfl, B1⟩
  have T1 := T0.below B1
  have K1 := hide (KX.out.next B1)
  clear T0 KX B1 t0 hR
  rw [hv]
  clear hv
  by_cases he : kind = gk
  · have D := hide (hH he)
    have hd := decide_eq_true he
    have hd2 : (kind == gk) = true := by simpa using he
    have HD := hide hd
    clear hd he hH
    generalize rAt kind = rk4 at D h4 ⊢
    rcases (by omega : rk4 = 0 ∨ rk4 = 1 ∨ rk4 = 2 ∨ rk4 = 3) with rfl | rfl | rfl | rfl
    · have T2 : ∀ o, Two w.heap.size kind b gk s (w1.alloc o) := fun o => T1.below (nbelowW w1 o)
      have t0 := fun o => (T2 o).s0
      have t1 := fun o => (T2 o).s1
      have t2 := fun o => (T2 o).g0
      have t3 := fun o => (T2 o).g1
      clear T2
      simp only [rmF, rhF] at D ⊢
      go_wp2_with fail
      refine (D.out _ (K1.out.next (nbelowW _ _))).mono ?_
      rintro e w2 ⟨rfl, K2⟩
      go_wp2
      go_ret
      exact ⟨by rw [HD.out]; simp, K2⟩
    · have T2 : ∀ o, Two w.heap.size kind b gk s (w1.alloc o) := fun o => T1.below (nbelowW w1 o)
      have t0 := fun o => (T2 o).s0
      have t1 := fun o => (T2 o).s1
      have t2 := fun o => (T2 o).g0
      have t3 := fun o => (T2 o).g1
      clear T2
      simp only [rmF, rhF] at D ⊢
      go_wp2_with fail
      refine (D.out _ (K1.out.next (nbelowW _ _))).mono ?_
      rintro e w2 ⟨rfl, K2⟩
      go_wp2
      go_ret
      exact ⟨by rw [HD.out]; simp, K2⟩
    · have T2 : ∀ o, Two w.heap.size kind b gk s (w1.alloc o) := fun o => T1.below (nbelowW w1 o)
      have t0 := fun o => (T2 o).s0
      have t1 := fun o => (T2 o).s1
      have t2 := fun o => (T2 o).g0
      have t3 := fun o => (T2 o).g1
      clear T2
      simp only [rmF, rhF] at D ⊢
      go_wp2_with fail
      refine (D.out _ (K1.out.next (nbelowW _ _))).mono ?_
      rintro e w2 ⟨rfl, K2⟩
      go_wp2
      go_ret
      exact ⟨by rw [HD.out]; simp, K2⟩
    · have T2 : ∀ o, Two w.heap.size kind b gk s (w1.alloc o) := fun o => T1.below (nbelowW w1 o)
      have t0 := fun o => (T2 o).s0
      have t1 := fun o => (T2 o).s1
      have t2 := fun o => (T2 o).g0
      have t3 := fun o => (T2 o).g1
      clear T2
      simp only [rmF, rhF] at D ⊢
      go_wp2_with fail
      refine (D.out _ (K1.out.next (nbelowW _ _))).mono ?_
      rintro e w2 ⟨rfl, K2⟩
      go_wp2
      go_ret
      exact ⟨by rw [HD.out]; simp, K2⟩
  · have hd := decide_eq_false he
    have hd2 : (kind == gk) = false := by simpa using he
    have HD := hide hd
    clear hd he hH h4
    have T2 : ∀ o, Two w.heap.size kind b gk s (w1.alloc o) := fun o => T1.below (nbelowW w1 o)
    have t0 := fun o => (T2 o).s0
    have t2 := fun o => (T2 o).g0
    clear T2
    go_wp2
    go_ret
    exact ⟨by rw [HD.out]; simp, K1.out.next (nbelowW _ _)⟩

end Go.Proofs.YtklchpdpooikdaaGreatDoor
