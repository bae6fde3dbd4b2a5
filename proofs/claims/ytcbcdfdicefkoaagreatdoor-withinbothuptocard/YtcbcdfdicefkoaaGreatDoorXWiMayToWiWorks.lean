/-
  within.May, holds, All: what a rule's questions answer is handed in.
  within.holds and All: what a rule's questions answer is handed in.
  within.All, meets, Some: what a rule's questions answer is handed in.
  The statements' own calls names and works answer true.
-/
import Derived.Test.YtcbcdfdicefkoaaGreatDoorXWiRuleToWiHMay
namespace Go.Proofs.YtcbcdfdicefkoaaGreatDoor
open Go.RowKit Go.Shelf Go.IntWalk

def rmF : Nat → Nat | 0 => 97 | 1 => 99 | 2 => 101 | _ => 103
def rhF : Nat → Nat | 0 => 98 | 1 => 100 | 2 => 102 | _ => 104
theorem rm_F (k : Nat) : rm k = .func (.func (rmF k)) #[] #[] := by rcases k with _ | _ | _ | k <;> rfl
theorem rh_F (k : Nat) : rh k = .func (.func (rhF k)) #[] #[] := by rcases k with _ | _ | _ | k <;> rfl
theorem rAt_none {kind : Int} (h : ¬ rAt kind < 4) : ruleV kind = .agg #[.int .i64 0, .nilFunc, .nilFunc] := by unfold ruleV; rw [if_neg h]
theorem rAt_some {kind : Int} (h : rAt kind < 4) : ruleV kind = .agg #[.int .i64 kind, .func (.func (rmF (rAt kind))) #[] #[], .func (.func (rhF (rAt kind))) #[] #[]] := by unfold ruleV; rw [if_pos h, rm_F, rh_F]

set_option maxRecDepth 100000 in
set_option maxHeartbeats 2000000 in
theorem wmay_kp (w0 : World) (kind : Int) (b : List UInt8) (M : Bool) (m : Int)
    (hM : rAt kind < 4 → ∀ W, Kp w0 m W → Calls Tryz.prog (rmF (rAt kind)) #[.string (tx b)] W fun e W' => e = .returned (.bool M) ∧ Kp w0 m W') (w : World) (hm : Kp w0 m w) :
    Calls Tryz.prog 11 #[.agg #[.int .i64 kind, .string (tx b)]] w fun e w' => e = .returned (.bool (decide (rAt kind < 4) && M)) ∧ Kp w0 m w' := by
  by_cases h4 : rAt kind < 4
  · have hd := decide_eq_true h4
    have hv := rAt_some h4
    have D := hide (hM h4)
    rw [hd]
    have BX := nbelowW w (.cells #[.int .i64 kind, .string (tx b)] 25)
    have c0 : (w.alloc (.cells #[.int .i64 kind, .string (tx b)] 25)).cell? ⟨w.heap.size, 0, none⟩ = some (.int .i64 kind) := by simp
    have c1 : (w.alloc (.cells #[.int .i64 kind, .string (tx b)] 25)).cell? ⟨w.heap.size, 1, none⟩ = some (.string (tx b)) := by simp
    have KX := hide (hm.next BX)
    have hR := hide (fun W => ruleOf_any kind W)
    go_enter Tryz.func11, Tryz.ntmps11
    go_wp2_with fail
    refine (hR.out _).mono ?_
    rintro e w1 ⟨rfl, B1⟩
    have k1 := (B1.cell (p := ⟨w.heap.size, 1, none⟩) (lt_of_cell c1)).trans c1
    have K1 := hide (KX.out.next B1)
    clear KX BX B1 c0 c1
    rw [hv, hd]
    have hk4 := h4
    clear hv hd h4 hR
    generalize rAt kind = rk4 at D hk4 ⊢
    rcases (by omega : rk4 = 0 ∨ rk4 = 1 ∨ rk4 = 2 ∨ rk4 = 3) with rfl | rfl | rfl | rfl
    · have q1 : ∀ o, (w1.alloc o).cell? ⟨w.heap.size, 1, none⟩ = some (.string (tx b)) := fun o => ((nbelowW w1 o).cell (p := ⟨w.heap.size, 1, none⟩) (lt_of_cell k1)).trans k1
      simp only [rmF, rhF] at D ⊢
      go_wp2_with fail
      refine (D.out _ (K1.out.next (nbelowW _ _))).mono ?_
      rintro e w2 ⟨rfl, K2⟩
      go_wp2
      go_ret
      exact ⟨by simp, K2⟩
    · have q1 : ∀ o, (w1.alloc o).cell? ⟨w.heap.size, 1, none⟩ = some (.string (tx b)) := fun o => ((nbelowW w1 o).cell (p := ⟨w.heap.size, 1, none⟩) (lt_of_cell k1)).trans k1
      simp only [rmF, rhF] at D ⊢
      go_wp2_with fail
      refine (D.out _ (K1.out.next (nbelowW _ _))).mono ?_
      rintro e w2 ⟨rfl, K2⟩
      go_wp2
      go_ret
      exact ⟨by simp, K2⟩
    · have q1 : ∀ o, (w1.alloc o).cell? ⟨w.heap.size, 1, none⟩ = some (.string (tx b)) := fun o => ((nbelowW w1 o).cell (p := ⟨w.heap.size, 1, none⟩) (lt_of_cell k1)).trans k1
      simp only [rmF, rhF] at D ⊢
      go_wp2_with fail
      refine (D.out _ (K1.out.next (nbelowW _ _))).mono ?_
      rintro e w2 ⟨rfl, K2⟩
      go_wp2
      go_ret
      exact ⟨by simp, K2⟩
    · have q1 : ∀ o, (w1.alloc o).cell? ⟨w.heap.size, 1, none⟩ = some (.string (tx b)) := fun o => ((nbelowW w1 o).cell (p := ⟨w.heap.size, 1, none⟩) (lt_of_cell k1)).trans k1
      simp only [rmF, rhF] at D ⊢
      go_wp2_with fail
      refine (D.out _ (K1.out.next (nbelowW _ _))).mono ?_
      rintro e w2 ⟨rfl, K2⟩
      go_wp2
      go_ret
      exact ⟨by simp, K2⟩
  · have hd := decide_eq_false h4
    have hv := rAt_none h4
    rw [hd]
    have BX := nbelowW w (.cells #[.int .i64 kind, .string (tx b)] 25)
    have c0 : (w.alloc (.cells #[.int .i64 kind, .string (tx b)] 25)).cell? ⟨w.heap.size, 0, none⟩ = some (.int .i64 kind) := by simp
    have c1 : (w.alloc (.cells #[.int .i64 kind, .string (tx b)] 25)).cell? ⟨w.heap.size, 1, none⟩ = some (.string (tx b)) := by simp
    have KX := hide (hm.next BX)
    have hR := hide (fun W => ruleOf_any kind W)
    go_enter Tryz.func11, Tryz.ntmps11
    go_wp2_with fail
    refine (hR.out _).mono ?_
    rintro e w1 ⟨rfl, B1⟩
    have k1 := (B1.cell (p := ⟨w.heap.size, 1, none⟩) (lt_of_cell c1)).trans c1
    have K1 := hide (KX.out.next B1)
    clear KX BX B1 c0 c1
    rw [hv, hd]
    clear hv hd h4 hR
    go_wp2
    go_ret
    exact ⟨by simp, K1.out.next (nbelowW _ _)⟩

end Go.Proofs.YtcbcdfdicefkoaaGreatDoor

namespace Go.Proofs.YtcbcdfdicefkoaaGreatDoor
open Go.RowKit Go.Shelf Go.IntWalk

def boxS (kind : Int) (b : List UInt8) : Obj := .cells #[.int .i64 kind, .string (tx b)] 25
def boxG (kind : Int) (s : List UInt8) : Obj := .cells #[.int .i64 kind, .string (tx s)] 27
/-- The boxes of a subtree and of a general name. -/
structure Two (g : Nat) (kind : Int) (b : List UInt8) (gk : Int) (s : List UInt8) (W : World) : Prop where
  s0 : W.cell? ⟨g, 0, none⟩ = some (.int .i64 kind)
  s1 : W.cell? ⟨g, 1, none⟩ = some (.string (tx b))
  g0 : W.cell? ⟨g + 1, 0, none⟩ = some (.int .i64 gk)
  g1 : W.cell? ⟨g + 1, 1, none⟩ = some (.string (tx s))
theorem Two.below {g : Nat} {kind gk : Int} {b s : List UInt8} {W W' : World} (h : Two g kind b gk s W) (hb : Below W.heap.size W W') : Two g kind b gk s W' :=
  ⟨(hb.cell (lt_of_cell h.s0)).trans h.s0, (hb.cell (lt_of_cell h.s1)).trans h.s1, (hb.cell (lt_of_cell h.g0)).trans h.g0, (hb.cell (lt_of_cell h.g1)).trans h.g1⟩
theorem two_new (w : World) (kind gk : Int) (b s : List UInt8) : Two w.heap.size kind b gk s ((w.alloc (boxS kind b)).alloc (boxG gk s)) := by
  have hz : (w.alloc (boxS kind b)).heap.size = w.heap.size + 1 := by simp
  have B := nbelowW (w.alloc (boxS kind b)) (boxG gk s)
  have c0 : (w.alloc (boxS kind b)).cell? ⟨w.heap.size, 0, none⟩ = some (.int .i64 kind) := by unfold boxS; simp
  have c1 : (w.alloc (boxS kind b)).cell? ⟨w.heap.size, 1, none⟩ = some (.string (tx b)) := by unfold boxS; simp
  refine ⟨(B.cell (lt_of_cell c0)).trans c0, (B.cell (lt_of_cell c1)).trans c1, ?_, ?_⟩
  · rw [← hz]; unfold boxG; simp
  · rw [← hz]; unfold boxG; simp

set_option maxRecDepth 100000 in
set_option maxHeartbeats 2000000 in
theorem holds_kp (w0 : World) (kind : Int) (b : List UInt8) (gk : Int) (s : List UInt8) (H : Bool) (m : Int) (h4 : rAt kind < 4)
    (hH : kind = gk → ∀ W, Kp w0 m W → Calls Tryz.prog (rhF (rAt kind)) #[.string (tx b), .string (tx s)] W fun e W' => e = .returned (.bool H) ∧ Kp w0 m W') (w : World) (hm : Kp w0 m w) :
    Calls Tryz.prog 36 #[.agg #[.int .i64 kind, .string (tx b)], .agg #[.int .i64 gk, .string (tx s)]] w fun e w' => e = .returned (.bool (decide (kind = gk) && H)) ∧ Kp w0 m w' := by
  have hR := hide (fun W => ruleOf_any kind W)
  have hv := rAt_some h4
  have BX := (nbelowW w (boxS kind b)).trans ((nbelowW (w.alloc (boxS kind b)) (boxG gk s)).mono (by simp))
  have T0 := two_new w kind gk b s
  have KX := hide (hm.next BX)
  unfold boxS boxG at T0 KX
  clear BX
  go_enter Tryz.func36, Tryz.ntmps36
  have t0 := T0.s0
  go_wp2_with fail
  refine (hR.out _).mono ?_
  rintro e w1 ⟨rfl, B1⟩
  have T1 := T0.below B1
  have K1 := hide (KX.out.next B1)
  clear T0 KX B1 t0 hR
  rw [hv]
  clear hv
  by_cases he : kind = gk
  · have D := hide (hH he)
    have hd := decide_eq_true he
    have hd2 : (kind == gk) = true := by simpa using he
    have HD := hide hd
    clear hd he hH
    generalize rAt kind = rk4 at D h4 ⊢
    rcases (by omega : rk4 = 0 ∨ rk4 = 1 ∨ rk4 = 2 ∨ rk4 = 3) with rfl | rfl | rfl | rfl
    · have T2 : ∀ o, Two w.heap.size kind b gk s (w1.alloc o) := fun o => T1.below (nbelowW w1 o)
      have t0 := fun o => (T2 o).s0
      have t1 := fun o => (T2 o).s1
      have t2 := fun o => (T2 o).g0
      have t3 := fun o => (T2 o).g1
      clear T2
      simp only [rmF, rhF] at D ⊢
      go_wp2_with fail
      refine (D.out _ (K1.out.next (nbelowW _ _))).mono ?_
      rintro e w2 ⟨rfl, K2⟩
      go_wp2
      go_ret
      exact ⟨by rw [HD.out]; simp, K2⟩
    · have T2 : ∀ o, Two w.heap.size kind b gk s (w1.alloc o) := fun o => T1.below (nbelowW w1 o)
      have t0 := fun o => (T2 o).s0
      have t1 := fun o => (T2 o).s1
      have t2 := fun o => (T2 o).g0
      have t3 := fun o => (T2 o).g1
      clear T2
      simp only [rmF, rhF] at D ⊢
      go_wp2_with fail
      refine (D.out _ (K1.out.next (nbelowW _ _))).mono ?_
      rintro e w2 ⟨rfl, K2⟩
      go_wp2
      go_ret
      exact ⟨by rw [HD.out]; simp, K2⟩
    · have T2 : ∀ o, Two w.heap.size kind b gk s (w1.alloc o) := fun o => T1.below (nbelowW w1 o)
      have t0 := fun o => (T2 o).s0
      have t1 := fun o => (T2 o).s1
      have t2 := fun o => (T2 o).g0
      have t3 := fun o => (T2 o).g1
      clear T2
      simp only [rmF, rhF] at D ⊢
      go_wp2_with fail
      refine (D.out _ (K1.out.next (nbelowW _ _))).mono ?_
      rintro e w2 ⟨rfl, K2⟩
      go_wp2
      go_ret
      exact ⟨by rw [HD.out]; simp, K2⟩
    · have T2 : ∀ o, Two w.heap.size kind b gk s (w1.alloc o) := fun o => T1.below (nbelowW w1 o)
      have t0 := fun o => (T2 o).s0
      have t1 := fun o => (T2 o).s1
      have t2 := fun o => (T2 o).g0
      have t3 := fun o => (T2 o).g1
      clear T2
      simp only [rmF, rhF] at D ⊢
      go_wp2_with fail
      refine (D.out _ (K1.out.next (nbelowW _ _))).mono ?_
      rintro e w2 ⟨rfl, K2⟩
      go_wp2
      go_ret
      exact ⟨by rw [HD.out]; simp, K2⟩
  · have hd := decide_eq_false he
    have hd2 : (kind == gk) = false := by simpa using he
    have HD := hide hd
    clear hd he hH h4
    have T2 : ∀ o, Two w.heap.size kind b gk s (w1.alloc o) := fun o => T1.below (nbelowW w1 o)
    have t0 := fun o => (T2 o).s0
    have t2 := fun o => (T2 o).g0
    clear T2
    go_wp2
    go_ret
    exact ⟨by rw [HD.out]; simp, K1.out.next (nbelowW _ _)⟩

end Go.Proofs.YtcbcdfdicefkoaaGreatDoor

namespace Go.Proofs.YtcbcdfdicefkoaaGreatDoor
open Go.RowKit Go.Shelf Go.IntWalk

set_option maxRecDepth 100000 in
set_option maxHeartbeats 2000000 in
theorem all_kp (w0 : World) (kind : Int) (b : List UInt8) (gk : Int) (s : List UInt8) (A Y R : Bool) (m : Int) (w : World) (hm : Kp w0 m w)
    (h1 : ∀ W, Kp w0 m W → Calls Tryz.prog 11 #[.agg #[.int .i64 kind, .string (tx b)]] W fun e W' => e = .returned (.bool A) ∧ Below W.heap.size W W' ∧ Kp w0 m W')
    (h2 : A = true → ∀ W, Kp w0 m W → Calls Tryz.prog 22 #[.agg #[.int .i64 gk, .string (tx s)]] W fun e W' => e = .returned (.bool Y) ∧ Below W.heap.size W W' ∧ Kp w0 m W')
    (h3 : A = true → Y = true → ∀ W, Kp w0 m W → Calls Tryz.prog 36 #[.agg #[.int .i64 kind, .string (tx b)], .agg #[.int .i64 gk, .string (tx s)]] W fun e W' => e = .returned (.bool R) ∧ Kp w0 m W') :
    Calls Tryz.prog 13 #[.agg #[.int .i64 kind, .string (tx b)], .agg #[.int .i64 gk, .string (tx s)]] w fun e w' => e = .returned (.bool (A && (Y && R))) ∧ Kp w0 m w' := by
  have BX := (nbelowW w (boxS kind b)).trans ((nbelowW (w.alloc (boxS kind b)) (boxG gk s)).mono (by simp))
  have T0 := two_new w kind gk b s
  have KX := hide (hm.next BX)
  unfold boxS boxG at T0 KX
  clear BX
  have D1 := hide h1
  cases A with
  | false =>
    clear h1 h2 h3
    go_enter Tryz.func13, Tryz.ntmps13
    have s0 := T0.s0
    have s1 := T0.s1
    go_wp2_with fail
    refine (D1.out _ KX.out).mono ?_
    rintro e w1 ⟨rfl, B1, K1⟩
    have T1 := T0.below B1
    clear T0 s0 s1 KX B1
    go_wp2
    go_ret
    exact ⟨by simp, K1⟩
  | true =>
    have D2 := hide (h2 rfl)
    cases Y with
    | false =>
      clear h1 h2 h3
      go_enter Tryz.func13, Tryz.ntmps13
      have s0 := T0.s0
      have s1 := T0.s1
      go_wp2_with fail
      refine (D1.out _ KX.out).mono ?_
      rintro e w1 ⟨rfl, B1, K1⟩
      have T1 := T0.below B1
      clear T0 s0 s1 KX B1
      have r0 := T1.g0
      have r1 := T1.g1
      go_wp2_with fail
      refine (D2.out _ K1).mono ?_
      rintro e w2 ⟨rfl, B2, K2⟩
      have T2 := T1.below B2
      clear T1 r0 r1 K1 B2
      go_wp2
      go_ret
      exact ⟨by simp, K2⟩
    | true =>
      have D3 := hide (h3 rfl rfl)
      clear h1 h2 h3
      go_enter Tryz.func13, Tryz.ntmps13
      have s0 := T0.s0
      have s1 := T0.s1
      go_wp2_with fail
      refine (D1.out _ KX.out).mono ?_
      rintro e w1 ⟨rfl, B1, K1⟩
      have T1 := T0.below B1
      clear T0 s0 s1 KX B1
      have r0 := T1.g0
      have r1 := T1.g1
      go_wp2_with fail
      refine (D2.out _ K1).mono ?_
      rintro e w2 ⟨rfl, B2, K2⟩
      have T2 := T1.below B2
      clear T1 r0 r1 K1 B2
      have r0 := T2.s0
      have r1 := T2.s1
      have r2 := T2.g0
      have r3 := T2.g1
      go_wp2_with fail
      refine (D3.out _ K2).mono ?_
      rintro e w3 ⟨rfl, K3⟩
      go_wp2
      go_ret
      exact ⟨by simp, K3⟩
set_option maxRecDepth 100000 in
set_option maxHeartbeats 2000000 in
theorem some_kp (w0 : World) (kind : Int) (b : List UInt8) (gk : Int) (s : List UInt8) (A Y R : Bool) (m : Int) (w : World) (hm : Kp w0 m w)
    (h1 : ∀ W, Kp w0 m W → Calls Tryz.prog 11 #[.agg #[.int .i64 kind, .string (tx b)]] W fun e W' => e = .returned (.bool A) ∧ Below W.heap.size W W' ∧ Kp w0 m W')
    (h2 : A = true → ∀ W, Kp w0 m W → Calls Tryz.prog 22 #[.agg #[.int .i64 gk, .string (tx s)]] W fun e W' => e = .returned (.bool Y) ∧ Below W.heap.size W W' ∧ Kp w0 m W')
    (h3 : A = true → Y = true → ∀ W, Kp w0 m W → Calls Tryz.prog 40 #[.agg #[.int .i64 kind, .string (tx b)], .agg #[.int .i64 gk, .string (tx s)]] W fun e W' => e = .returned (.bool R) ∧ Kp w0 m W') :
    Calls Tryz.prog 15 #[.agg #[.int .i64 kind, .string (tx b)], .agg #[.int .i64 gk, .string (tx s)]] w fun e w' => e = .returned (.bool (A && (Y && R))) ∧ Kp w0 m w' := by
  have BX := (nbelowW w (boxS kind b)).trans ((nbelowW (w.alloc (boxS kind b)) (boxG gk s)).mono (by simp))
  have T0 := two_new w kind gk b s
  have KX := hide (hm.next BX)
  unfold boxS boxG at T0 KX
  clear BX
  have D1 := hide h1
  cases A with
  | false =>
    clear h1 h2 h3
    go_enter Tryz.func15, Tryz.ntmps15
    have s0 := T0.s0
    have s1 := T0.s1
    go_wp2_with fail
    refine (D1.out _ KX.out).mono ?_
    rintro e w1 ⟨rfl, B1, K1⟩
    have T1 := T0.below B1
    clear T0 s0 s1 KX B1
    go_wp2
    go_ret
    exact ⟨by simp, K1⟩
  | true =>
    have D2 := hide (h2 rfl)
    cases Y with
    | false =>
      clear h1 h2 h3
      go_enter Tryz.func15, Tryz.ntmps15
      have s0 := T0.s0
      have s1 := T0.s1
      go_wp2_with fail
      refine (D1.out _ KX.out).mono ?_
      rintro e w1 ⟨rfl, B1, K1⟩
      have T1 := T0.below B1
      clear T0 s0 s1 KX B1
      have r0 := T1.g0
      have r1 := T1.g1
      go_wp2_with fail
      refine (D2.out _ K1).mono ?_
      rintro e w2 ⟨rfl, B2, K2⟩
      have T2 := T1.below B2
      clear T1 r0 r1 K1 B2
      go_wp2
      go_ret
      exact ⟨by simp, K2⟩
    | true =>
      have D3 := hide (h3 rfl rfl)
      clear h1 h2 h3
      go_enter Tryz.func15, Tryz.ntmps15
      have s0 := T0.s0
      have s1 := T0.s1
      go_wp2_with fail
      refine (D1.out _ KX.out).mono ?_
      rintro e w1 ⟨rfl, B1, K1⟩
      have T1 := T0.below B1
      clear T0 s0 s1 KX B1
      have r0 := T1.g0
      have r1 := T1.g1
      go_wp2_with fail
      refine (D2.out _ K1).mono ?_
      rintro e w2 ⟨rfl, B2, K2⟩
      have T2 := T1.below B2
      clear T1 r0 r1 K1 B2
      have r0 := T2.s0
      have r1 := T2.s1
      have r2 := T2.g0
      have r3 := T2.g1
      go_wp2_with fail
      refine (D3.out _ K2).mono ?_
      rintro e w3 ⟨rfl, K3⟩
      go_wp2
      go_ret
      exact ⟨by simp, K3⟩

end Go.Proofs.YtcbcdfdicefkoaaGreatDoor

namespace Go.Proofs.YtcbcdfdicefkoaaGreatDoor
open Go.RowKit Go.Shelf Go.IntWalk

/-- What stands behind the *. of a wild name; else the text itself. -/
def trimW (s : List UInt8) : List UInt8 := Lib.trimPrefix s [42, 46]

theorem Kp.own {w0 w : World} {m : Int} (h : Kp w0 m w) {W' : World} (h2 : Kp w m W') : Kp w0 m W' := h.next h2.1

set_option maxRecDepth 100000 in
theorem isHost_kp (w0 : World) (b : List UInt8) (hb : b.length ≤ 1048576) (m : Int) (w : World) (hm : Kp w0 m w) :
    Calls Tryz.prog 99 #[.string (tx b)] w fun e w' => e = .returned (.bool (dnsL b)) ∧ Kp w0 m w' := by
  have d1 := hide (dns_any b hb m w hm.2)
  have HM := hide hm
  clear hm
  go_enter Tryz.func99, Tryz.ntmps99
  go_wp2_with fail
  refine d1.out.mono ?_
  rintro e w1 ⟨rfl, B1⟩
  go_wp2
  go_ret
  exact ⟨rfl, HM.out.next B1⟩

theorem trim_any (s : List UInt8) (w : World) :
    Calls Tryz.prog 125 #[.string (tx s), .string ⟨#[42, 46]⟩] w fun e w' => e = .returned (.string (tx (trimW s))) ∧ w' = w := by
  exact Tryz.strings_TrimPrefix (tx s) (tx [42, 46]) w
theorem trim_len (s : List UInt8) : (trimW s).length ≤ s.length := by
  unfold trimW Lib.trimPrefix
  split
  · rw [List.length_drop]; omega
  · exact Nat.le_refl _

set_option maxRecDepth 100000 in
theorem hasHost_kp (w0 : World) (b s : List UInt8) (hb : b.length ≤ 1048576) (hs : s.length ≤ 1048576) (m : Int) (w : World) (hm : Kp w0 m w) :
    Calls Tryz.prog 100 #[.string (tx b), .string (tx s)] w fun e w' => e = .returned (.bool (belB (trimW s) b)) ∧ Kp w0 m w' := by
  have d1 := hide (trim_any s w)
  have d2 := hide (below_kp w0 (trimW s) b (Nat.le_trans (trim_len s) hs) hb m w hm)
  go_enter Tryz.func100, Tryz.ntmps100
  go_wp2_with fail
  refine d1.out.mono ?_
  rintro e w1 ⟨rfl, rfl⟩
  go_wp2_with fail
  refine d2.out.mono ?_
  rintro e w2 ⟨rfl, K2⟩
  go_wp2
  go_ret
  exact ⟨rfl, K2⟩

set_option maxRecDepth 100000 in
theorem names14_any (w : World) : Calls Tryz.prog 31 #[] w fun e w' => e = .returned (.bool true) ∧ w' = w := by
  go_enter Tryz.func31, Tryz.ntmps31
  go_wp2
  go_ret
  exact ⟨rfl, rfl⟩

/-- All of {GDNS, a.b} of the host x.a.b. -/
theorem all_one (w0 : World) (m : Int) (w : World) (hm : Kp w0 m w) :
    Calls Tryz.prog 13 #[.agg #[.int .i64 2, .string ⟨#[97, 46, 98]⟩], .agg #[.int .i64 2, .string ⟨#[120, 46, 97, 46, 98]⟩]] w fun e w' => e = .returned (.bool true) ∧ Kp w0 m w' := by
  have e1 : dnsL [97, 46, 98] = true := by decide
  have e2 : hmay 2 [120, 46, 97, 46, 98] false = true := by decide
  have e3 : belB (trimW [120, 46, 97, 46, 98]) [97, 46, 98] = true := by decide
  have e4 : rAt 2 = 1 := rfl
  have h := all_kp w0 2 [97, 46, 98] 2 [120, 46, 97, 46, 98] true true true m w hm
    (fun W hW => by
      have h9 := wmay_kp W 2 [97, 46, 98] true m (fun _ V hV => by rw [e4]; have := isHost_kp W [97, 46, 98] (by decide) m V hV; rw [e1] at this; exact this) W (Kp.refl hW.2)
      exact h9.mono fun e W' ⟨k1, k2⟩ => ⟨k1, k2.1, hW.own k2⟩)
    (fun _ W hW => by
      have h9 := hmay_kp W 2 (by decide) [120, 46, 97, 46, 98] (by decide) false m (fun h => by cases h) W (Kp.refl hW.2)
      rw [e2] at h9
      exact h9.mono fun e W' ⟨k1, k2⟩ => ⟨k1, k2.1, hW.own k2⟩)
    (fun _ _ W hW => by
      have h9 := holds_kp W 2 [97, 46, 98] 2 [120, 46, 97, 46, 98] true m (by decide) (fun _ V hV => by rw [e4]; have := hasHost_kp W [97, 46, 98] [120, 46, 97, 46, 98] (by decide) (by decide) m V hV; rw [e3] at this; exact this) W (Kp.refl hW.2)
      exact h9.mono fun e W' ⟨k1, k2⟩ => ⟨k1, hW.own k2⟩)
  exact h

set_option maxRecDepth 100000 in
set_option maxHeartbeats 1000000 in
theorem works14_kp (w0 : World) (m : Int) (w : World) (hm : Kp w0 m w) :
    Calls Tryz.prog 10 #[] w fun e w' => e = .returned (.bool true) ∧ Kp w0 m w' := by
  have e1 : belB [120, 46, 97, 46, 98] [97, 46, 98] = true := by decide
  have d1 : Hid (∀ W, Kp w0 m W → Calls Tryz.prog 8 #[.string ⟨#[120, 46, 97, 46, 98]⟩, .string ⟨#[97, 46, 98]⟩] W fun e W' => e = .returned (.bool true) ∧ Kp w0 m W') := fun W h => by have := below_kp w0 [120, 46, 97, 46, 98] [97, 46, 98] (by decide) (by decide) m W h; rw [e1] at this; exact this
  have d2 := hide (all_one w0 m)
  have HM := hide hm
  clear e1 hm
  go_enter Tryz.func10, Tryz.ntmps10
  go_wp2_with fail
  refine (d1.out _ HM.out).mono ?_
  rintro e w1 ⟨rfl, K1⟩
  go_wp2_with fail
  refine (d2.out _ K1).mono ?_
  rintro e w2 ⟨rfl, K2⟩
  go_wp2_with fail
  refine (names14_any _).mono ?_
  rintro e w3 ⟨rfl, rfl⟩
  go_wp2
  go_ret
  exact ⟨rfl, K2⟩

end Go.Proofs.YtcbcdfdicefkoaaGreatDoor
