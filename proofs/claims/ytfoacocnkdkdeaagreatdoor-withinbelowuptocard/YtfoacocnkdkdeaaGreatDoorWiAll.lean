/-
  within.holds and All: what a rule's questions answer is handed in.
-/
import Derived.Test.YtfoacocnkdkdeaaGreatDoorWiMay
namespace Go.Proofs.YtfoacocnkdkdeaaGreatDoor
open Go.RowKit Go.Shelf Go.IntWalk

def boxS (kind : Int) (b : List UInt8) : Obj := .cells #[.int .i64 kind, .string (tx b)] 25
def boxG (kind : Int) (s : List UInt8) : Obj := .cells #[.int .i64 kind, .string (tx s)] 27
/-- The boxes of a subtree and of a general name. -/
structure Two (g : Nat) (kind : Int) (b : List UInt8) (gk : Int) (s : List UInt8) (W : World) : Prop where
  s0 : W.cell? ⟨g, 0, none⟩ = some (.int .i64 kind)
  s1 : W.cell? ⟨g, 1, none⟩ = some (.string (tx b))
  g0 : W.cell? ⟨g + 1, 0, none⟩ = some (.int .i64 gk)
  g1 : W.cell? ⟨g + 1, 1, none⟩ = some (.string (tx s))
theorem Two.below {g : Nat} {kind gk : Int} {b s : List UInt8} {W W' : World} (h : Two g kind b gk s W) (hb : Below W.heap.size W W') : Two g kind b gk s W' :=
  ⟨(hb.cell (lt_of_cell h.s0)).trans h.s0, (hb.cell (lt_of_cell h.s1)).trans h.s1, (hb.cell (lt_of_cell h.g0)).trans h.g0, (hb.cell (lt_of_cell h.g1)).trans h.g1⟩
theorem two_new (w : World) (kind gk : Int) (b s : List UInt8) : Two w.heap.size kind b gk s ((w.alloc (boxS kind b)).alloc (boxG gk s)) := by
  have hz : (w.alloc (boxS kind b)).heap.size = w.heap.size + 1 := by simp
  have B := nbelowW (w.alloc (boxS kind b)) (boxG gk s)
  have c0 : (w.alloc (boxS kind b)).cell? ⟨w.heap.size, 0, none⟩ = some (.int .i64 kind) := by unfold boxS; simp
  have c1 : (w.alloc (boxS kind b)).cell? ⟨w.heap.size, 1, none⟩ = some (.string (tx b)) := by unfold boxS; simp
  refine ⟨(B.cell (lt_of_cell c0)).trans c0, (B.cell (lt_of_cell c1)).trans c1, ?_, ?_⟩
  · rw [← hz]; unfold boxG; simp
  · rw [← hz]; unfold boxG; simp

set_option maxRecDepth 100000 in
set_option maxHeartbeats 2000000 in
theorem holds_kp (w0 : World) (kind : Int) (b : List UInt8) (gk : Int) (s : List UInt8) (H : Bool) (m : Int) (h4 : rAt kind < 4)
    (hH : kind = gk → ∀ W, Kp w0 m W → Calls Tryz.prog (rhF (rAt kind)) #[.string (tx b), .string (tx s)] W fun e W' => e = .returned (.bool H) ∧ Kp w0 m W') (w : World) (hm : Kp w0 m w) :
    Calls Tryz.prog 36 #[.agg #[.int .i64 kind, .string (tx b)], .agg #[.int .i64 gk, .string (tx s)]] w fun e w' => e = .returned (.bool (decide (kind = gk) && H)) ∧ Kp w0 m w' := by
  have hR := hide (fun W => ruleOf_any kind W)
  have hv := rAt_some h4
  have BX := (nbelowW w (boxS kind b)).trans ((nbelowW (w.alloc (boxS kind b)) (boxG gk s)).mono (by simp))
  have T0 := two_new w kind gk b s
  have KX := hide (hm.next BX)
  unfold boxS boxG at T0 KX
  clear BX
  go_enter Tryz.func36, Tryz.ntmps36
  have t0 := T0.s0
  go_wp2_with fail
  refine (hR.out _).mono ?_
  rintro e w1 ⟨rfl, B1⟩
  have T1 := T0.below B1
  have K1 := hide (KX.out.next B1)
  clear T0 KX B1 t0 hR
  rw [hv]
  clear hv
  by_cases he : kind = gk
  · have D := hide (hH he)
    have hd := decide_eq_true he
    have hd2 : (kind == gk) = true := by simpa using he
    have HD := hide hd
    clear hd he hH
    generalize rAt kind = rk4 at D h4 ⊢
    rcases (by omega : rk4 = 0 ∨ rk4 = 1 ∨ rk4 = 2 ∨ rk4 = 3) with rfl | rfl | rfl | rfl
    · have T2 : ∀ o, Two w.heap.size kind b gk s (w1.alloc o) := fun o => T1.below (nbelowW w1 o)
      have t0 := fun o => (T2 o).s0
      have t1 := fun o => (T2 o).s1
      have t2 := fun o => (T2 o).g0
      have t3 := fun o => (T2 o).g1
      clear T2
      simp only [rmF, rhF] at D ⊢
      go_wp2_with fail
      refine (D.out _ (K1.out.next (nbelowW _ _))).mono ?_
      rintro e w2 ⟨rfl, K2⟩
      go_wp2
      go_ret
      exact ⟨by rw [HD.out]; simp, K2⟩
    · have T2 : ∀ o, Two w.heap.size kind b gk s (w1.alloc o) := fun o => T1.below (nbelowW w1 o)
      have t0 := fun o => (T2 o).s0
      have t1 := fun o => (T2 o).s1
      have t2 := fun o => (T2 o).g0
      have t3 := fun o => (T2 o).g1
      clear T2
      simp only [rmF, rhF] at D ⊢
      go_wp2_with fail
      refine (D.out _ (K1.out.next (nbelowW _ _))).mono ?_
      rintro e w2 ⟨rfl, K2⟩
      go_wp2
      go_ret
      exact ⟨by rw [HD.out]; simp, K2⟩
    · have T2 : ∀ o, Two w.heap.size kind b gk s (w1.alloc o) := fun o => T1.below (nbelowW w1 o)
      have t0 := fun o => (T2 o).s0
      have t1 := fun o => (T2 o).s1
      have t2 := fun o => (T2 o).g0
      have t3 := fun o => (T2 o).g1
      clear T2
      simp only [rmF, rhF] at D ⊢
      go_wp2_with fail
      refine (D.out _ (K1.out.next (nbelowW _ _))).mono ?_
      rintro e w2 ⟨rfl, K2⟩
      go_wp2
      go_ret
      exact ⟨by rw [HD.out]; simp, K2⟩
    · have T2 : ∀ o, Two w.heap.size kind b gk s (w1.alloc o) := fun o => T1.below (nbelowW w1 o)
      have t0 := fun o => (T2 o).s0
      have t1 := fun o => (T2 o).s1
      have t2 := fun o => (T2 o).g0
      have t3 := fun o => (T2 o).g1
      clear T2
      simp only [rmF, rhF] at D ⊢
      go_wp2_with fail
      refine (D.out _ (K1.out.next (nbelowW _ _))).mono ?_
      rintro e w2 ⟨rfl, K2⟩
      go_wp2
      go_ret
      exact ⟨by rw [HD.out]; simp, K2⟩
  · have hd := decide_eq_false he
    have hd2 : (kind == gk) = false := by simpa using he
    have HD := hide hd
    clear hd he hH h4
    have T2 : ∀ o, Two w.heap.size kind b gk s (w1.alloc o) := fun o => T1.below (nbelowW w1 o)
    have t0 := fun o => (T2 o).s0
    have t2 := fun o => (T2 o).g0
    clear T2
    go_wp2
    go_ret
    exact ⟨by rw [HD.out]; simp, K1.out.next (nbelowW _ _)⟩

end Go.Proofs.YtfoacocnkdkdeaaGreatDoor
