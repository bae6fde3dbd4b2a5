/-
  within.May, holds, All: what a rule's questions answer is handed in.
-/
import Derived.Test.YtfoacocnkdkdeaaGreatDoorWiRule
import Derived.Test.YtfoacocnkdkdeaaGreatDoorWiHMay
namespace Go.Proofs.YtfoacocnkdkdeaaGreatDoor
open Go.RowKit Go.Shelf Go.IntWalk

def rmF : Nat → Nat | 0 => 97 | 1 => 99 | 2 => 101 | _ => 103
def rhF : Nat → Nat | 0 => 98 | 1 => 100 | 2 => 102 | _ => 104
theorem rm_F (k : Nat) : rm k = .func (.func (rmF k)) #[] #[] := by rcases k with _ | _ | _ | k <;> rfl
theorem rh_F (k : Nat) : rh k = .func (.func (rhF k)) #[] #[] := by rcases k with _ | _ | _ | k <;> rfl
theorem rAt_none {kind : Int} (h : ¬ rAt kind < 4) : ruleV kind = .agg #[.int .i64 0, .nilFunc, .nilFunc] := by unfold ruleV; rw [if_neg h]
theorem rAt_some {kind : Int} (h : rAt kind < 4) : ruleV kind = .agg #[.int .i64 kind, .func (.func (rmF (rAt kind))) #[] #[], .func (.func (rhF (rAt kind))) #[] #[]] := by unfold ruleV; rw [if_pos h, rm_F, rh_F]

set_option maxRecDepth 100000 in
set_option maxHeartbeats 2000000 in
theorem wmay_kp (w0 : World) (kind : Int) (b : List UInt8) (M : Bool) (m : Int)
    (hM : rAt kind < 4 → ∀ W, Kp w0 m W → Calls Tryz.prog (rmF (rAt kind)) #[.string (tx b)] W fun e W' => e = .returned (.bool M) ∧ Kp w0 m W') (w : World) (hm : Kp w0 m w) :
    Calls Tryz.prog 11 #[.agg #[.int .i64 kind, .string (tx b)]] w fun e w' => e = .returned (.bool (decide (rAt kind < 4) && M)) ∧ Kp w0 m w' := by
  by_cases h4 : rAt kind < 4
  · have hd := decide_eq_true h4
    have hv := rAt_some h4
    have D := hide (hM h4)
    rw [hd]
    have BX := nbelowW w (.cells #[.int .i64 kind, .string (tx b)] 25)
    have c0 : (w.alloc (.cells #[.int .i64 kind, .string (tx b)] 25)).cell? ⟨w.heap.size, 0, none⟩ = some (.int .i64 kind) := by simp
    have c1 : (w.alloc (.cells #[.int .i64 kind, .string (tx b)] 25)).cell? ⟨w.heap.size, 1, none⟩ = some (.string (tx b)) := by simp
    have KX := hide (hm.next BX)
    have hR := hide (fun W => ruleOf_any kind W)
    go_enter Tryz.func11, Tryz.ntmps11
    go_wp2_with fail
    refine (hR.out _).mono ?_
    rintro e w1 ⟨rfl, B1⟩
    have k1 := (B1.cell (p := ⟨w.heap.size, 1, none⟩) (lt_of_cell c1)).trans c1
    have K1 := hide (KX.out.next B1)
    clear KX BX B1 c0 c1
    rw [hv, hd]
    have hk4 := h4
    clear hv hd h4 hR
    generalize rAt kind = rk4 at D hk4 ⊢
    rcases (by omega : rk4 = 0 ∨ rk4 = 1 ∨ rk4 = 2 ∨ rk4 = 3) with rfl | rfl | rfl | rfl
    · have q1 : ∀ o, (w1.alloc o).cell? ⟨w.heap.size, 1, none⟩ = some (.string (tx b)) := fun o => ((nbelowW w1 o).cell (p := ⟨w.heap.size, 1, none⟩) (lt_of_cell k1)).trans k1
      simp only [rmF, rhF] at D ⊢
      go_wp2_with fail
      refine (D.out _ (K1.out.next (nbelowW _ _))).mono ?_
      rintro e w2 ⟨rfl, K2⟩
      go_wp2
      go_ret
      exact ⟨by simp, K2⟩
    · have q1 : ∀ o, (w1.alloc o).cell? ⟨w.heap.size, 1, none⟩ = some (.string (tx b)) := fun o => ((nbelowW w1 o).cell (p := ⟨w.heap.size, 1, none⟩) (lt_of_cell k1)).trans k1
      simp only [rmF, rhF] at D ⊢
      go_wp2_with fail
      refine (D.out _ (K1.out.next (nbelowW _ _))).mono ?_
      rintro e w2 ⟨rfl, K2⟩
      go_wp2
      go_ret
      exact ⟨by simp, K2⟩
    · have q1 : ∀ o, (w1.alloc o).cell? ⟨w.heap.size, 1, none⟩ = some (.string (tx b)) := fun o => ((nbelowW w1 o).cell (p := ⟨w.heap.size, 1, none⟩) (lt_of_cell k1)).trans k1
      simp only [rmF, rhF] at D ⊢
      go_wp2_with fail
      refine (D.out _ (K1.out.next (nbelowW _ _))).mono ?_
      rintro e w2 ⟨rfl, K2⟩
      go_wp2
      go_ret
      exact ⟨by simp, K2⟩
    · have q1 : ∀ o, (w1.alloc o).cell? ⟨w.heap.size, 1, none⟩ = some (.string (tx b)) := fun o => ((nbelowW w1 o).cell (p := ⟨w.heap.size, 1, none⟩) (lt_of_cell k1)).trans k1
      simp only [rmF, rhF] at D ⊢
      go_wp2_with fail
      refine (D.out _ (K1.out.next (nbelowW _ _))).mono ?_
      rintro e w2 ⟨rfl, K2⟩
      go_wp2
      go_ret
      exact ⟨by simp, K2⟩
  · have hd := decide_eq_false h4
    have hv := rAt_none h4
    rw [hd]
    have BX := nbelowW w (.cells #[.int .i64 kind, .string (tx b)] 25)
    have c0 : (w.alloc (.cells #[.int .i64 kind, .string (tx b)] 25)).cell? ⟨w.heap.size, 0, none⟩ = some (.int .i64 kind) := by simp
    have c1 : (w.alloc (.cells #[.int .i64 kind, .string (tx b)] 25)).cell? ⟨w.heap.size, 1, none⟩ = some (.string (tx b)) := by simp
    have KX := hide (hm.next BX)
    have hR := hide (fun W => ruleOf_any kind W)
    go_enter Tryz.func11, Tryz.ntmps11
    go_wp2_with fail
    refine (hR.out _).mono ?_
    rintro e w1 ⟨rfl, B1⟩
    have k1 := (B1.cell (p := ⟨w.heap.size, 1, none⟩) (lt_of_cell c1)).trans c1
    have K1 := hide (KX.out.next B1)
    clear KX BX B1 c0 c1
    rw [hv, hd]
    clear hv hd h4 hR
    go_wp2
    go_ret
    exact ⟨by simp, K1.out.next (nbelowW _ _)⟩

end Go.Proofs.YtfoacocnkdkdeaaGreatDoor
