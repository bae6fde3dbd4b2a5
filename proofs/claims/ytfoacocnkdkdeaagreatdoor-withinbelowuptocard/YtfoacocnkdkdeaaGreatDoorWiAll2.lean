/-
  within.All, meets, Some: what a rule's questions answer is handed in.
-/
import Derived.Test.YtfoacocnkdkdeaaGreatDoorWiAll
namespace Go.Proofs.YtfoacocnkdkdeaaGreatDoor
open Go.RowKit Go.Shelf Go.IntWalk

set_option maxRecDepth 100000 in
set_option maxHeartbeats 2000000 in
theorem all_kp (w0 : World) (kind : Int) (b : List UInt8) (gk : Int) (s : List UInt8) (A Y R : Bool) (m : Int) (w : World) (hm : Kp w0 m w)
    (h1 : ∀ W, Kp w0 m W → Calls Tryz.prog 11 #[.agg #[.int .i64 kind, .string (tx b)]] W fun e W' => e = .returned (.bool A) ∧ Below W.heap.size W W' ∧ Kp w0 m W')
    (h2 : A = true → ∀ W, Kp w0 m W → Calls Tryz.prog 22 #[.agg #[.int .i64 gk, .string (tx s)]] W fun e W' => e = .returned (.bool Y) ∧ Below W.heap.size W W' ∧ Kp w0 m W')
    (h3 : A = true → Y = true → ∀ W, Kp w0 m W → Calls Tryz.prog 36 #[.agg #[.int .i64 kind, .string (tx b)], .agg #[.int .i64 gk, .string (tx s)]] W fun e W' => e = .returned (.bool R) ∧ Kp w0 m W') :
    Calls Tryz.prog 13 #[.agg #[.int .i64 kind, .string (tx b)], .agg #[.int .i64 gk, .string (tx s)]] w fun e w' => e = .returned (.bool (A && (Y && R))) ∧ Kp w0 m w' := by
  have BX := (nbelowW w (boxS kind b)).trans ((nbelowW (w.alloc (boxS kind b)) (boxG gk s)).mono (by simp))
  have T0 := two_new w kind gk b s
  have KX := hide (hm.next BX)
  unfold boxS boxG at T0 KX
  clear BX
  have D1 := hide h1
  cases A with
  | false =>
    clear h1 h2 h3
    go_enter Tryz.func13, Tryz.ntmps13
    have s0 := T0.s0
    have s1 := T0.s1
    go_wp2_with fail
    refine (D1.out _ KX.out).mono ?_
    rintro e w1 ⟨rfl, B1, K1⟩
    have T1 := T0.below B1
    clear T0 s0 s1 KX B1
    go_wp2
    go_ret
    exact ⟨by simp, K1⟩
  | true =>
    have D2 := hide (h2 rfl)
    cases Y with
    | false =>
      clear h1 h2 h3
      go_enter Tryz.func13, Tryz.ntmps13
      have s0 := T0.s0
      have s1 := T0.s1
      go_wp2_with fail
      refine (D1.out _ KX.out).mono ?_
      rintro e w1 ⟨rfl, B1, K1⟩
      have T1 := T0.below B1
      clear T0 s0 s1 KX B1
      have r0 := T1.g0
      have r1 := T1.g1
      go_wp2_with fail
      refine (D2.out _ K1).mono ?_
      rintro e w2 ⟨rfl, B2, K2⟩
      have T2 := T1.below B2
      clear T1 r0 r1 K1 B2
      go_wp2
      go_ret
      exact ⟨by simp, K2⟩
    | true =>
      have D3 := hide (h3 rfl rfl)
      clear h1 h2 h3
      go_enter Tryz.func13, Tryz.ntmps13
      have s0 := T0.s0
      have s1 := T0.s1
      go_wp2_with fail
      refine (D1.out _ KX.out).mono ?_
      rintro e w1 ⟨rfl, B1, K1⟩
      have T1 := T0.below B1
      clear T0 s0 s1 KX B1
      have r0 := T1.g0
      have r1 := T1.g1
      go_wp2_with fail
      refine (D2.out _ K1).mono ?_
      rintro e w2 ⟨rfl, B2, K2⟩
      have T2 := T1.below B2
      clear T1 r0 r1 K1 B2
      have r0 := T2.s0
      have r1 := T2.s1
      have r2 := T2.g0
      have r3 := T2.g1
      go_wp2_with fail
      refine (D3.out _ K2).mono ?_
      rintro e w3 ⟨rfl, K3⟩
      go_wp2
      go_ret
      exact ⟨by simp, K3⟩
set_option maxRecDepth 100000 in
set_option maxHeartbeats 2000000 in
theorem some_kp (w0 : World) (kind : Int) (b : List UInt8) (gk : Int) (s : List UInt8) (A Y R : Bool) (m : Int) (w : World) (hm : Kp w0 m w)
    (h1 : ∀ W, Kp w0 m W → Calls Tryz.prog 11 #[.agg #[.int .i64 kind, .string (tx b)]] W fun e W' => e = .returned (.bool A) ∧ Below W.heap.size W W' ∧ Kp w0 m W')
    (h2 : A = true → ∀ W, Kp w0 m W → Calls Tryz.prog 22 #[.agg #[.int .i64 gk, .string (tx s)]] W fun e W' => e = .returned (.bool Y) ∧ Below W.heap.size W W' ∧ Kp w0 m W')
    (h3 : A = true → Y = true → ∀ W, Kp w0 m W → Calls Tryz.prog 40 #[.agg #[.int .i64 kind, .string (tx b)], .agg #[.int .i64 gk, .string (tx s)]] W fun e W' => e = .returned (.bool R) ∧ Kp w0 m W') :
    Calls Tryz.prog 15 #[.agg #[.int .i64 kind, .string (tx b)], .agg #[.int .i64 gk, .string (tx s)]] w fun e w' => e = .returned (.bool (A && (Y && R))) ∧ Kp w0 m w' := by
  have BX := (nbelowW w (boxS kind b)).trans ((nbelowW (w.alloc (boxS kind b)) (boxG gk s)).mono (by simp))
  have T0 := two_new w kind gk b s
  have KX := hide (hm.next BX)
  unfold boxS boxG at T0 KX
  clear BX
  have D1 := hide h1
  cases A with
  | false =>
    clear h1 h2 h3
    go_enter Tryz.func15, Tryz.ntmps15
    have s0 := T0.s0
    have s1 := T0.s1
    go_wp2_with fail
    refine (D1.out _ KX.out).mono ?_
    rintro e w1 ⟨rfl, B1, K1⟩
    have T1 := T0.below B1
    clear T0 s0 s1 KX B1
    go_wp2
    go_ret
    exact ⟨by simp, K1⟩
  | true =>
    have D2 := hide (h2 rfl)
    cases Y with
    | false =>
      clear h1 h2 h3
      go_enter Tryz.func15, Tryz.ntmps15
      have s0 := T0.s0
      have s1 := T0.s1
      go_wp2_with fail
      refine (D1.out _ KX.out).mono ?_
      rintro e w1 ⟨rfl, B1, K1⟩
      have T1 := T0.below B1
      clear T0 s0 s1 KX B1
      have r0 := T1.g0
      have r1 := T1.g1
      go_wp2_with fail
      refine (D2.out _ K1).mono ?_
      rintro e w2 ⟨rfl, B2, K2⟩
      have T2 := T1.below B2
      clear T1 r0 r1 K1 B2
      go_wp2
      go_ret
      exact ⟨by simp, K2⟩
    | true =>
      have D3 := hide (h3 rfl rfl)
      clear h1 h2 h3
      go_enter Tryz.func15, Tryz.ntmps15
      have s0 := T0.s0
      have s1 := T0.s1
      go_wp2_with fail
      refine (D1.out _ KX.out).mono ?_
      rintro e w1 ⟨rfl, B1, K1⟩
      have T1 := T0.below B1
      clear T0 s0 s1 KX B1
      have r0 := T1.g0
      have r1 := T1.g1
      go_wp2_with fail
      refine (D2.out _ K1).mono ?_
      rintro e w2 ⟨rfl, B2, K2⟩
      have T2 := T1.below B2
      clear T1 r0 r1 K1 B2
      have r0 := T2.s0
      have r1 := T2.s1
      have r2 := T2.g0
      have r3 := T2.g1
      go_wp2_with fail
      refine (D3.out _ K2).mono ?_
      rintro e w3 ⟨rfl, K3⟩
      go_wp2
      go_ret
      exact ⟨by simp, K3⟩

end Go.Proofs.YtfoacocnkdkdeaaGreatDoor
