/-
  num.shortest drops the bytes ahead that say nothing, as a plain function of the bytes says it (shortS); num.idle, num.below0.
-/
import Derived.Test.YtaeddbkkkiefcaaNOwn
import Derived.WalkMore
namespace Go.Proofs.Ytaeddbkkkiefcaa
open Go.RowKit Go.IntWalk

def idleS (x y : Int) : Bool := (decide (x = 0) && decide (y < 128)) || (decide (x = 255) && decide (128 ≤ y))

def shortS : List Int → List Int
  | [] => []
  | [x] => [x]
  | x :: y :: r => if idleS x y then shortS (y :: r) else x :: y :: r

theorem shortS_mem : ∀ (xs : List Int) (x : Int), x ∈ shortS xs → x ∈ xs
  | [], _, h => h
  | [_], _, h => h
  | x :: y :: r, z, h => by
    unfold shortS at h
    split at h
    · exact List.mem_cons_of_mem _ (shortS_mem (y :: r) z h)
    · exact h

theorem shortS_len : ∀ xs : List Int, (shortS xs).length ≤ xs.length
  | [] => Nat.le_refl _
  | [_] => Nat.le_refl _
  | x :: y :: r => by
    unfold shortS
    split
    · have := shortS_len (y :: r)
      simp only [List.length_cons] at this ⊢
      omega
    · exact Nat.le_refl _

theorem below0_any (x : Int) (w : World) :
    Calls Try.prog 101 #[.int .u8 x] w fun e w' => e = .returned (.bool (decide (128 ≤ x))) ∧ w' = w := by
  go_enter Try.func101, Try.ntmps101
  go_wp2
  go_ret
  exact ⟨rfl, rfl⟩

set_option maxRecDepth 100000 in
set_option maxHeartbeats 1000000 in
theorem idle_any (x y : Int) (w : World) :
    Calls Try.prog 99 #[.int .u8 x, .int .u8 y] w fun e w' => e = .returned (.bool (idleS x y)) ∧ w' = w := by
  by_cases h0 : x = 0
  · subst h0
    by_cases h1 : y < 128
    · go_enter Try.func99, Try.ntmps99
      go_wp2_with (go_at_call 101; refine (below0_any _ _).mono ?_; rintro e w0 ⟨rfl, hw0⟩; have hw1 := hw0.symm; subst hw1)
      go_ret
      exact ⟨by simp [idleS]; try omega, rfl⟩
    · go_enter Try.func99, Try.ntmps99
      go_wp2_with (go_at_call 101; refine (below0_any _ _).mono ?_; rintro e w0 ⟨rfl, hw0⟩; have hw1 := hw0.symm; subst hw1)
      go_ret
      exact ⟨by simp [idleS]; try omega, rfl⟩
  · by_cases h2 : x = 255
    · subst h2
      go_enter Try.func99, Try.ntmps99
      go_wp2_with (go_at_call 101; refine (below0_any _ _).mono ?_; rintro e w0 ⟨rfl, hw0⟩; have hw1 := hw0.symm; subst hw1)
      go_ret
      exact ⟨by simp [idleS]; try omega, rfl⟩
    · go_enter Try.func99, Try.ntmps99
      go_wp2_with (go_at_call 101; refine (below0_any _ _).mono ?_; rintro e w0 ⟨rfl, hw0⟩; have hw1 := hw0.symm; subst hw1)
      go_ret
      exact ⟨by simp [idleS]; try omega, rfl⟩

theorem idle_quiet (x y : Int) (w : World) :
    Calls Try.prog 99 #[.int .u8 x, .int .u8 y] w fun e w' => e = .returned (.bool (idleS x y)) ∧ ∃ q, w' = w.drewN q :=
  (idle_any x y w).mono fun e w' ⟨h1, h2⟩ => ⟨h1, 0, by rw [h2]; rfl⟩

set_option maxRecDepth 100000 in
set_option maxHeartbeats 1000000 in
theorem shortest_any (base : Nat) (ao : Option Addr) (n cap : Nat) (xs : List Int) (w : World) (hb : ∀ x ∈ xs, 0 ≤ x ∧ x < 256) (ho : OwnO w base ao n cap xs) :
    Calls Try.prog 94 #[.slice ao n cap] w fun e w' => ∃ ao' c', e = .returned (.slice ao' (shortS xs).length c') ∧ OwnO w' base ao' (shortS xs).length c' (shortS xs) ∧ Drawn w w' := by
  go_enter Try.func94, Try.ntmps94
  go_wp2
  go_step3
  go_wp2
  go_step3
  go_wp2
  go_loopw [0] (fun v wr => ∃ (m : Nat) (ao' : Option Addr) (c' : Nat) (ys : List Int), v = .slice ao' m c' ∧ shortS ys = shortS xs ∧ m ≤ n ∧ (∀ y ∈ ys, 0 ≤ y ∧ y < 256) ∧ OwnO wr base ao' m c' ys ∧ Drawn w wr) (fun v _ => match v with | .slice _ m _ => m | _ => 0)
  case atStart => exact ⟨n, ao, cap, xs, rfl, rfl, Nat.le_refl _, hb, ho, Drawn.refl _⟩
  case round =>
    obtain ⟨m, ao', c', ys, rfl, hsh, hm, hby, hoy, hd⟩ := hrel
    have hl := hoy.len
    match ys, hsh, hby, hoy, hl with
    | [], hsh, hby, hoy, hl =>
      obtain rfl : m = 0 := by simpa using hl.symm
      go_wp2
      simp only [Exit.noGoto_ret]
      go_ret
      exact ⟨_, _, by rw [← hsh]; rfl, by rw [← hsh]; exact hoy, hd⟩
    | [x], hsh, hby, hoy, hl =>
      obtain rfl : m = 1 := by simpa using hl.symm
      go_wp2
      simp only [Exit.noGoto_ret]
      go_ret
      exact ⟨_, _, by rw [← hsh]; rfl, by rw [← hsh]; exact hoy, hd⟩
    | x :: y :: r, hsh, hby, hoy, hl =>
      have hm2 : 2 ≤ m := by simp at hl; omega
      obtain ⟨q, rfl⟩ : ∃ q, m = q + 2 := ⟨m - 2, by omega⟩
      have hs := hoy.src hby
      obtain ⟨b, off, rfl, hc⟩ := hs.hrd (by simp)
      have c0 := hc 0 (by simp)
      have c1 := hc 1 (by simp)
      simp only [Nat.add_zero, List.getD, List.getElem?_cons_zero, List.getElem?_cons_succ, Option.getD_some] at c0 c1
      have c0h := hide c0
      have c1h := hide c1
      clear hc
      have sl := fun W => slice_lo W (some ⟨b, off, none⟩) (q + 2) c' 1 1 rfl (by omega)
      have ht := hide (OwnO.tail hoy (by omega))
      clear c0 c1
      have k0 : wr.cell? ⟨b, off, none⟩ = some (.int .u8 x) := c0h.out
      have k1 : wr.cell? ⟨b, off + 1, none⟩ = some (.int .u8 y) := c1h.out
      go_wp2_with fail
      go_quiet ((go_at_call 99; exact Calls.quiet_of_same (idle_any x y _)))
      go_wp2
      · rename_i hi
        go_roundw
        case rel => exact ⟨q + 1, _, _, y :: r, rfl, by rw [← hsh]; conv => rhs; unfold shortS; rw [if_pos hi], by omega, fun z hz => hby z (List.mem_cons_of_mem _ hz), ht.out.heap rfl, hd.more _⟩
        case measure => simp
      · rename_i hi
        have e1 : shortS xs = x :: y :: r := by rw [← hsh]; unfold shortS; rw [if_neg (by simp [hi])]
        simp only [Exit.noGoto_ret]
        go_ret
        rw [e1, hl]
        exact ⟨_, _, rfl, hoy.heap rfl, hd.more _⟩

end Go.Proofs.Ytaeddbkkkiefcaa
