/-
  slices.Compare says of any two lists of numbers what the plain function cmpS says; it writes nothing.
-/
import Derived.Test.YtfcjahdkpjbggaaDoorRCmp
namespace Go.Proofs.YtfcjahdkpjbggaaDoor
open Go.RowKit Go.IntWalk

theorem cmp_int (x y : Int) (w : World) :
    Calls Tryd.prog 31 #[.int .i64 x, .int .i64 y] w fun e w' => e = .returned (.int .i64 (Lib.compareInt x y)) ∧ w' = w := by
  go_enter Tryd.func31, Tryd.ntmps31
  go_wp2
  all_goals (go_ret; refine ⟨?_, rfl⟩; unfold Lib.compareInt; (repeat' split) <;> first | rfl | (exfalso; omega))

set_option maxRecDepth 100000 in
set_option maxHeartbeats 1000000 in
theorem slicesCmp_any (a1 : Option Addr) (n1 c1 : Nat) (xs : List Int) (a2 : Option Addr) (n2 c2 : Nat) (ys : List Int) (w : World) (h1 : SrcI w a1 n1 c1 xs) (h2 : SrcI w a2 n2 c2 ys) :
    Calls Tryd.prog 20 #[.slice a1 n1 c1, .slice a2 n2 c2] w fun e w' => e = .returned (.int .i64 (cmpS xs ys)) ∧ w' = w := by
  have l1 := hide h1.hlen
  have l2 := hide h2.hlen
  obtain ⟨m1, _⟩ := h1.lenI
  obtain ⟨m2, _⟩ := h2.lenI
  go_enter Tryd.func20, Tryd.ntmps20
  go_wp2
  go_loop [5, 6, 7, 8, 11] (fun _ _ _ _ i => ∃ k : Nat, k ≤ n1 ∧ k ≤ n2 ∧ i = .int .i64 k ∧ cmpS xs ys = cmpS (xs.drop k) (ys.drop k)) (fun _ _ _ _ i => n1 - (intOf i).toNat)
  case atStart => exact ⟨0, Nat.zero_le _, Nat.zero_le _, rfl, rfl⟩
  case round =>
    obtain ⟨k, hk1, hk2, rfl, he⟩ := hrel
    have HE := hide he
    clear he
    by_cases hx : k < n1
    · obtain ⟨b, o, rfl, e1⟩ := h1.at k hx
      by_cases hy : k < n2
      · obtain ⟨b', o', rfl, e2⟩ := h2.at k hy
        have hc := hide (cmpS_drop xs ys k (by rw [l1.out]; exact hx) (by rw [l2.out]; exact hy))
        generalize xs.getD k 0 = x at e1 hc
        generalize ys.getD k 0 = y at e2 hc
        rcases (show x < y ∨ y < x ∨ x = y by omega) with hxy | hxy | hxy
        · have HV := hide (show cmpS xs ys = -1 by rw [HE.out, hc.out, if_pos hxy])
          have HC := hide (show Lib.compareInt x y = -1 by unfold Lib.compareInt; rw [if_pos hxy])
          go_wp2_with (go_at_call 31; refine (cmp_int x y _).mono ?_; rintro e w1 ⟨rfl, rfl⟩; rw [HC.out])
          go_ret
          exact ⟨by rw [HV.out]; rfl, rfl⟩
        · have HV := hide (show cmpS xs ys = 1 by rw [HE.out, hc.out, if_neg (by omega), if_pos hxy])
          have HC := hide (show Lib.compareInt x y = 1 by unfold Lib.compareInt; rw [if_neg (by omega), if_pos hxy])
          go_wp2_with (go_at_call 31; refine (cmp_int x y _).mono ?_; rintro e w1 ⟨rfl, rfl⟩; rw [HC.out])
          go_ret
          exact ⟨by rw [HV.out]; rfl, rfl⟩
        · have HV := hide (show cmpS xs ys = cmpS (xs.drop (k + 1)) (ys.drop (k + 1)) by rw [HE.out, hc.out, if_neg (by omega), if_neg (by omega)])
          have HC := hide (show Lib.compareInt x y = 0 by unfold Lib.compareInt; rw [if_neg (by omega), if_neg (by omega)])
          clear hxy
          go_wp2_with (go_at_call 31; refine (cmp_int x y _).mono ?_; rintro e w1 ⟨rfl, rfl⟩; rw [HC.out])
          go_round
          case rel => exact ⟨k + 1, by omega, by omega, by go_num, HV.out⟩
          case measure => simp [intOf]; omega
      · have HV := hide (show cmpS xs ys = 1 by rw [HE.out, cmpS_endR xs ys k (by rw [l1.out]; exact hx) (by rw [l2.out]; omega)])
        go_wp2
        go_ret
        exact ⟨by rw [HV.out]; rfl, rfl⟩
    · by_cases hy : k < n2
      · have HV := hide (show cmpS xs ys = -1 by rw [HE.out, cmpS_endL xs ys k (by rw [l1.out]; omega) (by rw [l2.out]; exact hy)])
        have hlt : (n1 : Int) < (n2 : Int) := by omega
        go_wp2
        go_ret
        exact ⟨by rw [HV.out]; rfl, rfl⟩
      · have HV := hide (show cmpS xs ys = 0 by rw [HE.out, cmpS_end xs ys k (by rw [l1.out]; omega) (by rw [l2.out]; omega)])
        obtain rfl : k = n1 := by omega
        obtain rfl : k = n2 := by omega
        go_wp2
        go_ret
        exact ⟨by rw [HV.out]; rfl, rfl⟩

end Go.Proofs.YtfcjahdkpjbggaaDoor
