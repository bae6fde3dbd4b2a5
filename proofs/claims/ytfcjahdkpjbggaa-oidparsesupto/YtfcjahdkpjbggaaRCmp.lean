/-
  The document's Compare says of any two lists of numbers what the plain function cmpS says; it writes nothing.
-/
import Derived.Test.YtfcjahdkpjbggaaILent
import Derived.Lib.Small
namespace Go.Proofs.Ytfcjahdkpjbggaa
open Go.RowKit Go.IntWalk

theorem getD_bound {xs : List Int} {k : Nat} (hb : ∀ x ∈ xs, -9223372036854775808 ≤ x ∧ x < 9223372036854775808) : -9223372036854775808 ≤ xs.getD k 0 ∧ xs.getD k 0 < 9223372036854775808 := by
  rcases Nat.lt_or_ge k xs.length with h | h
  · rw [List.getD, List.getElem?_eq_getElem h]; exact hb _ (List.getElem_mem _)
  · rw [List.getD, List.getElem?_eq_none h]; decide

set_option maxRecDepth 100000 in
set_option maxHeartbeats 1000000 in
theorem refCmp_any (a1 : Option Addr) (n1 c1 : Nat) (xs : List Int) (a2 : Option Addr) (n2 c2 : Nat) (ys : List Int) (w : World) (h1 : SrcI w a1 n1 c1 xs) (h2 : SrcI w a2 n2 c2 ys) :
    Calls Try.prog 47 #[.slice a1 n1 c1, .slice a2 n2 c2] w fun e w' => e = .returned (.int .i64 (cmpS xs ys)) ∧ Drawn w w' := by
  have l1 := hide h1.hlen
  have l2 := hide h2.hlen
  obtain ⟨m1, _⟩ := h1.lenI
  obtain ⟨m2, _⟩ := h2.lenI
  go_enter Try.func47, Try.ntmps47
  go_wp2
  go_loopw [5] (fun i wr => ∃ k : Nat, k ≤ n1 ∧ k ≤ n2 ∧ i = .int .i64 k ∧ cmpS xs ys = cmpS (xs.drop k) (ys.drop k) ∧ Drawn w wr) (fun i _ => n1 - (intOf i).toNat)
  case atStart => exact ⟨0, Nat.zero_le _, Nat.zero_le _, rfl, rfl, Drawn.refl _⟩
  case round =>
    obtain ⟨k, hk1, hk2, rfl, he, hD⟩ := hrel
    have HE := hide he
    clear he
    have s1 := hD.src h1
    have s2 := hD.src h2
    by_cases hx : k < n1
    · by_cases hy : k < n2
      · obtain ⟨b, o, rfl, e1⟩ := s1.at k hx
        obtain ⟨b', o', rfl, e2⟩ := s2.at k hy
        have hc := hide (cmpS_drop xs ys k (by rw [l1.out]; exact hx) (by rw [l2.out]; exact hy))
        generalize xs.getD k 0 = x at e1 hc
        generalize ys.getD k 0 = y at e2 hc
        rcases (show x < y ∨ y < x ∨ (¬ x < y ∧ ¬ y < x) by omega) with hxy | hxy | ⟨hxy, hyx⟩
        · have HV := hide (show cmpS xs ys = -1 by rw [HE.out, hc.out, if_pos hxy])
          go_wp2_with fail
          go_quiet (fail)
          go_wp2
          go_ret
          exact ⟨by rw [HV.out]; rfl, by first | exact hD | exact hD.more _ | exact (hD.more _).more _⟩
        · have HV := hide (show cmpS xs ys = 1 by rw [HE.out, hc.out, if_neg (by omega), if_pos hxy])
          have hyx : ¬ x < y := by omega
          go_wp2_with fail
          go_quiet (fail)
          go_wp2_with fail
          go_quiet (fail)
          go_wp2
          go_ret
          exact ⟨by rw [HV.out]; rfl, by first | exact hD | exact hD.more _ | exact (hD.more _).more _⟩
        · have HV := hide (show cmpS xs ys = cmpS (xs.drop (k + 1)) (ys.drop (k + 1)) by rw [HE.out, hc.out, if_neg hxy, if_neg hyx])
          go_wp2_with fail
          go_quiet (fail)
          go_wp2_with fail
          go_quiet (fail)
          go_wp2
          go_roundw
          case rel => exact ⟨k + 1, by omega, by omega, by go_num, HV.out, by first | exact hD.more _ | exact (hD.more _).more _⟩
          case measure => simp [intOf]; omega
      · have HV := hide (show cmpS xs ys = 1 by rw [HE.out, cmpS_endR xs ys k (by rw [l1.out]; exact hx) (by rw [l2.out]; omega)])
        have hlt : (n2 : Int) < (n1 : Int) := by omega
        go_wp2
        go_ret
        exact ⟨by rw [HV.out]; rfl, by first | exact hD | exact hD.more _ | exact (hD.more _).more _⟩
    · by_cases hy : k < n2
      · have HV := hide (show cmpS xs ys = -1 by rw [HE.out, cmpS_endL xs ys k (by rw [l1.out]; omega) (by rw [l2.out]; exact hy)])
        have hlt : (n1 : Int) < (n2 : Int) := by omega
        go_wp2
        go_ret
        exact ⟨by rw [HV.out]; rfl, by first | exact hD | exact hD.more _ | exact (hD.more _).more _⟩
      · have HV := hide (show cmpS xs ys = 0 by rw [HE.out, cmpS_end xs ys k (by rw [l1.out]; omega) (by rw [l2.out]; omega)])
        obtain rfl : k = n1 := by omega
        obtain rfl : k = n2 := by omega
        go_wp2
        go_ret
        exact ⟨by rw [HV.out]; rfl, by first | exact hD | exact hD.more _ | exact (hD.more _).more _⟩

end Go.Proofs.Ytfcjahdkpjbggaa
