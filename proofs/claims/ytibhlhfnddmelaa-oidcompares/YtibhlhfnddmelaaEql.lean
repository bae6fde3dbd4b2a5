/-
  slices.Equal, oid.Compare, oid.Begins, the document's Begins, and the statements' own 'same', 'kept', 'names', over any lists of numbers.
-/
import Derived.Test.YtibhlhfnddmelaaCmp
namespace Go.Proofs.Ytibhlhfnddmelaa
open Go.RowKit Go.IntWalk

theorem eq_of_drops {xs ys : List Int} (k : Nat) (h : xs.take k = ys.take k) (hx : xs.length ≤ k) (hy : ys.length ≤ k) : xs = ys := by
  rwa [List.take_of_length_le hx, List.take_of_length_le hy] at h

theorem take_next {xs ys : List Int} (k : Nat) (h : xs.take k = ys.take k) (hx : k < xs.length) (hy : k < ys.length) (he : xs.getD k 0 = ys.getD k 0) : xs.take (k + 1) = ys.take (k + 1) := by
  rw [List.take_add_one, List.take_add_one, h]
  rw [List.getD, List.getD, List.getElem?_eq_getElem hx, List.getElem?_eq_getElem hy] at he
  rw [List.getElem?_eq_getElem hx, List.getElem?_eq_getElem hy]
  simp at he
  simp [he]

set_option maxRecDepth 100000 in
set_option maxHeartbeats 1000000 in
theorem equal_any (a1 : Option Addr) (n1 c1 : Nat) (xs : List Int) (a2 : Option Addr) (n2 c2 : Nat) (ys : List Int) (w : World) (h1 : SrcI w a1 n1 c1 xs) (h2 : SrcI w a2 n2 c2 ys) :
    Calls Try.prog 32 #[.slice a1 n1 c1, .slice a2 n2 c2] w fun e w' => e = .returned (.bool (decide (xs = ys))) ∧ Drawn w w' := by
  have l1 := hide h1.hlen
  have l2 := hide h2.hlen
  obtain ⟨m1, _⟩ := h1.lenI
  obtain ⟨m2, _⟩ := h2.lenI
  by_cases hn : n1 = n2
  · subst hn
    have hb : ((n1 : Int) != (n1 : Int)) = false := by simp
    go_enter Try.func32, Try.ntmps32
    go_wp2
    go_loopw [5, 13] (fun _ i wr => ∃ k : Nat, k ≤ n1 ∧ i = .int .i64 k ∧ xs.take k = ys.take k ∧ Drawn w wr) (fun _ i _ => n1 - (intOf i).toNat)
    case atStart => exact ⟨0, Nat.zero_le _, rfl, by simp, Drawn.refl _⟩
    case round =>
      obtain ⟨k, hk1, rfl, he, hD⟩ := hrel
      have HE := hide he
      clear he
      have s1 := hD.src h1
      have s2 := hD.src h2
      by_cases hx : k < n1
      · obtain ⟨b, o, rfl, e1⟩ := s1.at k hx
        obtain ⟨b', o', rfl, e2⟩ := s2.at k hx
        by_cases hxy : xs.getD k 0 = ys.getD k 0
        · have HV := hide (take_next k HE.out (by rw [l1.out]; exact hx) (by rw [l2.out]; exact hx) hxy)
          rw [← hxy] at e2
          clear hxy
          generalize xs.getD k 0 = x at e1 e2
          have hbx : (x != x) = false := by simp
          go_wp2_with fail
          go_quiet (fail)
          go_wp2
          go_roundw
          case rel => exact ⟨k + 1, by omega, by go_num, HV.out, by first | exact hD.more _ | exact (hD.more _).more _⟩
          case measure => simp [intOf]; omega
        · have HV := hide (show decide (xs = ys) = false by simp; intro h; exact hxy (by rw [h]))
          generalize xs.getD k 0 = x at e1 hxy
          generalize ys.getD k 0 = y at e2 hxy
          have hbx : (x != y) = true := by simpa using hxy
          clear hxy
          go_wp2_with fail
          go_quiet (fail)
          go_wp2
          go_ret
          exact ⟨by rw [HV.out]; rfl, by first | exact hD | exact hD.more _ | exact (hD.more _).more _⟩
      · have HV := hide (show decide (xs = ys) = true by simp; exact eq_of_drops k HE.out (by rw [l1.out]; omega) (by rw [l2.out]; omega))
        go_wp2
        go_ret
        exact ⟨by rw [HV.out]; rfl, by first | exact hD | exact hD.more _⟩
  · have hb : ((n1 : Int) != (n2 : Int)) = true := by simp; omega
    have HV := hide (show decide (xs = ys) = false by simp; intro h; apply hn; rw [← l1.out, ← l2.out, h])
    go_enter Try.func32, Try.ntmps32
    go_wp2
    go_ret
    exact ⟨by rw [HV.out]; rfl, Drawn.refl _⟩

theorem oidCmp_any (a1 : Option Addr) (n1 c1 : Nat) (xs : List Int) (a2 : Option Addr) (n2 c2 : Nat) (ys : List Int) (w : World) (h1 : SrcI w a1 n1 c1 xs) (h2 : SrcI w a2 n2 c2 ys) :
    Calls Try.prog 14 #[.slice a1 n1 c1, .slice a2 n2 c2] w fun e w' => e = .returned (.int .i64 (cmpS xs ys)) ∧ w' = w := by
  go_enter Try.func14, Try.ntmps14
  go_wp2_with fail
  refine (slicesCmp_any a1 n1 c1 xs a2 n2 c2 ys _ h1 h2).mono ?_
  rintro e w1 ⟨rfl, rfl⟩
  go_wp2
  go_ret
  exact ⟨rfl, rfl⟩

/-- Does a begin with all of b? -/
def begS (xs ys : List Int) : Bool := decide (ys.length ≤ xs.length) && decide (xs.take ys.length = ys)

theorem cutA_zero (ao : Option Addr) (c : Nat) : cutA ao c 0 = ao := by
  unfold cutA
  split
  · rfl
  · cases ao with
    | none => rfl
    | some a => obtain ⟨b, o, s⟩ := a; cases s <;> simp [Addr.add]

theorem SrcI.head {w : World} {ao : Option Addr} {n c : Nat} {xs : List Int} (hs : SrcI w ao n c xs) (h : Nat) (hh : h ≤ n) : SrcI w ao h c (xs.take h) := by
  have := hs.cut 0 h (Nat.zero_le _) hh
  simpa [cutA_zero] using this

set_option maxRecDepth 100000 in
set_option maxHeartbeats 1000000 in
theorem begins_any (a1 : Option Addr) (n1 c1 : Nat) (xs : List Int) (a2 : Option Addr) (n2 c2 : Nat) (ys : List Int) (w : World) (h1 : SrcI w a1 n1 c1 xs) (h2 : SrcI w a2 n2 c2 ys) :
    Calls Try.prog 16 #[.slice a1 n1 c1, .slice a2 n2 c2] w fun e w' => e = .returned (.bool (begS xs ys)) ∧ Drawn w w' := by
  have l1 := hide h1.hlen
  have l2 := hide h2.hlen
  obtain ⟨m1, _⟩ := h1.lenI
  obtain ⟨m2, _⟩ := h2.lenI
  have hc := h1.hcap
  by_cases hn : n2 ≤ n1
  · have h3 := h1.head n2 hn
    have HV := hide (show begS xs ys = decide (xs.take n2 = ys) by unfold begS; rw [l1.out, l2.out]; simp [hn])
    have hcI : (n2 : Int) ≤ (c1 : Int) := by omega
    have hnI : (n2 : Int) ≤ (n1 : Int) := by omega
    have hsl := fun W => sliceI_hi W a1 n1 c1 (n2 : Int) n2 rfl (by omega)
    simp only [cutA_zero] at hsl
    go_enter Try.func16, Try.ntmps16
    go_wp2_with fail
    refine (equal_any _ _ _ (xs.take n2) _ _ _ ys _ h3 h2).mono ?_
    rintro e w1 ⟨rfl, hD⟩
    rw [← HV.out]
    go_wp2
    go_ret
    exact ⟨rfl, hD⟩
  · have HV := hide (show begS xs ys = false by unfold begS; rw [l1.out, l2.out]; simp [hn])
    go_enter Try.func16, Try.ntmps16
    go_wp2
    go_ret
    exact ⟨by rw [HV.out]; rfl, Drawn.refl _⟩

set_option maxRecDepth 100000 in
set_option maxHeartbeats 1000000 in
theorem refBegins_any (a1 : Option Addr) (n1 c1 : Nat) (xs : List Int) (a2 : Option Addr) (n2 c2 : Nat) (ys : List Int) (w : World) (h1 : SrcI w a1 n1 c1 xs) (h2 : SrcI w a2 n2 c2 ys) :
    Calls Try.prog 17 #[.slice a1 n1 c1, .slice a2 n2 c2] w fun e w' => e = .returned (.bool (begS xs ys)) ∧ Drawn w w' := by
  have l1 := hide h1.hlen
  have l2 := hide h2.hlen
  obtain ⟨m1, _⟩ := h1.lenI
  obtain ⟨m2, _⟩ := h2.lenI
  have hc := h1.hcap
  by_cases hn : n2 ≤ n1
  · have h3 := h1.head n2 hn
    have HV := hide (show begS xs ys = (cmpS (xs.take n2) ys == 0) by
      unfold begS; rw [l1.out, l2.out]
      by_cases he : xs.take n2 = ys
      · rw [he, cmpS_refl]; simp [hn]
      · have : cmpS (xs.take n2) ys ≠ 0 := fun h => he (cmpS_eq h)
        simp [he, this])
    have hcI : (n2 : Int) ≤ (c1 : Int) := by omega
    have hnI : (n2 : Int) ≤ (n1 : Int) := by omega
    go_enter Try.func17, Try.ntmps17
    go_wp2_with fail
    refine (refCmp_any _ _ _ (xs.take n2) _ _ _ ys _ h3 h2).mono ?_
    rintro e w1 ⟨rfl, hD⟩
    go_wp2
    go_ret
    exact ⟨by rw [HV.out]; rfl, hD⟩
  · have HV := hide (show begS xs ys = false by unfold begS; rw [l1.out, l2.out]; simp [hn])
    go_enter Try.func17, Try.ntmps17
    go_wp2
    go_ret
    exact ⟨by rw [HV.out]; rfl, Drawn.refl _⟩

set_option maxRecDepth 100000 in
set_option maxHeartbeats 1000000 in
theorem same_any (a1 : Option Addr) (n1 c1 : Nat) (xs : List Int) (a2 : Option Addr) (n2 c2 : Nat) (ys : List Int) (w : World) (h1 : SrcI w a1 n1 c1 xs) (h2 : SrcI w a2 n2 c2 ys) :
    Calls Try.prog 26 #[.slice a1 n1 c1, .slice a2 n2 c2] w fun e w' => e = .returned (.bool (cmpS xs ys == 0)) ∧ Drawn w w' := by
  go_enter Try.func26, Try.ntmps26
  go_wp2_with fail
  refine (refCmp_any _ _ _ xs _ _ _ ys _ h1 h2).mono ?_
  rintro e w1 ⟨rfl, hD⟩
  go_wp2
  go_ret
  exact ⟨rfl, hD⟩

theorem sameI_true (a1 : Option Addr) (n1 c1 : Nat) (xs : List Int) (a2 : Option Addr) (n2 c2 : Nat) (w : World) (h1 : SrcI w a1 n1 c1 xs) (h2 : SrcI w a2 n2 c2 xs) :
    Calls Try.prog 26 #[.slice a1 n1 c1, .slice a2 n2 c2] w fun e w' => e = .returned (.bool true) ∧ Drawn w w' := by
  refine (same_any a1 n1 c1 xs a2 n2 c2 xs w h1 h2).mono ?_
  rintro e w' ⟨rfl, hD⟩
  rw [cmpS_refl]
  exact ⟨rfl, hD⟩

set_option maxRecDepth 100000 in
set_option maxHeartbeats 1000000 in
theorem keptI_any (g n c : Nat) (ao : Option Addr) (cap : Nat) (xs : List Int) (w : World) (base : Nat) (hs : SrcI w ao n cap xs) (hn : n ≤ 17592186043904) (hc : n + 1 ≤ c) (hm : c ≤ maxLen)
    (ho : OwnI w base (.slice (some ⟨g, 0, none⟩) (n + 1) c) (xs ++ [-71])) :
    Calls Try.prog 18 #[.slice (some ⟨g, 0, none⟩) n c, .slice ao n cap] w fun e w' => e = .returned (.bool true) ∧ Drawn w w' := by
  have HL := hide hs.hlen
  have hall := ho.src (ys := xs ++ [-71]) (by intro x hx; simp at hx; rcases hx with hx | rfl; exact hs.hbyt x hx; omega) (n + 1) (Nat.le_refl _) (by rw [List.take_of_length_le (by simp; have := HL.out; omega)]) hm
  have hh : SrcI w (some ⟨g, 0, none⟩) n c xs := by
    have := hall.head n (by omega)
    rwa [List.take_append_of_le_length (by rw [HL.out]; exact Nat.le_refl _), List.take_of_length_le (by rw [HL.out]; exact Nat.le_refl _)] at this
  have hcell := ho.cell n (by simp; rw [HL.out]; omega)
  rw [show (xs ++ [(-71 : Int)]).getD n 0 = -71 by rw [List.getD, List.getElem?_append_right (by rw [HL.out]; exact Nat.le_refl _), HL.out]; simp] at hcell
  have hcI : (n : Int) + 1 ≤ (c : Int) := by omega
  have hnI : (n : Int) ≤ 17592186043904 := by omega
  have hw : IntKind.i64.wrap ((n : Int) + 1) = (n : Int) + 1 := i64_in _ (by omega)
  have hp : (0 : Int) ≤ (n : Int) + 1 := by omega
  go_enter Try.func18, Try.ntmps18
  go_wp2_with fail
  refine (sameI_true _ _ _ xs _ _ _ _ hh hs).mono ?_
  rintro e w1 ⟨rfl, hD⟩
  rw [← hD.cell] at hcell
  go_wp2
  go_ret
  exact ⟨rfl, hD⟩

theorem namesI_any (w : World) : Calls Try.prog 10 #[] w fun e w' => e = .returned (.bool true) ∧ w' = w := by
  go_enter Try.func10, Try.ntmps10
  go_wp2
  go_ret
  exact ⟨rfl, rfl⟩

end Go.Proofs.Ytibhlhfnddmelaa
