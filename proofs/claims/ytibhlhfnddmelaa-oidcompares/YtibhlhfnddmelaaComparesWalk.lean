/-
  OidCompares answers true at any two lists of numbers, and writes nothing that was there.
-/
import Derived.Test.YtibhlhfnddmelaaMay
namespace Go.Proofs.Ytibhlhfnddmelaa
open Go.RowKit Go.IntWalk

set_option maxRecDepth 100000 in
set_option maxHeartbeats 4000000 in
theorem compares_walk (a1 : Option Addr) (n1 c1 : Nat) (xs : List Int) (a2 : Option Addr) (n2 c2 : Nat) (ys : List Int) (w : World) (h1 : SrcI w a1 n1 c1 xs) (h2 : SrcI w a2 n2 c2 ys) (hn1 : n1 ≤ 17592186043904) (hn2 : n2 ≤ 17592186043904) :
    Calls Try.prog 5 #[.slice a1 n1 c1, .slice a2 n2 c2] w fun e w' => e = .returned (.bool true) ∧ Below w.heap.size w w' := by
  have L1 := hide h1.hlen
  have L2 := hide h2.hlen
  have Y1 := hide h1.hbyt
  have Y2 := hide h2.hbyt
  go_enter Try.func5, Try.ntmps5
  go_wp2_with fail
  refine (lentI_any a1 n1 c1 xs _ h1 hn1).mono ?_
  rintro e w1 ⟨g, c, rfl, hc1, hm1, hg1, hgl1, hin1, B1⟩
  go_wp2_with fail
  refine (lentI_any a2 n2 c2 ys _ (h2.below B1) hn2).mono ?_
  rintro e w2 ⟨g', c', rfl, hc2, hm2, hg2, hgl2, hin2, B2⟩
  have hin1' := hin1.belowA B2
  have s1 : SrcI w2 (some ⟨g, 0, none⟩) n1 c xs := hin1'.src (by intro x hx; simp at hx; rcases hx with hx | rfl; exact Y1.out x hx; omega) n1 (by omega) (by rw [List.take_append_of_le_length (by rw [L1.out]; exact Nat.le_refl _), List.take_of_length_le (by rw [L1.out]; exact Nat.le_refl _)]) hm1
  have s2 : SrcI w2 (some ⟨g', 0, none⟩) n2 c' ys := hin2.src (by intro x hx; simp at hx; rcases hx with hx | rfl; exact Y2.out x hx; omega) n2 (by omega) (by rw [List.take_append_of_le_length (by rw [L2.out]; exact Nat.le_refl _), List.take_of_length_le (by rw [L2.out]; exact Nat.le_refl _)]) hm2
  have b1 := (h1.below B1).below B2
  have b2 := (h2.below B1).below B2
  have LB : Below w.heap.size w w2 := B1.trans (B2.mono B1.size)
  go_wp2_with fail
  refine (oidCmp_any _ _ _ xs _ _ _ ys _ s1 s2).mono ?_
  rintro e w3 ⟨rfl, rfl⟩
  go_wp2_with fail
  refine (refCmp_any _ _ _ xs _ _ _ ys _ b1 b2).mono ?_
  rintro e w3 ⟨rfl, D3⟩
  have hq : (cmpS xs ys == cmpS xs ys) = true := by simp
  go_wp2_with fail
  refine (begins_any _ _ _ xs _ _ _ ys _ (D3.src s1) (D3.src s2)).mono ?_
  rintro e w4 ⟨rfl, D4⟩
  have D4 := D3.trans D4
  go_wp2_with fail
  refine (refBegins_any _ _ _ xs _ _ _ ys _ (D4.src b1) (D4.src b2)).mono ?_
  rintro e w5 ⟨rfl, D5⟩
  have D5 := D4.trans D5
  have hq2 : (begS xs ys == begS xs ys) = true := by simp
  go_wp2_with fail
  refine (keptI_any g n1 c a1 c1 xs _ _ (D5.src b1) hn1 hc1 hm1 (hin1'.heap D5.heap)).mono ?_
  rintro e w6 ⟨rfl, D6⟩
  have D6 := D5.trans D6
  go_wp2_with fail
  refine (keptI_any g' n2 c' a2 c2 ys _ _ (D6.src b2) hn2 hc2 hm2 (hin2.heap D6.heap)).mono ?_
  rintro e w7 ⟨rfl, D7⟩
  have D7 := D6.trans D7
  go_wp2_with fail
  refine (mayI_12 _ _ (SrcI.litAt [1, 2] _ 2 _ rfl rfl (by simp) (by decide) rfl)).mono ?_
  rintro e w8 ⟨rfl, D8⟩
  go_wp2_with fail
  refine (namesI_any _).mono ?_
  rintro e w9 ⟨rfl, rfl⟩
  go_wp2
  go_ret
  have LB := D7.below LB
  exact ⟨rfl, D8.below (LB.alloc LB.size _)⟩

end Go.Proofs.Ytibhlhfnddmelaa
