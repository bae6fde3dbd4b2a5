/-
  The statements' own calls lent, kept, names, works.
-/
import Derived.Test.YtclimigbbilfmaaNmLent
import Derived.Test.YtclimigbbilfmaaNmThere
namespace Go.Proofs.Ytclimigbbilfmaa
open Go.RowKit Go.IntWalk Go.Shelf

theorem OwnA.alloc {w : World} {base : Nat} {v : Value} {xs : List (Int × ByteArray)} (h : OwnA w base v xs) (o : Obj) : OwnA (w.alloc o) base v xs := World.ownsRow.alloc h o
theorem mark_src (w : World) : Ats (w.alloc (.cells #[.int .i64 77, .string ⟨#[]⟩] 43)) (some ⟨w.heap.size, 0, none⟩) 1 1 [(77, ByteArray.empty)] := by
  refine ⟨rfl, Nat.le_refl _, by decide, by intro x hx; simp at hx; subst hx; decide, fun _ => ⟨w.heap.size, 0, rfl, fun i hi => ?_⟩⟩
  obtain rfl : i = 0 := by omega
  exact ⟨by simp, by simp; rfl⟩

set_option maxRecDepth 100000 in
set_option maxHeartbeats 1000000 in
theorem lentA_any (ao : Option Addr) (n cap : Nat) (xs : List (Int × ByteArray)) (w : World) (hA : Ats w ao n cap xs) (hnil : ao = none → n = 0 ∧ cap = 0) (hn : n ≤ 1048576) (hz : ∀ x ∈ xs, x.2.size ≤ 1048576) :
    Calls Try.prog 9 #[.slice ao n cap] w fun e w' => ∃ g c, e = .returned (.slice (some ⟨g, 0, none⟩) n c) ∧ LentA w' w.heap.size g n c xs ∧ Below w.heap.size w w' := by
  have HL := hide hA.hl
  have HN := hide hnil
  have HZ := hide hz
  have h1 : Hid (Ats (w.alloc (.cells #[] 43)) ao n cap xs) := hA.below (nbelow _ _)
  clear hnil hz hA
  go_enter Try.func9, Try.ntmps9
  go_wp2_with (first
    | (at_builtin; refine wpList_appA _ rfl (.tmp 3) (.tmp 4) rfl w.heap.size (.slice (some ⟨w.heap.size, 0, none⟩) 0 0) [] rfl (OwnA.lit _ _ (Nat.le_refl _)) (by simp) ao n cap xs rfl h1.out HN.out n (by simp) (by omega) (by simp) ?_; intro g1 c1 w1 ho1 hb1 hc1 hm1 hg1 hw1; have z1 := hg1.size; simp only [World.size_alloc] at z1)
    | (at_builtin; refine wpList_appA _ rfl (.tmp 5) (.tmp 7) rfl w.heap.size (.slice (some ⟨g1, 0, none⟩) n c1) xs rfl (OwnA.alloc ho1 _) (by simp) (some ⟨w1.heap.size, 0, none⟩) 1 1 [(77, ByteArray.empty)] rfl (mark_src w1) (by intro h; cases h) (n + 1) (by rw [HL.out]) (by omega) (by simp; omega) ?_; intro g c w2 ho2 hb2 hc2 hm2 hg2 hw2; have hnc : n ≤ c := by omega))
  go_ret
  refine ⟨g, c, rfl, lent_of_own HZ.out HL.out hb2 hc2 hm2 ho2, ?_⟩
  have z : w.heap.size ≤ w1.heap.size := by have := hg1.size; simp at this; omega
  exact ((((Below.refl _ _).alloc (Nat.le_refl _) _).grown hg1 (by simp) (by intro k hk; cases hk; exact Nat.le_refl _)).alloc z _).grown hg2 (by simp; omega) (by intro k hk; cases hk; exact hb1)

set_option maxRecDepth 100000 in
set_option maxHeartbeats 1000000 in
theorem keptA_any (g n c : Nat) (ao : Option Addr) (cap : Nat) (xs : List (Int × ByteArray)) (w : World) (base : Nat) (hs : Ats w ao n cap xs) (hn : n ≤ 1048576) (ho : LentA w base g n c xs) :
    Calls Try.prog 14 #[.slice (some ⟨g, 0, none⟩) n c, .slice ao n cap] w fun e w' => e = .returned (.bool true) ∧ Below w.heap.size w w' := by
  have hk0 := ralike_any (some ⟨g, 0, none⟩) n c xs ao n cap xs w ho.ats hs
  rw [decide_eq_true (rfl : xs = xs)] at hk0
  have hk := hide hk0
  clear hk0
  have HO := hide ho
  have hcI : (n : Int) + 1 ≤ (c : Int) := by have := ho.hc; omega
  have hw : IntKind.i64.wrap ((n : Int) + 1) = (n : Int) + 1 := i64_in _ (by omega)
  have hp : (0 : Int) ≤ (n : Int) + 1 := by omega
  clear hs ho
  go_enter Try.func14, Try.ntmps14
  go_wp2_with fail
  refine hk.out.mono ?_
  rintro e w1 ⟨rfl, B1⟩
  have hm := (HO.out.below B1).mark
  go_wp2
  go_ret
  exact ⟨rfl, B1⟩

set_option maxRecDepth 100000 in
theorem names12_any (w : World) : Calls Try.prog 25 #[] w fun e w' => e = .returned (.bool true) ∧ w' = w := by
  go_enter Try.func25, Try.ntmps25
  go_wp2
  go_ret
  exact ⟨rfl, rfl⟩

set_option maxRecDepth 100000 in
theorem works12_any (w : World) :
    Calls Try.prog 8 #[] w fun e w' => e = .returned (.bool true) ∧ Below w.heap.size w w' := by
  have hm := hide (may_one w)
  go_enter Try.func8, Try.ntmps8
  go_wp2_with fail
  refine hm.out.mono ?_
  rintro e w1 ⟨rfl, h1⟩
  go_wp2_with fail
  refine (names12_any _).mono ?_
  rintro e w2 ⟨rfl, rfl⟩
  go_wp2
  go_ret
  exact ⟨rfl, h1⟩

end Go.Proofs.Ytclimigbbilfmaa
