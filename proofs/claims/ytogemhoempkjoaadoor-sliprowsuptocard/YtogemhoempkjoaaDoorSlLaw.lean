/-
  What layer 9's statements' own helpers do: 'lent' copies bytes and lays a mark behind them; 'kept' says true of what was lent and is as it was; names, works.
-/
import Derived.Test.YtogemhoempkjoaaDoorSlFind
import Derived.Test.YtogemhoempkjoaaDoorSlWk
import Derived.Deep.QuietTactic
import Derived.BigQuiet
namespace Go.Proofs.YtogemhoempkjoaaDoor
open Go.RowKit Go.IntWalk

set_option maxRecDepth 100000 in
set_option maxHeartbeats 1000000 in
theorem lent_any (ao : Option Addr) (n cap : Nat) (xs : List Int) (w : World) (hs : Src w ao n cap xs) (hn : n ≤ 140737488351232) :
    Calls Tryd.prog 9 #[.slice ao n cap] w fun e w' => ∃ g c, e = .returned (.slice (some ⟨g, 0, none⟩) n c) ∧ n + 1 ≤ c ∧ c ≤ maxLen ∧ w.heap.size ≤ g ∧ g < w'.heap.size ∧
      OwnB w' w.heap.size (.slice (some ⟨g, 0, none⟩) (n + 1) c) (xs ++ [90]) ∧ Below w.heap.size w w' := by
  have hlen := hs.hlen
  have HL := hide hlen
  clear hlen
  go_enter Tryd.func9, Tryd.ntmps9
  go_wp2_with (first | (at_builtin; refine wpList_appN _ rfl (.tmp 3) (.tmp 4) rfl w.heap.size (.slice (some ⟨w.heap.size, 0, none⟩) 0 0) [] rfl (OwnB.lit _ [] _ 0 rfl rfl (Nat.le_refl _) (by decide)) ao n cap xs rfl (hs.alloc _) n (by simpa using HL.out) (.inl (by simp)) (by omega) (by simp) ?_; intro g1 c1 w1 ho1 hb1 hl1 hc1 hm1 hg1) | (at_builtin; refine wpList_appN _ rfl (.tmp 5) (.tmp 6) rfl w.heap.size (.slice (some ⟨g1, 0, none⟩) n c1) xs rfl (ho1.alloc _) (some ⟨w1.heap.size, 0, none⟩) 1 1 [90] rfl (Src.lit [90] _ 1 rfl rfl (by simp) (by decide)) (n + 1) (by simpa using HL.out) (.inl (by simp)) (by omega) (by simp; omega) ?_; intro g c w2 ho2 hb2 hl2 hc2 hm2 hg2; have hnc : n ≤ c := by omega))
  go_ret
  refine ⟨g, c, rfl, hc2, hm2, hb2, hl2, ho2, ?_⟩
  have z : w.heap.size ≤ w1.heap.size := by omega
  exact ((((Below.refl _ _).alloc (Nat.le_refl _) _).grown hg1 (by simp) (by intro k hk; cases hk; exact Nat.le_refl _)).alloc z _).grown hg2 (by simp; omega) (by intro k hk; cases hk; exact hb1)

set_option maxRecDepth 100000 in
set_option maxHeartbeats 1000000 in
theorem kept_any (g n c : Nat) (ao : Option Addr) (cap : Nat) (xs : List Int) (w : World) (base : Nat) (hs : Src w ao n cap xs) (hn : n ≤ 140737488351232) (hc : n + 1 ≤ c) (hm : c ≤ maxLen)
    (ho : OwnB w base (.slice (some ⟨g, 0, none⟩) (n + 1) c) (xs ++ [90])) :
    Calls Tryd.prog 14 #[.slice (some ⟨g, 0, none⟩) n c, .slice ao n cap] w fun e w' => e = .returned (.bool true) ∧ ∃ q, w' = w.drewN q := by
  have hlen := hs.hlen
  have HL := hide hlen
  clear hlen
  have hs2 := ho.src (ys := xs ++ [90]) (by intro x hx; simp at hx; rcases hx with hx | rfl; exact hs.hbyt x hx; omega) (n + 1) (Nat.le_refl _) (by rw [List.take_of_length_le (by simp; have := HL.out; omega)]) hm
  have hcI : (n : Int) + 1 ≤ (c : Int) := by omega
  have hnI : (n : Int) ≤ 140737488351232 := by omega
  have hw : IntKind.i64.wrap ((n : Int) + 1) = (n : Int) + 1 := i64_in _ (by omega)
  have hp : (0 : Int) ≤ (n : Int) + 1 := by omega
  have ad : ¬ 9223372036854775807 < (strOfNums xs).size + 1 := by rw [strOfNums_size, HL.out]; omega
  have ae : strOfNums xs ++ { data := #[90] } = strOfNums (xs ++ [90]) := by rw [← strOf_append]; rfl
  have t1 := hs.textN
  have t2 := hs2.textN
  go_enter Tryd.func14, Tryd.ntmps14
  go_wp2_with fail
  go_quiet (fail)
  go_wp2
  go_ret
  exact ⟨rfl, _, rfl⟩

theorem names_any (w : World) : Calls Tryd.prog 15 #[] w fun e w' => e = .returned (.bool true) ∧ w' = w := by
  go_enter Tryd.func15, Tryd.ntmps15
  go_wp2
  go_ret
  exact ⟨rfl, rfl⟩

/-- What was lent, as bytes. -/
theorem lent_src {w : World} {base g n c : Nat} {xs : List Int} (ho : OwnB w base (.slice (some ⟨g, 0, none⟩) (n + 1) c) (xs ++ [90])) (hb : ∀ x ∈ xs, 0 ≤ x ∧ x < 256) (hl : xs.length = n) : Src w (some ⟨g, 0, none⟩) n c xs := by
  have hall := ho.toSrc (by intro x hx; simp at hx; rcases hx with hx | rfl; exact hb x hx; omega)
  have := hall.head n (by omega)
  rwa [List.take_append_of_le_length (by omega), List.take_of_length_le (by omega)] at this

end Go.Proofs.YtogemhoempkjoaaDoor
