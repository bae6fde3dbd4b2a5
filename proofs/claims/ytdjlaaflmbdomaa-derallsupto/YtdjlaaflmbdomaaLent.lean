/-
  What the statements' own helpers do: 'lent' copies bytes and lays a mark behind them; 'kept' says true of what was lent and is as it was; 'spoil' writes into the row that it is handed, and nowhere else.
-/
import Derived.Test.YtdjlaaflmbdomaaBts
import Derived.Deep.QuietTactic
import Derived.BigQuiet
namespace Go.Proofs.Ytdjlaaflmbdomaa
open Go.RowKit Go.IntWalk

set_option maxRecDepth 100000 in
set_option maxHeartbeats 1000000 in
theorem lent_any (ao : Option Addr) (n cap : Nat) (xs : List Int) (w : World) (hs : Src w ao n cap xs) (hn : n ≤ 140737488351232) :
    Calls Try.prog 5 #[.slice ao n cap] w fun e w' => ∃ g c, e = .returned (.slice (some ⟨g, 0, none⟩) n c) ∧ n + 1 ≤ c ∧ c ≤ maxLen ∧ w.heap.size ≤ g ∧ g < w'.heap.size ∧
      OwnB w' w.heap.size (.slice (some ⟨g, 0, none⟩) (n + 1) c) (xs ++ [90]) ∧ Below w.heap.size w w' := by
  have hlen := hs.hlen
  have HL := hide hlen
  clear hlen
  go_enter Try.func5, Try.ntmps5
  go_wp2_with (first | (at_builtin; refine wpList_appN _ rfl (.tmp 3) (.tmp 4) rfl w.heap.size (.slice (some ⟨w.heap.size, 0, none⟩) 0 0) [] rfl (OwnB.lit _ [] _ 0 rfl rfl (Nat.le_refl _) (by decide)) ao n cap xs rfl (hs.alloc _) n (by simpa using HL.out) (.inl (by simp)) (by omega) (by simp) ?_; intro g1 c1 w1 ho1 hb1 hl1 hc1 hm1 hg1) | (at_builtin; refine wpList_appN _ rfl (.tmp 5) (.tmp 6) rfl w.heap.size (.slice (some ⟨g1, 0, none⟩) n c1) xs rfl (ho1.alloc _) (some ⟨w1.heap.size, 0, none⟩) 1 1 [90] rfl (Src.lit [90] _ 1 rfl rfl (by simp) (by decide)) (n + 1) (by simpa using HL.out) (.inl (by simp)) (by omega) (by simp; omega) ?_; intro g c w2 ho2 hb2 hl2 hc2 hm2 hg2; have hnc : n ≤ c := by omega))
  go_ret
  refine ⟨g, c, rfl, hc2, hm2, hb2, hl2, ho2, ?_⟩
  have z : w.heap.size ≤ w1.heap.size := by omega
  exact ((((Below.refl _ _).alloc (Nat.le_refl _) _).grown hg1 (by simp) (by intro k hk; cases hk; exact Nat.le_refl _)).alloc z _).grown hg2 (by simp; omega) (by intro k hk; cases hk; exact hb1)

set_option maxRecDepth 100000 in
set_option maxHeartbeats 1000000 in
theorem kept_any (g n c : Nat) (ao : Option Addr) (cap : Nat) (xs : List Int) (w : World) (base : Nat) (hs : Src w ao n cap xs) (hn : n ≤ 140737488351232) (hc : n + 1 ≤ c) (hm : c ≤ maxLen)
    (ho : OwnB w base (.slice (some ⟨g, 0, none⟩) (n + 1) c) (xs ++ [90])) :
    Calls Try.prog 14 #[.slice (some ⟨g, 0, none⟩) n c, .slice ao n cap] w fun e w' => e = .returned (.bool true) ∧ ∃ q, w' = w.drewN q := by
  have hlen := hs.hlen
  have HL := hide hlen
  clear hlen
  have hs2 := ho.src (ys := xs ++ [90]) (by intro x hx; simp at hx; rcases hx with hx | rfl; exact hs.hbyt x hx; omega) (n + 1) (Nat.le_refl _) (by rw [List.take_of_length_le (by simp; have := HL.out; omega)]) hm
  have hcI : (n : Int) + 1 ≤ (c : Int) := by omega
  have hnI : (n : Int) ≤ 140737488351232 := by omega
  have hw : IntKind.i64.wrap ((n : Int) + 1) = (n : Int) + 1 := i64_in _ (by omega)
  have hp : (0 : Int) ≤ (n : Int) + 1 := by omega
  have ad : ¬ 9223372036854775807 < (strOfNums xs).size + 1 := by rw [strOfNums_size, HL.out]; omega
  have ae : strOfNums xs ++ { data := #[90] } = strOfNums (xs ++ [90]) := by rw [← strOf_append]; rfl
  have t1 := hs.textN
  have t2 := hs2.textN
  go_enter Try.func14, Try.ntmps14
  go_wp2_with fail
  go_quiet (fail)
  go_wp2
  go_ret
  exact ⟨rfl, _, rfl⟩

set_option maxRecDepth 100000 in
set_option maxHeartbeats 1000000 in
theorem spoil_row (base g n c : Nat) (xs : List Int) (w : World) (ho : OwnB w base (.slice (some ⟨g, 0, none⟩) n c) xs) (hn : n ≤ 140737488355000) (hb : base ≤ w.heap.size) :
    Calls Try.prog 9 #[.slice (some ⟨g, 0, none⟩) n c] w fun e w' => e = .returned (.tuple #[]) ∧ w.grownBy w' (some g) := by
  have hlen := ho.eqlen
  have HL := hide hlen
  clear hlen
  go_enter Try.func9, Try.ntmps9
  go_wp2
  go_loopw [2] (fun i wr => ∃ (k : Nat) (ys : List Int), k ≤ n ∧ i = .int .i64 k ∧ OwnB wr base (.slice (some ⟨g, 0, none⟩) n c) ys ∧ w.grownBy wr (some g)) (fun i _ => n - (intOf i).toNat)
  case atStart => exact ⟨0, xs, Nat.zero_le _, rfl, ho, World.grownBy.refl _ _⟩
  case round =>
    obtain ⟨k, ys, hk, rfl, hoy, hg⟩ := hrel
    have hly := hide hoy.eqlen
    by_cases hlt : k < n
    · have hcell := hoy.cell k (by rw [← hly.out]; exact hlt)
      have hfr := hoy.frozen k
      have hst := fun u => hoy.stored k u
      have HS := hide hst
      clear hst
      go_wp2
      go_roundw
      case rel => exact ⟨k + 1, _, by omega, by go_num, (HS.out _).1, grown_trans hg (HS.out _).2⟩
      case measure => simp [intOf]; omega
    · have hlk := hly.out
      have HY := hide hlk
      clear hlk
      go_wp2_with (at_builtin; refine wpList_appN _ rfl (.tmp 17) (.tmp 18) rfl base (.slice (some ⟨g, 0, none⟩) n c) ys rfl (hoy.alloc _) (some ⟨wr.heap.size, 0, none⟩) 3 3 [1, 2, 3] rfl (Src.lit [1, 2, 3] _ 3 rfl rfl (by simp) (by decide)) (n + 3) (by simp; exact HY.out.symm) (.inl (by simp)) (by omega) (by have := hg.size; simp; omega) ?_; intro g2 c2 w2 ho2 hb2 hl2 hc2 hm2 hg2)
      go_end0
      exact ⟨rfl, grown_trans (grown_trans hg (World.grownBy_alloc _ _ _)) hg2⟩

set_option maxRecDepth 100000 in
set_option maxHeartbeats 1000000 in
theorem spoil_nil (w : World) :
    Calls Try.prog 9 #[.slice none 0 0] w fun e w' => e = .returned (.tuple #[]) ∧ w.grownBy w' none := by
  go_enter Try.func9, Try.ntmps9
  go_wp2
  refine wp_loop_rounds 1 ?_
  rw [rounds_succ]
  go_wp2_with (at_builtin; refine wpList_appN _ rfl (.tmp 17) (.tmp 18) rfl w.heap.size (.slice none 0 0) [] rfl (OwnB.nil _ _) (some ⟨w.heap.size, 0, none⟩) 3 3 [1, 2, 3] rfl (Src.lit [1, 2, 3] _ 3 rfl rfl (by simp) (by decide)) 3 rfl (.inr (by simp)) (by omega) (by simp) ?_; intro g2 c2 w2 ho2 hb2 hl2 hc2 hm2 hg2)
  go_end0
  exact ⟨rfl, grown_trans (World.grownBy_alloc _ _ _) hg2⟩

/-- 'spoil' of a row of the call's own, nil or not. -/
theorem spoil_any (base : Nat) (v : Value) (xs : List Int) (w : World) (ho : OwnB w base v xs) (hn : xs.length ≤ 140737488355000) (hb : base ≤ w.heap.size) :
    Calls Try.prog 9 #[v] w fun e w' => e = .returned (.tuple #[]) ∧ w.grownBy w' v.ownBlock := by
  rcases ho.split with ⟨rfl, _⟩ | ⟨g, c, rfl, _⟩
  · exact spoil_nil w
  · exact spoil_row base g _ c xs w ho hn hb

end Go.Proofs.Ytdjlaaflmbdomaa
