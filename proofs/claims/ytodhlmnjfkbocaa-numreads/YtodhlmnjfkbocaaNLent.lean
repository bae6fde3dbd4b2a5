/-
  What the statements' own helpers of layer 2 do: 'lent' copies bytes and lays a mark behind them; 'kept' says true of what was lent and is as it was; 'names' says true; 'own' says true of two answers alike that lie apart, and writes into the first one's row alone.
-/
import Derived.Test.YtodhlmnjfkbocaaNOwn
namespace Go.Proofs.Ytodhlmnjfkbocaa
open Go.RowKit Go.IntWalk

set_option maxRecDepth 100000 in
set_option maxHeartbeats 1000000 in
theorem nlent_any (ao : Option Addr) (n cap : Nat) (xs : List Int) (w : World) (hs : Src w ao n cap xs) (hn : n ≤ 140737488351232) :
    Calls Try.prog 30 #[.slice ao n cap] w fun e w' => ∃ g c, e = .returned (.slice (some ⟨g, 0, none⟩) n c) ∧ n + 1 ≤ c ∧ c ≤ maxLen ∧ w.heap.size ≤ g ∧ g < w'.heap.size ∧
      OwnB w' w.heap.size (.slice (some ⟨g, 0, none⟩) (n + 1) c) (xs ++ [90]) ∧ Below w.heap.size w w' := by
  have hlen := hs.hlen
  have HL := hide hlen
  clear hlen
  go_enter Try.func30, Try.ntmps30
  go_wp2_with (first | (at_builtin; refine wpList_appN _ rfl (.tmp 3) (.tmp 4) rfl w.heap.size (.slice (some ⟨w.heap.size, 0, none⟩) 0 0) [] rfl (OwnB.lit _ [] _ 0 rfl rfl (Nat.le_refl _) (by decide)) ao n cap xs rfl (hs.alloc _) n (by simpa using HL.out) (.inl (by simp)) (by omega) (by simp) ?_; intro g1 c1 w1 ho1 hb1 hl1 hc1 hm1 hg1) | (at_builtin; refine wpList_appN _ rfl (.tmp 5) (.tmp 6) rfl w.heap.size (.slice (some ⟨g1, 0, none⟩) n c1) xs rfl (ho1.alloc _) (some ⟨w1.heap.size, 0, none⟩) 1 1 [90] rfl (Src.lit [90] _ 1 rfl rfl (by simp) (by decide)) (n + 1) (by simpa using HL.out) (.inl (by simp)) (by omega) (by simp; omega) ?_; intro g c w2 ho2 hb2 hl2 hc2 hm2 hg2; have hnc : n ≤ c := by omega))
  go_ret
  refine ⟨g, c, rfl, hc2, hm2, hb2, hl2, ho2, ?_⟩
  have z : w.heap.size ≤ w1.heap.size := by omega
  exact ((((Below.refl _ _).alloc (Nat.le_refl _) _).grown hg1 (by simp) (by intro k hk; cases hk; exact Nat.le_refl _)).alloc z _).grown hg2 (by simp; omega) (by intro k hk; cases hk; exact hb1)

set_option maxRecDepth 100000 in
set_option maxHeartbeats 1000000 in
theorem nkept_any (g n c : Nat) (ao : Option Addr) (cap : Nat) (xs : List Int) (w : World) (base : Nat) (hs : Src w ao n cap xs) (hn : n ≤ 140737488351232) (hc : n + 1 ≤ c) (hm : c ≤ maxLen)
    (ho : OwnB w base (.slice (some ⟨g, 0, none⟩) (n + 1) c) (xs ++ [90])) :
    Calls Try.prog 41 #[.slice (some ⟨g, 0, none⟩) n c, .slice ao n cap] w fun e w' => e = .returned (.bool true) ∧ ∃ q, w' = w.drewN q := by
  have hlen := hs.hlen
  have HL := hide hlen
  clear hlen
  have hs2 := ho.src (ys := xs ++ [90]) (by intro x hx; simp at hx; rcases hx with hx | rfl; exact hs.hbyt x hx; omega) (n + 1) (Nat.le_refl _) (by rw [List.take_of_length_le (by simp; have := HL.out; omega)]) hm
  have hcI : (n : Int) + 1 ≤ (c : Int) := by omega
  have hnI : (n : Int) ≤ 140737488351232 := by omega
  have hw : IntKind.i64.wrap ((n : Int) + 1) = (n : Int) + 1 := i64_in _ (by omega)
  have hp : (0 : Int) ≤ (n : Int) + 1 := by omega
  have ad : ¬ 9223372036854775807 < (strOfNums xs).size + 1 := by rw [strOfNums_size, HL.out]; omega
  have ae : strOfNums xs ++ { data := #[90] } = strOfNums (xs ++ [90]) := by rw [← strOf_append]; rfl
  have t1 := hs.textN
  have t2 := hs2.textN
  go_enter Try.func41, Try.ntmps41
  go_wp2_with fail
  go_quiet (fail)
  go_wp2
  go_ret
  exact ⟨rfl, _, rfl⟩

theorem nnames_any (w : World) : Calls Try.prog 29 #[] w fun e w' => e = .returned (.bool true) ∧ w' = w := by
  go_enter Try.func29, Try.ntmps29
  go_wp2
  go_ret
  exact ⟨rfl, rfl⟩

set_option maxRecDepth 100000 in
set_option maxHeartbeats 1000000 in
theorem own_row (T : TypeId) (base g n c : Nat) (pre xs : List Int) (ay : Option Addr) (ny cy : Nat) (az : Option Addr) (nz cz : Nat) (w : World) (ho : OwnT T w base (.slice (some ⟨g, 0, none⟩) (pre.length + n) (pre.length + c)) (pre ++ xs)) (hx : Src w (some ⟨g, pre.length, none⟩) n c xs)
    (hy : Src w ay ny cy xs) (hz : Src w az nz cz xs) (hxy : apart (some ⟨g, pre.length, none⟩) ay xs) (hxz : apart (some ⟨g, pre.length, none⟩) az xs) (hn : n ≤ 140737488355000) :
    Calls Try.prog 24 #[.slice (some ⟨g, pre.length, none⟩) n c, .slice ay ny cy, .slice az nz cz] w fun e w' => e = .returned (.bool true) ∧ w.grownBy w' (some g) := by
  have hlen := hx.hlen
  have HL := hide hlen
  clear hlen
  have t1 := hx.text
  have t2 := hz.text
  have hnc := hx.hcap
  go_enter Try.func24, Try.ntmps24
  go_wp2
  clear t1 t2
  go_loopw [7] (fun i wr => ∃ (k : Nat) (ys : List Int), k ≤ n ∧ i = .int .i64 k ∧ ys.length = n ∧ OwnT T wr base (.slice (some ⟨g, 0, none⟩) (pre.length + n) (pre.length + c)) (pre ++ ys) ∧ w.grownBy wr (some g)) (fun i _ => n - (intOf i).toNat)
  case atStart => exact ⟨0, xs, Nat.zero_le _, rfl, HL.out, ho, World.grownBy.refl _ _⟩
  case round =>
    obtain ⟨k, ys, hk, rfl, hly, hoy, hg⟩ := hrel
    have HLY := hide hly
    clear hly
    by_cases hlt : k < n
    · have hcell := hoy.cell (pre.length + k) (by have := HLY.out; simp; omega)
      have hfr := hoy.frozen (pre.length + k)
      have hst : Hid (∀ u, OwnT T (wr.setCell ⟨g, pre.length + k, none⟩ (.int .u8 u)) base (.slice (some ⟨g, 0, none⟩) (pre.length + n) (pre.length + c)) (pre ++ ys.set k u) ∧ wr.grownBy (wr.setCell ⟨g, pre.length + k, none⟩ (.int .u8 u)) (some g)) := by
        intro u
        have := hoy.stored (pre.length + k) u
        rw [List.set_append_right _ _ (by omega), Nat.add_sub_cancel_left] at this
        exact this
      go_wp2
      go_roundw
      case rel =>
        exact ⟨k + 1, ys.set k _, by omega, by go_num, by rw [List.length_set]; exact HLY.out, (hst.out _).1, grown_trans hg (hst.out _).2⟩
      case measure => simp [intOf]; omega
    · have t3 := fun (u : World) (hu : w.grownBy u (some g)) => (hy.grown hu (fun b off he hx h' => hxy b off he hx h'.symm)).text
      have t4 := fun (u : World) (hu : w.grownBy u (some g)) => (hz.grown hu (fun b off he hx h' => hxz b off he hx h'.symm)).text
      have T3 := hide t3
      have T4 := hide t4
      clear t3 t4
      go_wp2_with (at_builtin; refine wpList_appO _ rfl (.tmp 27) (.tmp 28) rfl base g n c pre ys rfl HLY.out (World.ownsRow.alloc hoy _) ⟨wr.heap.size, 0, none⟩ 2 2 [7, 7] rfl (Src.lit [7, 7] _ 2 rfl rfl (by simp) (by decide)) (by omega) ?_; intro v' w' hg'; have G := grown_trans (grown_trans hg (World.grownBy_alloc _ _ _)) hg'; have t3 := T3.out _ G; have t4 := T4.out _ G)
      go_ret
      exact ⟨rfl, G⟩

set_option maxRecDepth 100000 in
set_option maxHeartbeats 1000000 in
theorem own_nil (az : Option Addr) (nz cz : Nat) (ay : Option Addr) (ny cy : Nat) (w : World) (hy : Src w ay ny cy []) (hz : Src w az nz cz []) :
    Calls Try.prog 24 #[.slice none 0 0, .slice ay ny cy, .slice az nz cz] w fun e w' => e = .returned (.bool true) ∧ w.grownBy w' none := by
  have t1 := (OwnO.nil w 0).src (by simp) |>.text
  have t2 := hz.text
  have T3 := hide (fun (u : World) (hu : w.grownBy u none) => (hy.grown hu (fun b off he hx h' => by simp at h')).text)
  have T4 := hide (fun (u : World) (hu : w.grownBy u none) => (hz.grown hu (fun b off he hx h' => by simp at h')).text)
  go_enter Try.func24, Try.ntmps24
  go_wp2
  clear t1 t2
  refine wp_loop_rounds 1 ?_
  rw [rounds_succ]
  go_wp2_with (at_builtin; refine wpList_appN _ rfl (.tmp 27) (.tmp 28) rfl w.heap.size (.slice none 0 0) [] rfl (OwnB.nil _ _) (some ⟨w.heap.size, 0, none⟩) 2 2 [7, 7] rfl (Src.lit [7, 7] _ 2 rfl rfl (by simp) (by decide)) 2 rfl (.inr (by simp)) (by omega) (by simp) ?_; intro g2 c2 w2 ho2 hb2 hl2 hc2 hm2 hg2; have G := grown_trans (World.grownBy_alloc w _ none) hg2; have t3 := T3.out _ G; have t4 := T4.out _ G)
  go_ret
  exact ⟨rfl, G⟩

/-- 'own' of two answers alike. -/
theorem own_any (base : Nat) (ax : Option Addr) (nx cx : Nat) (ay : Option Addr) (ny cy : Nat) (az : Option Addr) (nz cz : Nat) (xs : List Int) (w : World) (hb : ∀ x ∈ xs, 0 ≤ x ∧ x < 256) (hx : OwnO w base ax nx cx xs)
    (hy : Src w ay ny cy xs) (hz : Src w az nz cz xs) (hxy : apart ax ay xs) (hxz : apart ax az xs) (hn : nx ≤ 140737488355000) :
    Calls Try.prog 24 #[.slice ax nx cx, .slice ay ny cy, .slice az nz cz] w fun e w' => e = .returned (.bool true) ∧ w.grownBy w' (blk ax) := by
  have hs := hx.src hb
  rcases hx with ⟨rfl, rfl, rfl, rfl⟩ | ⟨T, g, pre, rfl, hg, ho⟩
  · exact own_nil az nz cz ay ny cy w hy hz
  · exact own_row T base g nx cx pre xs ay ny cy az nz cz w ho hs hy hz hxy hxz hn

end Go.Proofs.Ytodhlmnjfkbocaa
