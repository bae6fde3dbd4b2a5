/-
  bytes.Clone copies bytes into new memory; der's span.element answers the element that a span tells, its content copied.
-/
import Derived.Test.YtdjlaaflmbdomaaFindIt
import Derived.Test.YtdjlaaflmbdomaaMore
import Derived.WalkSpells
import Derived.Deep.RegionHeld3
namespace Go.Proofs.Ytdjlaaflmbdomaa
open Go.RowKit Go.IntWalk

set_option maxRecDepth 100000 in
set_option maxHeartbeats 1000000 in
theorem clone_any (ao : Option Addr) (n cap : Nat) (xs : List Int) (w : World) (hs : Src w ao n cap xs) (hN : n ≤ 140737488355328) :
    Calls Try.prog 19 #[.slice ao n cap] w fun e w' => ∃ ao' c', e = .returned (.slice ao' n c') ∧ OwnB w' w.heap.size (.slice ao' n c') xs ∧ Below w.heap.size w w' := by
  have q22 : ∀ (w : World) (a : Option Addr) (n c n' c' : Nat), (binOp .eql 22 (.slice a n c) (.slice none n' c')).run Try.prog w = .ok (.bool a.isNone) w :=
    fun w a n c n' c' => Lib.run_eql_slice_nil w _ _ a n c n' c' Try.underlying22
  have hl := hide hs.hlen
  cases ao with
  | none =>
    obtain ⟨rfl, rfl⟩ := hs.hnil rfl
    obtain rfl : xs = [] := List.eq_nil_of_length_eq_zero hl.out
    go_enter Try.func19, Try.ntmps19
    go_wp2
    go_ret
    exact ⟨_, _, rfl, OwnB.nil _ _, Below.refl _ _⟩
  | some ad =>
    go_enter Try.func19, Try.ntmps19
    go_wp2_with (at_builtin; refine wpList_appN _ rfl (.tmp 5) (.tmp 6) rfl w.heap.size (.slice (some ⟨w.heap.size, 0, none⟩) 0 0) [] rfl (OwnB.lit _ [] _ 0 rfl rfl (Nat.le_refl _) (by decide)) (some ad) n cap xs rfl (hs.alloc _) n (by simpa using hl.out) (.inl (by simp)) (by omega) (by simp) ?_; intro g1 c1 w1 ho1 hb1 hl1 hc1 hm1 hg1)
    go_ret
    exact ⟨_, _, rfl, ho1, ((Below.refl _ _).alloc (Nat.le_refl _) _).grown hg1 (by simp) (by intro k hk; cases hk; exact Nat.le_refl _)⟩

set_option maxRecDepth 100000 in
set_option maxHeartbeats 2000000 in
theorem element_any (tag : Int) (l h : Nat) (ao : Option Addr) (n cap : Nat) (xs : List Int) (w : World) (hs : Src w ao n cap xs) (hN : (n : Int) ≤ 140737488355328) (hlh : l ≤ h) (hhn : h ≤ n) :
    Calls Try.prog 16 #[.agg #[.int .i64 tag, .int .i64 l, .int .i64 h], .slice ao n cap] w fun e w' =>
      ∃ ao' c', e = .returned (.agg #[.int .i64 tag, .slice ao' (h - l) c']) ∧ OwnB w' w.heap.size (.slice ao' (h - l) c') ((xs.take h).drop l) ∧ Below w.heap.size w w' := by
  have hnc := hs.hcap
  have hs1 := hs.cut l h hlh hhn
  have sl := fun W => slice_lh W ao n cap l h l h rfl rfl hlh (by omega)
  generalize cutA ao cap l = A at hs1 sl
  generalize (xs.take h).drop l = ys at hs1 ⊢
  go_enter Try.func16, Try.ntmps16
  go_wp2
  go_region_held3 (fun W => W.cell? ⟨w.heap.size, 0, none⟩ = some (.int .i64 tag) ∧ W.cell? ⟨w.heap.size, 1, none⟩ = some (.int .i64 l) ∧ W.cell? ⟨w.heap.size, 2, none⟩ = some (.int .i64 h)) (go_keep) (first | (go_at_call 19; refine (clone_any _ _ _ ys _ (by exact ((hs1.alloc _).alloc _).drewN 1) (by omega)).mono ?_; rintro e w1 ⟨ao', c', rfl, hv, hb1⟩; obtain ⟨hc, hf⟩ := bcell hb1; have k0 : w1.cell? ⟨w.heap.size, 0, none⟩ = some (.int .i64 tag) := (by rw [hc _ _ (by simp; omega)]; simp); have k1 : w1.cell? ⟨w.heap.size, 1, none⟩ = some (.int .i64 l) := (by rw [hc _ _ (by simp; omega)]; simp); have k2 : w1.cell? ⟨w.heap.size, 2, none⟩ = some (.int .i64 h) := (by rw [hc _ _ (by simp; omega)]; simp); have hz : w.heap.size + 1 < w1.heap.size := by (have := hb1.size; simp at this; omega)))
  go_wp2
  refine bodyPost_ret (v := .agg #[.int .i64 tag, .slice ao' (h - l) c']) (by simp [results, Try.results16, go_sem, hc]) rfl ⟨ao', c', rfl, ?_, ?_⟩
  · exact ((hv.setBelow (by simp) _).setBelow (by simp) _).rebase (by simp; omega)
  · exact ((((((Below.refl _ _).alloc (Nat.le_refl _) _).alloc (by simp) _).drew).trans (hb1.mono (by simp; omega))).setCell (by simp) _).setCell (by simp) _

end Go.Proofs.Ytdjlaaflmbdomaa
