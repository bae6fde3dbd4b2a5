/-
  Layer 9's statements' own 'right': a slip that may be, out of any.
-/
import Derived.Test.YtilkbjohekhjcaaDoorSlCut
import Derived.Test.YtilkbjohekhjcaaDoorSlFind
namespace Go.Proofs.YtilkbjohekhjcaaDoor
open Go.RowKit Go.IntWalk

set_option maxRecDepth 100000 in
set_option maxHeartbeats 2000000 in
theorem right_any (k : Int) (a : Option Addr) (n c : Nat) (xs : List Int) (w : World) (hs : Src w a n c xs) :
    Calls Tryd.prog 6 #[.agg #[.int .i64 k, .slice a n c]] w fun e w' => ∃ m, e = .returned (.agg #[.int .i64 (k % 256), .slice a m c]) ∧ m = min n 65535 ∧ Src w' a m c (xs.take 65535) ∧ Below w.heap.size w w' := by
  have hcap := hs.hcap
  have hlen := hs.hlen
  have hmx := hs.hmax
  unfold maxLen at hmx
  have hc1 : IntKind.u64.wrap k = k % 18446744073709551616 := IntKind.wrap_u64 k
  have hr : (k % 18446744073709551616).tmod 256 = k % 256 := by rw [Int.tmod_eq_emod_of_nonneg (by omega)]; omega
  have hc2 : IntKind.i64.wrap (k % 256) = k % 256 := i64_in _ (by omega)
  have hnI : (n : Int) ≤ 9223372036854775807 := by omega
  have HX : Hid (∀ m, m = min n 65535 → Src w a m c (xs.take 65535)) := fun m hm => by
    have h := hs.head m (by omega)
    rwa [show xs.take m = xs.take 65535 by rw [hm, ← hlen, List.take_eq_take_iff]; omega] at h
  rcases Nat.lt_or_ge 65535 n with hb | hb
  · have hm : min n 65535 = 65535 := by omega
    have hmI : min (n : Int) 65535 = 65535 := by omega
    have hbI : (65535 : Int) < (n : Int) := by omega
    have hsl : ∀ W : World, (Instr.slice 24 (.slice a n c) none (some (.int .i64 65535)) none).run Tryd.prog W = .ok (.slice a 65535 c) W := fun W => by rw [slice_hi W a n c (65535 : Int) 65535 rfl (by omega), cutA_zero]
    go_enter Tryd.func6, Tryd.ntmps6
    go_wp2
    go_region_held3 (fun W => W.cell? ⟨w.heap.size, 0, none⟩ = some (.int .i64 k) ∧ W.cell? ⟨w.heap.size, 1, none⟩ = some (.slice a n c)) (go_keep) (fail)
    go_wp2
    refine bodyPost_ret (v := .agg #[.int .i64 (k % 256), .slice a 65535 c]) (by simp [results, Tryd.results6, go_sem]) rfl ⟨65535, rfl, hm.symm, ?_, ?_⟩
    · exact (((HX.out _ hm.symm).alloc _).alloc _).heap rfl
    · exact (((Below.refl _ _).alloc (Nat.le_refl _) _).alloc (by simp) _).drew
  · have hm : min n 65535 = n := by omega
    have hmI : min (n : Int) 65535 = (n : Int) := by omega
    have hbI : ¬ (65535 : Int) < (n : Int) := by omega
    have hsl : ∀ W : World, (Instr.slice 24 (.slice a n c) none (some (.int .i64 (n : Int))) none).run Tryd.prog W = .ok (.slice a n c) W := fun W => by rw [slice_hi W a n c _ n rfl (by omega), cutA_zero]
    go_enter Tryd.func6, Tryd.ntmps6
    go_wp2
    go_region
    all_goals (
      go_wp2
      refine bodyPost_ret (v := .agg #[.int .i64 (k % 256), .slice a n c]) (by simp [results, Tryd.results6, go_sem]) rfl ⟨n, rfl, hm.symm, ?_, ?_⟩
      · exact (((HX.out _ hm.symm).alloc _).alloc _).heap rfl
      · exact (((Below.refl _ _).alloc (Nat.le_refl _) _).alloc (by simp) _).drew)

end Go.Proofs.YtilkbjohekhjcaaDoor
