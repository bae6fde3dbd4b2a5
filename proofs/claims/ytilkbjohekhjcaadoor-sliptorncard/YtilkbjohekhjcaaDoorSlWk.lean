/-
  Layer 9's statements' own 'works'.
-/
import Derived.Test.YtilkbjohekhjcaaDoorSlMov
import Derived.Deep.RegionWith
import Derived.Lib.SlBytesConst
namespace Go.Proofs.YtilkbjohekhjcaaDoor
open Go.RowKit Go.IntWalk

theorem sum_abc : sumS [97, 98, 99] = 891568578 := by decide +kernel
theorem sum_nil : sumS [] = 0 := by decide +kernel

theorem sumOne_any (ao : Option Addr) (n cap g : Nat) (xs : List Int) (w : World) (hT : Tab w) (hs : Src w ao n cap xs) (hg : w.cell? ⟨g, 0, none⟩ = some (.slice ao n cap)) :
    Calls Tryd.prog 10 #[.slice (some ⟨g, 0, none⟩) 1 1] w fun e w' => e = .returned (.int .u32 (sumS xs)) ∧ w' = w := by
  have := sum_any [⟨ao, n, cap, xs⟩] (some ⟨g, 0, none⟩) 1 1 w hT rfl (by decide) (by
    intro i p hp
    match i, hp with
    | 0, hp => simp at hp; subst hp; exact ⟨g, 0, rfl, by simpa [Pc.val] using hg⟩
    | i + 1, hp => simp at hp) (by intro p hp; simp at hp; subst hp; exact hs)
  simpa [allOf] using this

theorem sumNone_any (w : World) (hT : Tab w) :
    Calls Tryd.prog 10 #[.slice none 0 0] w fun e w' => e = .returned (.int .u32 (sumS [])) ∧ w' = w := by
  have := sum_any [] none 0 0 w hT rfl (by decide) (by intro i p hp; simp at hp) (by intro p hp; simp at hp)
  simpa [allOf] using this

set_option maxRecDepth 100000 in
theorem works_any (w : World) (hT : Tab w) : Calls Tryd.prog 4 #[] w fun e w' => e = .returned (.bool true) ∧ Below w.heap.size w w' := by
  have HT := hide hT
  have HA := hide sum_abc
  have HN := hide sum_nil
  have hcv : (convert 24 24 (.slice (some ⟨w.heap.size, 0, none⟩) 3 3)).run Tryd.prog (w.alloc (.cells #[.int .u8 97, .int .u8 98, .int .u8 99] 5)) = .ok (.slice (some ⟨w.heap.size, 0, none⟩) 3 3) (w.alloc (.cells #[.int .u8 97, .int .u8 98, .int .u8 99] 5 (3, 4))) := Lib.run_convert_bytes_const (P := Tryd.prog) w 24 5 #[.int .u8 97, .int .u8 98, .int .u8 99] 3 3 Tryd.underlying24 Tryd.underlying5
  have hsrc : Src (w.alloc (.cells #[.int .u8 97, .int .u8 98, .int .u8 99] 5 (3, 4))) (some ⟨w.heap.size, 0, none⟩) 3 3 [97, 98, 99] := by
    have hh : (w.alloc (.cells #[.int .u8 97, .int .u8 98, .int .u8 99] 5 (3, 4))).heap[w.heap.size]? = some (.cells #[.int .u8 97, .int .u8 98, .int .u8 99] 5 (3, 4)) := (MapKept.heap_alloc w _).1
    refine ⟨rfl, Nat.le_refl _, by decide, by simp, fun _ => ⟨w.heap.size, 0, rfl, fun i hi => ?_⟩, by intro x hx; simp at hx; omega⟩
    rw [cell_of_row _ _ _ _ _ _ hh]
    have hi3 : i < 3 := hi
    rcases (show i = 0 ∨ i = 1 ∨ i = 2 by omega) with rfl | rfl | rfl <;> rfl
  have HSrc := hide hsrc
  clear hT hsrc
  go_enter Tryd.func4, Tryd.ntmps4
  go_wp2_with (first | (go_at_call_of 10 (Value.slice none 0 0); refine (sumNone_any _ ((HT.out.alloc _).alloc _)).mono ?_; rintro e w2 ⟨rfl, rfl⟩; rw [HN.out]) | (go_at_call 10; refine (sumOne_any (some ⟨w.heap.size, 0, none⟩) 3 3 _ [97, 98, 99] _ ((HT.out.alloc _).alloc _) (HSrc.out.alloc _) (by simp)).mono ?_; rintro e w1 ⟨rfl, rfl⟩; rw [HA.out]))
  go_ret
  exact ⟨rfl, ((Below.refl _ _).alloc (Nat.le_refl _) _).alloc (by simp) _⟩

end Go.Proofs.YtilkbjohekhjcaaDoor
