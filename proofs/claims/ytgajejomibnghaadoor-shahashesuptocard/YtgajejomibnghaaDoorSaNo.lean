/-
  What no call made: nil, and Hashes and Keyeds of zero.
-/
import Derived.Test.YtgajejomibnghaaDoorSaWk
namespace Go.Proofs.YtgajejomibnghaaDoor
open Go.RowKit Go.IntWalk

attribute [local go_sem ↓] ld_words ld_part ld_sched ld_hash ld_dig ld_arr st_words st_part st_sched st_hash st_dig st_arr ix_words bd_hash bd_keyed bd_dig eq_dig

/-- A pointer to no Hash, or to one that no call made. -/
def NoH (w : World) (v : Value) : Prop := v = .pointer none ∨ ∃ b o, v = .pointer (some ⟨b, o, none⟩) ∧ w.cell? ⟨b, o, none⟩ = some (.bool false)

theorem NoH.below {w w' : World} {v : Value} (h : NoH w v) (hb : Below w.heap.size w w') : NoH w' v := by
  rcases h with h | ⟨b, o, h, hc⟩
  · exact .inl h
  · have := ltCell hc
    exact .inr ⟨b, o, h, (hb.cell this).trans hc⟩
theorem NoH.alloc {w : World} {v : Value} (h : NoH w v) (ob : Obj) : NoH (w.alloc ob) v := h.below ((Below.refl _ _).alloc (Nat.le_refl _) _)

set_option maxRecDepth 100000 in
theorem made_no (v : Value) (w : World) (h : NoH w v) :
    Calls Tryd.prog 33 #[v] w fun e w' => e = .returned (.bool false) ∧ w' = w := by
  rcases h with rfl | ⟨b, o, rfl, hc⟩
  · go_enter Tryd.func33, Tryd.ntmps33
    go_wp2
    go_ret
    exact ⟨rfl, rfl⟩
  · go_enter Tryd.func33, Tryd.ntmps33
    go_wp2
    go_ret
    exact ⟨rfl, rfl⟩

set_option maxRecDepth 100000 in
theorem kmade_no (v : Value) (w : World) (h : NoH w v) :
    Calls Tryd.prog 35 #[v] w fun e w' => e = .returned (.bool false) ∧ w' = w := by
  rcases h with rfl | ⟨b, o, rfl, hc⟩
  · go_enter Tryd.func35, Tryd.ntmps35
    go_wp2
    go_ret
    exact ⟨rfl, rfl⟩
  · have HM := hide (made_no (.pointer (some ⟨b, o, none⟩)) w (.inr ⟨b, o, rfl, hc⟩))
    go_enter Tryd.func35, Tryd.ntmps35
    go_wp2_with fail
    refine HM.out.mono ?_
    rintro e w1 ⟨rfl, hw⟩
    subst hw
    go_wp2
    go_ret
    exact ⟨rfl, rfl⟩

set_option maxRecDepth 100000 in
theorem write_no (v : Value) (u : Value) (w : World) (h : NoH w v) :
    Calls Tryd.prog 16 #[v, u] w fun e w' => e = .returned (.int .i64 1) ∧ w' = w := by
  have HM := hide (made_no v w h)
  clear h
  go_enter Tryd.func16, Tryd.ntmps16
  go_wp2_with fail
  refine HM.out.mono ?_
  rintro e w1 ⟨rfl, hw⟩
  subst hw
  go_wp2
  go_ret
  exact ⟨rfl, rfl⟩

set_option maxRecDepth 100000 in
theorem kwrite_no (v : Value) (u : Value) (w : World) (h : NoH w v) :
    Calls Tryd.prog 21 #[v, u] w fun e w' => e = .returned (.int .i64 1) ∧ w' = w := by
  have HM := hide (kmade_no v w h)
  clear h
  go_enter Tryd.func21, Tryd.ntmps21
  go_wp2_with fail
  refine HM.out.mono ?_
  rintro e w1 ⟨rfl, hw⟩
  subst hw
  go_wp2
  go_ret
  exact ⟨rfl, rfl⟩

set_option maxRecDepth 100000 in
theorem len_no (v : Value)  (w : World) (h : NoH w v) :
    Calls Tryd.prog 18 #[v] w fun e w' => e = .returned (.int .i64 0) ∧ w' = w := by
  have HM := hide (made_no v w h)
  clear h
  go_enter Tryd.func18, Tryd.ntmps18
  go_wp2_with fail
  refine HM.out.mono ?_
  rintro e w1 ⟨rfl, hw⟩
  subst hw
  go_wp2
  go_ret
  exact ⟨rfl, rfl⟩

set_option maxRecDepth 100000 in
theorem copy_no (v : Value)  (w : World) (h : NoH w v) :
    Calls Tryd.prog 15 #[v] w fun e w' => e = .returned (.pointer none) ∧ w' = w := by
  have HM := hide (made_no v w h)
  clear h
  go_enter Tryd.func15, Tryd.ntmps15
  go_wp2_with fail
  refine HM.out.mono ?_
  rintro e w1 ⟨rfl, hw⟩
  subst hw
  go_wp2
  go_ret
  exact ⟨rfl, rfl⟩

/-- 32 bytes 0. -/
def zero32 : List Value := List.replicate 32 (.int .u8 0)

set_option maxRecDepth 100000 in
theorem hsum_no (v : Value) (w : World) (h : NoH w v) :
    Calls Tryd.prog 17 #[v] w fun e w' => e = .returned (.agg zero32.toArray) ∧ Below w.heap.size w w' := by
  have HM := hide (made_no v _ (h.alloc (.cells #[.int .u8 0, .int .u8 0, .int .u8 0, .int .u8 0, .int .u8 0, .int .u8 0, .int .u8 0, .int .u8 0, .int .u8 0, .int .u8 0, .int .u8 0, .int .u8 0, .int .u8 0, .int .u8 0, .int .u8 0, .int .u8 0, .int .u8 0, .int .u8 0, .int .u8 0, .int .u8 0, .int .u8 0, .int .u8 0, .int .u8 0, .int .u8 0, .int .u8 0, .int .u8 0, .int .u8 0, .int .u8 0, .int .u8 0, .int .u8 0, .int .u8 0, .int .u8 0] 26)))
  have hbd : ∀ W : World, (bdA 26 #[]).run Tryd.prog W = .ok (.agg zero32.toArray) W := fun W => by kernel_rfl
  have hst : (stA 26 (.pointer (some ⟨w.heap.size, 0, none⟩)) (.agg zero32.toArray)).run Tryd.prog (w.alloc (.cells #[.int .u8 0, .int .u8 0, .int .u8 0, .int .u8 0, .int .u8 0, .int .u8 0, .int .u8 0, .int .u8 0, .int .u8 0, .int .u8 0, .int .u8 0, .int .u8 0, .int .u8 0, .int .u8 0, .int .u8 0, .int .u8 0, .int .u8 0, .int .u8 0, .int .u8 0, .int .u8 0, .int .u8 0, .int .u8 0, .int .u8 0, .int .u8 0, .int .u8 0, .int .u8 0, .int .u8 0, .int .u8 0, .int .u8 0, .int .u8 0, .int .u8 0, .int .u8 0] 26)) = .ok () (w.alloc (.cells zero32.toArray 26)) :=
    run_storeAt_new w _ _ _ (by rw [List.size_toArray]; exact info_dig) rfl (all_oneCell_toArray (by intro v hv; simp [zero32] at hv; subst hv; rfl))
  clear h
  go_enter Tryd.func17, Tryd.ntmps17
  go_wp2_with fail
  refine HM.out.mono ?_
  rintro e w1 ⟨rfl, hw⟩
  subst hw
  go_wp2
  refine bodyPost_ret (v := .agg zero32.toArray) ?_ rfl ⟨rfl, (Below.refl _ _).alloc (Nat.le_refl _) _⟩
  exact results_one (T := 26) (X := zero32) (p := 2) (ty := 26) (g := w.heap.size) (by kernel_rfl) _ _ rfl Tryd.underlying26 rfl info_dig (Blk.new w _ _ _ rfl rfl)

set_option maxRecDepth 100000 in
theorem ksum_no (v : Value) (w : World) (h : NoH w v) :
    Calls Tryd.prog 20 #[v] w fun e w' => e = .returned (.agg zero32.toArray) ∧ Below w.heap.size w w' := by
  have HM := hide (kmade_no v _ (h.alloc (.cells #[.int .u8 0, .int .u8 0, .int .u8 0, .int .u8 0, .int .u8 0, .int .u8 0, .int .u8 0, .int .u8 0, .int .u8 0, .int .u8 0, .int .u8 0, .int .u8 0, .int .u8 0, .int .u8 0, .int .u8 0, .int .u8 0, .int .u8 0, .int .u8 0, .int .u8 0, .int .u8 0, .int .u8 0, .int .u8 0, .int .u8 0, .int .u8 0, .int .u8 0, .int .u8 0, .int .u8 0, .int .u8 0, .int .u8 0, .int .u8 0, .int .u8 0, .int .u8 0] 26)))
  have hbd : ∀ W : World, (bdA 26 #[]).run Tryd.prog W = .ok (.agg zero32.toArray) W := fun W => by kernel_rfl
  have hst : (stA 26 (.pointer (some ⟨w.heap.size, 0, none⟩)) (.agg zero32.toArray)).run Tryd.prog (w.alloc (.cells #[.int .u8 0, .int .u8 0, .int .u8 0, .int .u8 0, .int .u8 0, .int .u8 0, .int .u8 0, .int .u8 0, .int .u8 0, .int .u8 0, .int .u8 0, .int .u8 0, .int .u8 0, .int .u8 0, .int .u8 0, .int .u8 0, .int .u8 0, .int .u8 0, .int .u8 0, .int .u8 0, .int .u8 0, .int .u8 0, .int .u8 0, .int .u8 0, .int .u8 0, .int .u8 0, .int .u8 0, .int .u8 0, .int .u8 0, .int .u8 0, .int .u8 0, .int .u8 0] 26)) = .ok () (w.alloc (.cells zero32.toArray 26)) :=
    run_storeAt_new w _ _ _ (by rw [List.size_toArray]; exact info_dig) rfl (all_oneCell_toArray (by intro v hv; simp [zero32] at hv; subst hv; rfl))
  clear h
  go_enter Tryd.func20, Tryd.ntmps20
  go_wp2_with fail
  refine HM.out.mono ?_
  rintro e w1 ⟨rfl, hw⟩
  subst hw
  go_wp2
  refine bodyPost_ret (v := .agg zero32.toArray) ?_ rfl ⟨rfl, (Below.refl _ _).alloc (Nat.le_refl _) _⟩
  exact results_one (T := 26) (X := zero32) (p := 2) (ty := 26) (g := w.heap.size) (by kernel_rfl) _ _ rfl Tryd.underlying26 rfl info_dig (Blk.new w _ _ _ rfl rfl)

end Go.Proofs.YtgajejomibnghaaDoor
