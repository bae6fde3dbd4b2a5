/-
  sha.Key and a Keyed's methods, sha.Mac.
-/
import Derived.Test.YtgajejomibnghaaDoorSaKs
namespace Go.Proofs.YtgajejomibnghaaDoor
open Go.RowKit Go.IntWalk

attribute [local go_sem ↓] ld_words ld_part ld_sched ld_hash ld_dig ld_arr st_words st_part st_sched st_hash st_dig st_arr ix_words bd_hash bd_keyed bd_dig

theorem blk_src {T : TypeId} {w : World} {g n : Nat} {xs : List Int} (h : Blk T w g (xs.map (Value.int .u8))) (hd : Dg 256 xs) (hl : xs.length = n) (hn : n ≤ 1000000) : SrcG .u8 256 w (some ⟨g, 0, none⟩) n n xs := by
  have hr : RowG .u8 256 T w g xs := ⟨h, hd⟩
  have := hr.srcAll (by unfold maxLen; omega)
  rw [hl] at this
  exact this

set_option maxRecDepth 100000 in
set_option maxHeartbeats 4000000 in
theorem key_any (a : Option Addr) (n c : Nat) (key : List Int) (w : World) (hs : SrcG .u8 256 w a n c key) (hnm : n ≤ 140737488355328) (hT : Tabs w) :
    Calls Tryd.prog 19 #[.slice a n c] w fun e w' => e = .returned (.pointer (some ⟨w.heap.size + 1 + 1, 0, none⟩)) ∧ Ks w' (w.heap.size + 1 + 1) (mask 54 (keyOf key)) (mask 92 (keyOf key)) ∧ Below w.heap.size w w' := by
  have HS := hide hs
  have HT := hide hT
  have HLt := hide hT.lt
  have HNM := hide hnm
  have hih : (Tryd.prog.info? 73).map (·.size) = some h0V.length := by kernel_rfl
  have l1 : (ldA 73 (.pointer (some ⟨w.heap.size, 0, none⟩))).run Tryd.prog (w.alloc (.cells h0V.toArray 73)).drew = .ok (.agg h0V.toArray) (w.alloc (.cells h0V.toArray 73)).drew := ldA_all Tryd.underlying73 rfl hih (Blk.heap (w := (w.alloc (.cells h0V.toArray 73))) (Blk.new w _ _ _ rfl rfl) rfl)
  have l2 : (ldA 73 (.pointer (some ⟨w.heap.size, 0, none⟩))).run Tryd.prog ((w.alloc (.cells h0V.toArray 73)).alloc (.cells h0V.toArray 73)).drew = .ok (.agg h0V.toArray) ((w.alloc (.cells h0V.toArray 73)).alloc (.cells h0V.toArray 73)).drew := ldA_all Tryd.underlying73 rfl hih (Blk.heap (w := ((w.alloc (.cells h0V.toArray 73)).alloc (.cells h0V.toArray 73))) ((Blk.new w _ _ _ rfl rfl).alloc _) rfl)
  have l3 : (ldA 73 (.pointer (some ⟨w.heap.size + 1, 0, none⟩))).run Tryd.prog ((w.alloc (.cells h0V.toArray 73)).alloc (.cells h0V.toArray 73)).drew = .ok (.agg h0V.toArray) ((w.alloc (.cells h0V.toArray 73)).alloc (.cells h0V.toArray 73)).drew := ldA_all Tryd.underlying73 rfl hih (Blk.heap (w := ((w.alloc (.cells h0V.toArray 73)).alloc (.cells h0V.toArray 73))) (Blk.new _ _ _ _ rfl (by simp)) rfl)
  have hbd : ∀ W : World, (bdA 75 #[(0, .agg h0V.toArray), (1, .agg h0V.toArray)]).run Tryd.prog W = .ok (.agg (h0V ++ h0V).toArray) W := fun W => by kernel_rfl
  clear hs hT hnm hih
  go_enter Tryd.func19, Tryd.ntmps19
  go_wp2
  go_region_with ((go_at_call 14; refine (new_eq _ ?_).mono ?_; (first | exact HT.out.heap rfl | exact Tabs.heap (HT.out.below ((Below.refl _ _).alloc (Nat.le_refl _) _) HLt.out) rfl); rintro e w1 ⟨rfl, rfl⟩))
  all_goals
    clear l1 l2 l3 hbd
    have HK0 : Hid (Ks (((w.alloc (.cells h0V.toArray 73)).alloc (.cells h0V.toArray 73)).alloc (.cells (h0V ++ h0V).toArray 75)).drew (w.heap.size + 1 + 1) [] []) := Ks.heap (ks_new (Blk.new _ _ _ _ rfl (by simp))) rfl
    have HW0 : Hid (Below w.heap.size w (((w.alloc (.cells h0V.toArray 73)).alloc (.cells h0V.toArray 73)).alloc (.cells (h0V ++ h0V).toArray 75)).drew) := ((((Below.refl _ _).alloc (Nat.le_refl _) _).alloc (by simp) _).alloc (by simp; omega) _).drew
    have hZ0 : w.heap.size + 1 + 1 + 1 ≤ (((w.alloc (.cells h0V.toArray 73)).alloc (.cells h0V.toArray 73)).alloc (.cells (h0V ++ h0V).toArray 75)).drew.heap.size := by simp
    have HZ0 := hide hZ0
    clear hZ0
    go_wp2_with fail
    generalize (((w.alloc (.cells h0V.toArray 73)).alloc (.cells h0V.toArray 73)).alloc (.cells (h0V ++ h0V).toArray 75)).drew = w0 at *
    refine (keyBlock_any a n c key 54 w0 (HS.out.below HW0.out) HNM.out (HT.out.below HW0.out HLt.out)).mono ?_
    rintro e w1 ⟨rfl, hB1⟩
    have HK1 := hide (HK0.out.below hB1)
    have HW1 : Hid (Below w.heap.size w w1) := HW0.out.trans (hB1.mono HW0.out.size)
    have HZ1 : Hid (w.heap.size + 1 + 1 + 1 ≤ w1.heap.size) := Nat.le_trans HZ0.out hB1.size
    clear hB1 HK0 HW0 HZ0
    go_wp2_with fail
    refine (keyBlock_any a n c key 92 w1 (HS.out.below HW1.out) HNM.out (HT.out.below HW1.out HLt.out)).mono ?_
    rintro e w2 ⟨rfl, hB2⟩
    have HK2 := hide (HK1.out.below hB2)
    have HW2 : Hid (Below w.heap.size w w2) := HW1.out.trans (hB2.mono HW1.out.size)
    have HZ2 : Hid (w.heap.size + 1 + 1 + 1 ≤ w2.heap.size) := Nat.le_trans HZ1.out hB2.size
    clear hB2 HK1 HW1 HZ1
    obtain ⟨V1, V2, hst1, hst2, hX, hY, hV2, hS2⟩ := two_arrays w2 _ (mask 54 (keyOf key)) (mask 92 (keyOf key)) (by rw [mask_len, keyOf_len]) (by rw [mask_len, keyOf_len]) (two_new w2).1 (two_new w2).2.1 (two_new w2).2.2.1 (two_new w2).2.2.2
    have HX := hide hX
    have HY := hide hY
    have HK3 := hide (HK2.out.below hV2)
    have HW3 : Hid (Below w.heap.size w V2) := HW2.out.trans (hV2.mono HW2.out.size)
    have HS2 := hide hS2
    have hsl := slice_all64
    have HL1 : Hid ((mask 54 (keyOf key)).length = 64) := by unfold Hid; rw [mask_len, keyOf_len]
    have HL2 : Hid ((mask 92 (keyOf key)).length = 64) := by unfold Hid; rw [mask_len, keyOf_len]
    clear hX hY hV2 hS2 HK2
    have ht1 : Calls Tryd.prog 28 #[.pointer (some ⟨w.heap.size + 1 + 1, 0, none⟩), .slice (some ⟨V2.heap.size, 0, none⟩) 1 1] (V2.alloc (.cells #[.slice (some ⟨w2.heap.size, 0, none⟩) 64 64] 22)).drew fun e w' => e = .returned (.tuple #[]) ∧ Hid (Ks w' (w.heap.size + 1 + 1) (mask 54 (keyOf key)) []) ∧ Hid (Blk 71 w' (w2.heap.size + 1) ((mask 92 (keyOf key)).map (Value.int .u8))) ∧ Hid (Below w.heap.size w w') := by
      refine (take_first (w.heap.size + 1 + 1) V2.heap.size [] [] (some ⟨w2.heap.size, 0, none⟩) 64 64 (mask 54 (keyOf key)) (V2.alloc (.cells #[.slice (some ⟨w2.heap.size, 0, none⟩) 64 64] 22)).drew ((HK3.out.alloc _).heap rfl) (by simp) (by have := HZ2.out; have := HS2.out; omega) (SrcG.heap (blk_src (HX.out.alloc _) (mask_dg _ _) HL1.out (by omega)) rfl) (fun b' o' he _ => by simp at he; have := HZ2.out; omega) (HT.out.below ((HW3.out.alloc HW3.out.size _).drew) HLt.out) (by have := HLt.out; omega) (by rw [HL1.out]; simp)).mono ?_
      rintro e w' ⟨he, h1, h2⟩
      have h3 := gTrans (gDrew _ _) h2
      exact ⟨he, h1, (HY.out.alloc _).kept h3 (fun h => by have := Option.some.inj h; have := HZ2.out; omega), (HW3.out.alloc HW3.out.size _).grown h3 (by have := HW3.out.size; simp; omega) (fun k hk => by simp at hk; omega)⟩
    have HT1 := hide ht1
    clear ht1
    go_wp2
    go_region_held3 (fun _ => True) (trivial) ((go_at_call 28; refine HT1.out.mono ?_; rintro e w5 ⟨rfl, HK5, HY5, HW5⟩))
    have HZ5 : Hid (w2.heap.size + 1 < w5.heap.size) := HY5.out.lt
    have ht2 : Calls Tryd.prog 28 #[.pointer (some ⟨w.heap.size + 1 + 1, 74, none⟩), .slice (some ⟨w5.heap.size, 0, none⟩) 1 1] (w5.alloc (.cells #[.slice (some ⟨w2.heap.size + 1, 0, none⟩) 64 64] 22)).drew fun e w' => e = .returned (.tuple #[]) ∧ Hid (Ks w' (w.heap.size + 1 + 1) (mask 54 (keyOf key)) (mask 92 (keyOf key))) ∧ Hid (Below w.heap.size w w') := by
      refine (take_second (w.heap.size + 1 + 1) w5.heap.size (mask 54 (keyOf key)) [] (some ⟨w2.heap.size + 1, 0, none⟩) 64 64 (mask 92 (keyOf key)) (w5.alloc (.cells #[.slice (some ⟨w2.heap.size + 1, 0, none⟩) 64 64] 22)).drew ((HK5.out.alloc _).heap rfl) (by simp) (by have := HZ2.out; have := HZ5.out; omega) (SrcG.heap (blk_src (HY5.out.alloc _) (mask_dg _ _) HL2.out (by omega)) rfl) (fun b' o' he _ => by simp at he; have := HZ2.out; omega) (HT.out.below ((HW5.out.alloc HW5.out.size _).drew) HLt.out) (by have := HLt.out; omega) (by rw [HL2.out]; simp)).mono ?_
      rintro e w' ⟨he, h1, h2⟩
      have h3 := gTrans (gDrew _ _) h2
      exact ⟨he, h1, (HW5.out.alloc HW5.out.size _).grown h3 (by have := HW5.out.size; simp; omega) (fun k hk => by simp at hk; omega)⟩
    have HT2 := hide ht2
    clear ht2 HT1
    go_wp2
    go_region_held3 (fun _ => True) (trivial) ((go_at_call 28; refine HT2.out.mono ?_; rintro e w6 ⟨rfl, HK6, HW6⟩))
    go_wp2
    go_ret
    exact ⟨rfl, HK6.out, HW6.out⟩

end Go.Proofs.YtgajejomibnghaaDoor
