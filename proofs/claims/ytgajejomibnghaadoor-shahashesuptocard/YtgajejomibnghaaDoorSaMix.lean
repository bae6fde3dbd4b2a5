/-
  sha.mixed: what a block makes of the eight words.
-/
import Derived.Test.YtgajejomibnghaaDoorSaSpr
import Derived.Deep.WholeRow
namespace Go.Proofs.YtgajejomibnghaaDoor
open Go.RowKit Go.IntWalk

attribute [local go_sem ↓] ld_words ld_part ld_sched ld_hash ld_dig ld_arr st_words st_part st_sched st_hash st_dig st_arr

/-- A word out of an array of eight. -/
def ixA (v i : Value) : Sem Value := Instr.index 70 v i
theorem ix_words (v i : Value) : Instr.index 70 v i = ixA v i := rfl
attribute [local go_sem ↓] ix_words

theorem ixA_at (l : List Int) (hl : l.length = 8) (k : Nat) (hk : k < 8) (i : Int) (hi : i = (k : Int)) (w : World) : (ixA (.agg (l.map (Value.int .u32)).toArray) (.int .i64 i)).run Tryd.prog w = .ok (.int .u32 (l.getD k 0)) w := by
  subst hi
  have hs : (sizeOf 65).run Tryd.prog w = .ok 1 w := by kernel_rfl
  unfold ixA Instr.index
  simp only [Sem.run_bind, asIntOf, Sem.run_pure, Result.andThen_ok, run_underlying Tryd.underlying70]
  rw [if_pos (by omega)]
  simp [Sem.run_bind, hs, part, List.getD, hl, hk]

/-- The table of the constants, and the first words. -/
structure Tabs (w : World) : Prop where
  k : w.rangeAt 1 0 (kL.map (Value.int .u32))
  h : w.rangeAt 0 0 (hL.map (Value.int .u32))

theorem Tabs.cell {w : World} (h : Tabs w) (t : Nat) (ht : t < 64) : w.cell? ⟨1, t, none⟩ = some (.int .u32 (kL.getD t 0)) := by
  have := h.k t (.int .u32 (kL.getD t 0)) (by rw [List.getElem?_map, List.getElem?_eq_getElem (show t < kL.length from ht)]; simp [List.getD, List.getElem?_eq_getElem (show t < kL.length from ht)])
  simpa using this

theorem Tabs.lt {w : World} (h : Tabs w) : 1 < w.heap.size := ltCell (h.cell 0 (by omega))

theorem Tabs.carry {w w' : World} (h : Tabs w) (hb : ∀ k, k < 2 → w'.heap[k]? = w.heap[k]?) : Tabs w' :=
  ⟨fun j v hv => (World.cell?_of_block (hb 1 (by omega))).trans (h.k j v hv), fun j v hv => (World.cell?_of_block (hb 0 (by omega))).trans (h.h j v hv)⟩
theorem Tabs.below {w w' : World} {B : Nat} (h : Tabs w) (hb : Below B w w') (hB : 2 ≤ B) : Tabs w' := h.carry fun k hk => hb.block k (by omega)
theorem Tabs.heap {w w' : World} (h : Tabs w) (e : w'.heap = w.heap) : Tabs w' := h.carry fun k _ => by rw [e]
theorem Tabs.kept {w w' : World} (h : Tabs w) {g : Nat} (hg : w.grownBy w' (some g)) (h2 : 2 ≤ g) : Tabs w' := h.carry fun k hk => hg.block k (by have := h.lt; omega) (by simp; omega)

theorem kL_bd (t : Nat) : 0 ≤ kL.getD t 0 ∧ kL.getD t 0 < 4294967296 := by
  have : Dg 4294967296 kL := by
    intro x hx
    have h : kL.all (fun x => decide (0 ≤ x ∧ x < 4294967296)) = true := by decide +kernel
    exact of_decide_eq_true (List.all_eq_true.1 h x hx)
  exact this.at (by decide) t

theorem list8 (l : List Int) (h : l.length = 8) : ∃ a b c d e f g k, l = [a, b, c, d, e, f, g, k] := by
  match l, h with
  | [a, b, c, d, e, f, g, k], _ => exact ⟨a, b, c, d, e, f, g, k, rfl⟩


set_option maxRecDepth 100000 in
set_option maxHeartbeats 4000000 in
theorem mixed_any (hs blk : List Int) (w : World) (hl : blk.length = 64) (hd : Dg 256 blk) (hl8 : hs.length = 8) (hd8 : Dg 4294967296 hs) (hT : Tabs w) :
    Calls Tryd.prog 43 #[.agg (hs.map (Value.int .u32)).toArray, .agg (blk.map (Value.int .u8)).toArray] w fun e w' => e = .returned (.agg ((mix hs blk).map (Value.int .u32)).toArray) ∧ Below w.heap.size w w' := by
  obtain ⟨h0, h1, h2, h3, h4, h5, h6, h7, rfl⟩ := list8 hs hl8
  have HD8 := hide (s8_ok hd8)
  have HL := hide hl
  have HD := hide hd
  have HT := hide hT
  have HLt := hide hT.lt
  have hi54 : (Tryd.prog.info? 71).map (·.size) = some (blk.map (Value.int .u8)).length := by rw [List.length_map, hl]; kernel_rfl
  have hi71 : (Tryd.prog.info? 92).map (·.size) = some ((sched blk).map (Value.int .u32)).length := by rw [List.length_map, sched_len]; kernel_rfl
  have HI71 := hide hi71
  clear hl hd hT hd8 hl8
  simp only [List.map_cons, List.map_nil]
  have hld : (ldA 71 (.pointer (some ⟨w.heap.size + 1, 0, none⟩))).run Tryd.prog (((w.alloc (.cells #[.int .u32 h0, .int .u32 h1, .int .u32 h2, .int .u32 h3, .int .u32 h4, .int .u32 h5, .int .u32 h6, .int .u32 h7] 70)).alloc (.cells (blk.map (Value.int .u8)).toArray 71)).alloc (.cells #[.int .u32 0, .int .u32 0, .int .u32 0, .int .u32 0, .int .u32 0, .int .u32 0, .int .u32 0, .int .u32 0] 70)) = .ok (.agg (blk.map (Value.int .u8)).toArray) (((w.alloc (.cells #[.int .u32 h0, .int .u32 h1, .int .u32 h2, .int .u32 h3, .int .u32 h4, .int .u32 h5, .int .u32 h6, .int .u32 h7] 70)).alloc (.cells (blk.map (Value.int .u8)).toArray 71)).alloc (.cells #[.int .u32 0, .int .u32 0, .int .u32 0, .int .u32 0, .int .u32 0, .int .u32 0, .int .u32 0, .int .u32 0] 70)) :=
    ldA_all Tryd.underlying71 rfl hi54 ((Blk.new _ _ _ _ rfl (by simp)).alloc _)
  clear hi54 hi71
  go_enter Tryd.func43, Tryd.ntmps43
  go_wp2_with fail
  refine (spread_any blk _ HL.out HD.out).mono ?_
  rintro e w1 ⟨rfl, hb⟩
  have hst : ∀ c : Array Value, c.size = 64 → (stA 92 (.pointer (some ⟨w1.heap.size, 0, none⟩)) (.agg ((sched blk).map (Value.int .u32)).toArray)).run Tryd.prog (w1.alloc (.cells c 92)) = .ok () (w1.alloc (.cells ((sched blk).map (Value.int .u32)).toArray 92)) :=
    fun c hc => run_storeAt_new w1 _ c _ (by simpa using HI71.out) (by simp [hc, sched_len]) (all_oneCell_toArray (ints_one _ _))
  have HS1 : Hid (w.heap.size + 1 + 1 + 1 ≤ w1.heap.size) := by have := hb.size; simp at this; exact this
  have HBk : Hid (Blk 70 w1 w.heap.size [.int .u32 h0, .int .u32 h1, .int .u32 h2, .int .u32 h3, .int .u32 h4, .int .u32 h5, .int .u32 h6, .int .u32 h7]) := Blk.below (((Blk.new w _ _ _ rfl rfl).alloc _).alloc _) hb
  have HRk : Hid (Blk 70 w1 (w.heap.size + 1 + 1) [.int .u32 0, .int .u32 0, .int .u32 0, .int .u32 0, .int .u32 0, .int .u32 0, .int .u32 0, .int .u32 0]) := Blk.below (Blk.new _ _ _ _ rfl (by simp)) hb
  have HW1 : Hid (Below w.heap.size w w1) := ((((Below.refl _ _).alloc (Nat.le_refl _) _).alloc (by simp) _).alloc (by simp; omega) _).trans (hb.mono (by simp; omega))
  clear hb hld
  have hc0 := (HBk.out.alloc (.cells ((sched blk).map (Value.int .u32)).toArray 92)).cell 0
  have hc1 := (HBk.out.alloc (.cells ((sched blk).map (Value.int .u32)).toArray 92)).cell 1
  have hc2 := (HBk.out.alloc (.cells ((sched blk).map (Value.int .u32)).toArray 92)).cell 2
  have hc3 := (HBk.out.alloc (.cells ((sched blk).map (Value.int .u32)).toArray 92)).cell 3
  have hc4 := (HBk.out.alloc (.cells ((sched blk).map (Value.int .u32)).toArray 92)).cell 4
  have hc5 := (HBk.out.alloc (.cells ((sched blk).map (Value.int .u32)).toArray 92)).cell 5
  have hc6 := (HBk.out.alloc (.cells ((sched blk).map (Value.int .u32)).toArray 92)).cell 6
  have hc7 := (HBk.out.alloc (.cells ((sched blk).map (Value.int .u32)).toArray 92)).cell 7
  simp only [List.getElem?_cons_zero, List.getElem?_cons_succ] at hc0 hc1 hc2 hc3 hc4 hc5 hc6 hc7
  go_wp2
  go_quiet (fail)
  clear hc0 hc1 hc2 hc3 hc4 hc5 hc6 hc7 hst
  go_wp2
  go_loopw [6, 7, 8, 9, 10, 11, 12, 13, 37] (fun a b c d e f g h i wr => ∃ (t : Nat) (A B C D E F G H : Int), t ≤ 64 ∧ i = .int .i64 t ∧ a = .int .u32 A ∧ b = .int .u32 B ∧ c = .int .u32 C ∧ d = .int .u32 D ∧ e = .int .u32 E ∧ f = .int .u32 F ∧ g = .int .u32 G ∧ h = .int .u32 H ∧
      Hid (rnds kL (sched blk) (s8 [h0, h1, h2, h3, h4, h5, h6, h7]) t = ⟨A, B, C, D, E, F, G, H⟩) ∧ Hid (wr.heap = (w1.alloc (.cells ((sched blk).map (Value.int .u32)).toArray 92)).heap) ∧ Hid (Below w.heap.size w wr)) (fun _ _ _ _ _ _ _ _ i _ => 64 - (intOf i).toNat)
  case atStart => exact ⟨0, h0, h1, h2, h3, h4, h5, h6, h7, by omega, rfl, rfl, rfl, rfl, rfl, rfl, rfl, rfl, rfl, rfl, rfl, ((Drew.refl _).more _).below (HW1.out.alloc HW1.out.size _)⟩
  case round =>
    obtain ⟨t, A, B, C, D, E, F, G, H, ht, rfl, rfl, rfl, rfl, rfl, rfl, rfl, rfl, rfl, HR, HH, HW⟩ := hrel
    by_cases ht64 : t < 64
    · have hck : wr.cell? ⟨1, t, none⟩ = some (.int .u32 (kL.getD t 0)) := (HT.out.below HW.out HLt.out).cell t ht64
      have hcw : wr.cell? ⟨w1.heap.size, t, none⟩ = some (.int .u32 ((sched blk).getD t 0)) := by
        have hB : Blk 92 wr w1.heap.size ((sched blk).map (Value.int .u32)) := Blk.heap (Blk.new w1 _ _ _ rfl rfl) HH.out
        rw [hB.cell]
        simp [List.getD, sched_len, ht64]
      have HK := hide (kL_bd t)
      have HSd := hide ((sched_dg HD.out).at (by decide : (0 : Int) < 4294967296) t)
      have HN : Hid (rnds kL (sched blk) (s8 [h0, h1, h2, h3, h4, h5, h6, h7]) (t + 1) = rnd (kL.getD t 0) ((sched blk).getD t 0) ⟨A, B, C, D, E, F, G, H⟩) := by unfold Hid; rw [rnds, HR.out]
      have HO : Hid (S8.Ok ⟨A, B, C, D, E, F, G, H⟩) := by rw [← HR.out]; exact rnds_ok HD8.out _ _ _
      generalize kL.getD t 0 = k at *
      generalize (sched blk).getD t 0 = x at *
      have bk := HK.out
      have bx := HSd.out
      have bA := HO.out.a
      have bB := HO.out.b
      have bC := HO.out.c
      have bD := HO.out.d
      have bE := HO.out.e
      have bF := HO.out.f
      have bG := HO.out.g
      have bH := HO.out.h
      simp only [] at bA bB bC bD bE bF bG bH
      go_wp2
      go_quiet ((go_at_call 51; (first | exact Calls.quiet_of_same (right_any _ _ 6 (by rfl) (by decide) (by decide) _) | exact Calls.quiet_of_same (right_any _ _ 11 (by rfl) (by decide) (by decide) _) | exact Calls.quiet_of_same (right_any _ _ 25 (by rfl) (by decide) (by decide) _))))
      go_wp2_with ((go_at_call 51; (first | refine (right_any _ _ 2 (by rfl) (by decide) (by decide) _).mono ?_ | refine (right_any _ _ 13 (by rfl) (by decide) (by decide) _).mono ?_ | refine (right_any _ _ 22 (by rfl) (by decide) (by decide) _).mono ?_); rintro e w2 ⟨rfl, hw⟩; have hw2 := hw.symm; subst hw2))
      go_roundw
      case rel =>
        have e := HN.out
        refine ⟨t + 1, _, _, _, _, _, _, _, _, by omega, by go_num, rfl, rfl, rfl, rfl, rfl, rfl, rfl, rfl, ?_, HH.out, ((Drew.refl _).more _).below HW.out⟩
        unfold Hid
        rw [e]
        unfold rnd pOf qOf
        simp only []
        congr 1 <;> omega
      case measure => simp [intOf]; omega
    · obtain rfl : t = 64 := by omega
      have HBw : Hid (Blk 70 wr w.heap.size [.int .u32 h0, .int .u32 h1, .int .u32 h2, .int .u32 h3, .int .u32 h4, .int .u32 h5, .int .u32 h6, .int .u32 h7]) := Blk.heap (HBk.out.alloc _) HH.out
      have HO : Hid (S8.Ok ⟨A, B, C, D, E, F, G, H⟩) := by rw [← HR.out]; exact rnds_ok HD8.out _ _ _
      have HM : Hid (mix [h0, h1, h2, h3, h4, h5, h6, h7] blk = [(h0 + A) % 4294967296, (h1 + B) % 4294967296, (h2 + C) % 4294967296, (h3 + D) % 4294967296, (h4 + E) % 4294967296, (h5 + F) % 4294967296, (h6 + G) % 4294967296, (h7 + H) % 4294967296]) := by unfold Hid mix; rw [HR.out]; rfl
      clear HR
      go_wp2
      go_loopw [109] (fun i wr => ∃ (k : Nat), k ≤ 8 ∧ i = .int .i64 k ∧ Hid (Blk 70 wr w.heap.size (([(h0 + A) % 4294967296, (h1 + B) % 4294967296, (h2 + C) % 4294967296, (h3 + D) % 4294967296, (h4 + E) % 4294967296, (h5 + F) % 4294967296, (h6 + G) % 4294967296, (h7 + H) % 4294967296].take k ++ [h0, h1, h2, h3, h4, h5, h6, h7].drop k).map (Value.int .u32))) ∧ Hid (Blk 70 wr (w.heap.size + 1 + 1) [.int .u32 0, .int .u32 0, .int .u32 0, .int .u32 0, .int .u32 0, .int .u32 0, .int .u32 0, .int .u32 0]) ∧ Hid (Below w.heap.size w wr)) (fun i _ => 8 - (intOf i).toNat)
      case atStart => exact ⟨0, by omega, rfl, HBw, Blk.heap (HRk.out.alloc _) HH.out, HW⟩
      case round =>
        obtain ⟨k, hk, rfl, HB, HZ, HV⟩ := hrel
        by_cases hk8 : k < 8
        · rcases (show k = 0 ∨ k = 1 ∨ k = 2 ∨ k = 3 ∨ k = 4 ∨ k = 5 ∨ k = 6 ∨ k = 7 by omega) with rfl | rfl | rfl | rfl | rfl | rfl | rfl | rfl
          · have hc := HB.out.cell 0
            simp at hc
            have hf := HB.out.frozen 0
            have b1 := HD8.out.a
            have b2 := HO.out.a
            simp only [s8, List.getD_cons_zero, List.getD_cons_succ] at b1 b2
            have HN := hide (HB.out.set 0 (.int .u32 ((h0 + A) % 4294967296)))
            have hcast : ((0 : Nat) : Int) = 0 := rfl
            rw [hcast]
            have hix : ∀ W : World, (ixA (.agg #[.int .u32 A, .int .u32 B, .int .u32 C, .int .u32 D, .int .u32 E, .int .u32 F, .int .u32 G, .int .u32 H]) (.int .i64 0)).run Tryd.prog W = .ok (.int .u32 A) W := fun W => ixA_at [A, B, C, D, E, F, G, H] rfl 0 (by decide) _ rfl W
            go_wp2
            go_roundw
            case rel => exact ⟨0 + 1, by omega, by go_num, HN.out, HZ.out.kept (gSet _ _ _ _) (fun h => by have := Option.some.inj h; omega), HV.out.setCell (by show w.heap.size ≤ w.heap.size; omega) _⟩
            case measure => simp [intOf]
          · have hc := HB.out.cell 1
            simp at hc
            have hf := HB.out.frozen 1
            have b1 := HD8.out.b
            have b2 := HO.out.b
            simp only [s8, List.getD_cons_zero, List.getD_cons_succ] at b1 b2
            have HN := hide (HB.out.set 1 (.int .u32 ((h1 + B) % 4294967296)))
            have hcast : ((1 : Nat) : Int) = 1 := rfl
            rw [hcast]
            have hix : ∀ W : World, (ixA (.agg #[.int .u32 A, .int .u32 B, .int .u32 C, .int .u32 D, .int .u32 E, .int .u32 F, .int .u32 G, .int .u32 H]) (.int .i64 1)).run Tryd.prog W = .ok (.int .u32 B) W := fun W => ixA_at [A, B, C, D, E, F, G, H] rfl 1 (by decide) _ rfl W
            go_wp2
            go_roundw
            case rel => exact ⟨1 + 1, by omega, by go_num, HN.out, HZ.out.kept (gSet _ _ _ _) (fun h => by have := Option.some.inj h; omega), HV.out.setCell (by show w.heap.size ≤ w.heap.size; omega) _⟩
            case measure => simp [intOf]
          · have hc := HB.out.cell 2
            simp at hc
            have hf := HB.out.frozen 2
            have b1 := HD8.out.c
            have b2 := HO.out.c
            simp only [s8, List.getD_cons_zero, List.getD_cons_succ] at b1 b2
            have HN := hide (HB.out.set 2 (.int .u32 ((h2 + C) % 4294967296)))
            have hcast : ((2 : Nat) : Int) = 2 := rfl
            rw [hcast]
            have hix : ∀ W : World, (ixA (.agg #[.int .u32 A, .int .u32 B, .int .u32 C, .int .u32 D, .int .u32 E, .int .u32 F, .int .u32 G, .int .u32 H]) (.int .i64 2)).run Tryd.prog W = .ok (.int .u32 C) W := fun W => ixA_at [A, B, C, D, E, F, G, H] rfl 2 (by decide) _ rfl W
            go_wp2
            go_roundw
            case rel => exact ⟨2 + 1, by omega, by go_num, HN.out, HZ.out.kept (gSet _ _ _ _) (fun h => by have := Option.some.inj h; omega), HV.out.setCell (by show w.heap.size ≤ w.heap.size; omega) _⟩
            case measure => simp [intOf]
          · have hc := HB.out.cell 3
            simp at hc
            have hf := HB.out.frozen 3
            have b1 := HD8.out.d
            have b2 := HO.out.d
            simp only [s8, List.getD_cons_zero, List.getD_cons_succ] at b1 b2
            have HN := hide (HB.out.set 3 (.int .u32 ((h3 + D) % 4294967296)))
            have hcast : ((3 : Nat) : Int) = 3 := rfl
            rw [hcast]
            have hix : ∀ W : World, (ixA (.agg #[.int .u32 A, .int .u32 B, .int .u32 C, .int .u32 D, .int .u32 E, .int .u32 F, .int .u32 G, .int .u32 H]) (.int .i64 3)).run Tryd.prog W = .ok (.int .u32 D) W := fun W => ixA_at [A, B, C, D, E, F, G, H] rfl 3 (by decide) _ rfl W
            go_wp2
            go_roundw
            case rel => exact ⟨3 + 1, by omega, by go_num, HN.out, HZ.out.kept (gSet _ _ _ _) (fun h => by have := Option.some.inj h; omega), HV.out.setCell (by show w.heap.size ≤ w.heap.size; omega) _⟩
            case measure => simp [intOf]
          · have hc := HB.out.cell 4
            simp at hc
            have hf := HB.out.frozen 4
            have b1 := HD8.out.e
            have b2 := HO.out.e
            simp only [s8, List.getD_cons_zero, List.getD_cons_succ] at b1 b2
            have HN := hide (HB.out.set 4 (.int .u32 ((h4 + E) % 4294967296)))
            have hcast : ((4 : Nat) : Int) = 4 := rfl
            rw [hcast]
            have hix : ∀ W : World, (ixA (.agg #[.int .u32 A, .int .u32 B, .int .u32 C, .int .u32 D, .int .u32 E, .int .u32 F, .int .u32 G, .int .u32 H]) (.int .i64 4)).run Tryd.prog W = .ok (.int .u32 E) W := fun W => ixA_at [A, B, C, D, E, F, G, H] rfl 4 (by decide) _ rfl W
            go_wp2
            go_roundw
            case rel => exact ⟨4 + 1, by omega, by go_num, HN.out, HZ.out.kept (gSet _ _ _ _) (fun h => by have := Option.some.inj h; omega), HV.out.setCell (by show w.heap.size ≤ w.heap.size; omega) _⟩
            case measure => simp [intOf]
          · have hc := HB.out.cell 5
            simp at hc
            have hf := HB.out.frozen 5
            have b1 := HD8.out.f
            have b2 := HO.out.f
            simp only [s8, List.getD_cons_zero, List.getD_cons_succ] at b1 b2
            have HN := hide (HB.out.set 5 (.int .u32 ((h5 + F) % 4294967296)))
            have hcast : ((5 : Nat) : Int) = 5 := rfl
            rw [hcast]
            have hix : ∀ W : World, (ixA (.agg #[.int .u32 A, .int .u32 B, .int .u32 C, .int .u32 D, .int .u32 E, .int .u32 F, .int .u32 G, .int .u32 H]) (.int .i64 5)).run Tryd.prog W = .ok (.int .u32 F) W := fun W => ixA_at [A, B, C, D, E, F, G, H] rfl 5 (by decide) _ rfl W
            go_wp2
            go_roundw
            case rel => exact ⟨5 + 1, by omega, by go_num, HN.out, HZ.out.kept (gSet _ _ _ _) (fun h => by have := Option.some.inj h; omega), HV.out.setCell (by show w.heap.size ≤ w.heap.size; omega) _⟩
            case measure => simp [intOf]
          · have hc := HB.out.cell 6
            simp at hc
            have hf := HB.out.frozen 6
            have b1 := HD8.out.g
            have b2 := HO.out.g
            simp only [s8, List.getD_cons_zero, List.getD_cons_succ] at b1 b2
            have HN := hide (HB.out.set 6 (.int .u32 ((h6 + G) % 4294967296)))
            have hcast : ((6 : Nat) : Int) = 6 := rfl
            rw [hcast]
            have hix : ∀ W : World, (ixA (.agg #[.int .u32 A, .int .u32 B, .int .u32 C, .int .u32 D, .int .u32 E, .int .u32 F, .int .u32 G, .int .u32 H]) (.int .i64 6)).run Tryd.prog W = .ok (.int .u32 G) W := fun W => ixA_at [A, B, C, D, E, F, G, H] rfl 6 (by decide) _ rfl W
            go_wp2
            go_roundw
            case rel => exact ⟨6 + 1, by omega, by go_num, HN.out, HZ.out.kept (gSet _ _ _ _) (fun h => by have := Option.some.inj h; omega), HV.out.setCell (by show w.heap.size ≤ w.heap.size; omega) _⟩
            case measure => simp [intOf]
          · have hc := HB.out.cell 7
            simp at hc
            have hf := HB.out.frozen 7
            have b1 := HD8.out.h
            have b2 := HO.out.h
            simp only [s8, List.getD_cons_zero, List.getD_cons_succ] at b1 b2
            have HN := hide (HB.out.set 7 (.int .u32 ((h7 + H) % 4294967296)))
            have hcast : ((7 : Nat) : Int) = 7 := rfl
            rw [hcast]
            have hix : ∀ W : World, (ixA (.agg #[.int .u32 A, .int .u32 B, .int .u32 C, .int .u32 D, .int .u32 E, .int .u32 F, .int .u32 G, .int .u32 H]) (.int .i64 7)).run Tryd.prog W = .ok (.int .u32 H) W := fun W => ixA_at [A, B, C, D, E, F, G, H] rfl 7 (by decide) _ rfl W
            go_wp2
            go_roundw
            case rel => exact ⟨7 + 1, by omega, by go_num, HN.out, HZ.out.kept (gSet _ _ _ _) (fun h => by have := Option.some.inj h; omega), HV.out.setCell (by show w.heap.size ≤ w.heap.size; omega) _⟩
            case measure => simp [intOf]
        · obtain rfl : k = 8 := by omega
          have HB8 := HB.out
          have hld : (ldA 70 (.pointer (some ⟨w.heap.size, 0, none⟩))).run Tryd.prog wr = .ok (.agg ((mix [h0, h1, h2, h3, h4, h5, h6, h7] blk).map (Value.int .u32)).toArray) wr := ldA_all Tryd.underlying70 rfl (by kernel_rfl) (by rw [HM.out]; exact HB8)
          have hst : (stA 70 (.pointer (some ⟨w.heap.size + 1 + 1, 0, none⟩)) (.agg ((mix [h0, h1, h2, h3, h4, h5, h6, h7] blk).map (Value.int .u32)).toArray)).run Tryd.prog wr = .ok () (wr.setCells (w.heap.size + 1 + 1) 0 ((mix [h0, h1, h2, h3, h4, h5, h6, h7] blk).map (Value.int .u32))) := stA_all (by kernel_rfl) HZ.out rfl (ints_one _ _)
          have hB2 := Blk.sets ((mix [h0, h1, h2, h3, h4, h5, h6, h7] blk).map (Value.int .u32)) 0 _ wr HZ.out (by simp [mix_len])
          go_wp2
          refine bodyPost_ret (v := .agg ((mix [h0, h1, h2, h3, h4, h5, h6, h7] blk).map (Value.int .u32)).toArray) ?_ rfl ⟨rfl, ?_⟩
          · refine results_one (T := 70) (X := (mix [h0, h1, h2, h3, h4, h5, h6, h7] blk).map (Value.int .u32)) (p := 4) (ty := 70) (g := w.heap.size + 1 + 1) (by kernel_rfl) _ _ rfl Tryd.underlying70 rfl (by kernel_rfl) ?_
            have e := hB2
            simp [mix_len] at e
            exact e
          · exact below_sets HV.out (by omega) HV.out.size _ _

end Go.Proofs.YtgajejomibnghaaDoor
