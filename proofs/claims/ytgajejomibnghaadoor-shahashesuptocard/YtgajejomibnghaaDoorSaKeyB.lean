/-
  sha.keyBlock: a key's block, each byte xored.
-/
import Derived.Test.YtgajejomibnghaaDoorSaHash
namespace Go.Proofs.YtgajejomibnghaaDoor
open Go.RowKit Go.IntWalk

attribute [local go_sem ↓] ld_words ld_part ld_sched ld_hash ld_dig ld_arr st_words st_part st_sched st_hash st_dig st_arr ix_words bd_hash bd_keyed bd_dig

theorem slice_all64 (W : World) (b : Nat) : (Instr.sliceAt 71 (.pointer (some ⟨b, 0, none⟩)) none none none).run Tryd.prog W = .ok (.slice (some ⟨b, 0, none⟩) 64 64) W := by
  rw [run_sliceAt_array_all W _ _ Tryd.arrA54, Tryd.sizeA54, Tryd.lenA54]
  simp [slicedAt, Result.andThen, addNone]

theorem slice_all32 (W : World) (b : Nat) : (Instr.sliceAt 26 (.pointer (some ⟨b, 0, none⟩)) none none none).run Tryd.prog W = .ok (.slice (some ⟨b, 0, none⟩) 32 32) W := by
  rw [run_sliceAt_array_all W _ _ Tryd.arrA26, Tryd.sizeA26, Tryd.lenA26]
  simp [slicedAt, Result.andThen, addNone]

theorem bits8_bd (o : BinOp) (a b : Int) : 0 ≤ bits o .u8 a b ∧ bits o .u8 a b < 256 := by
  unfold bits
  split <;> (rw [IntKind.wrap_u8]; omega)

theorem mask_dg (m : Int) (l : List Int) : Dg 256 (mask m l) := by
  intro x hx
  simp only [mask, List.mem_map] at hx
  obtain ⟨y, _, rfl⟩ := hx
  exact bits8_bd _ _ _

/-- The first k bytes of a block xored. -/
def maskK (m : Int) (l : List Int) (k : Nat) : List Int := mask m (l.take k) ++ l.drop k
theorem maskK_next (m : Int) (l : List Int) (k : Nat) (hk : k < l.length) : (maskK m l k).set k (bits .xor .u8 (l.getD k 0) m) = maskK m l (k + 1) := by
  unfold maskK mask
  rw [List.set_append_right _ _ (by simp; omega), List.take_succ_eq_append_getElem hk, List.map_append]
  have e : l.drop k = l[k] :: l.drop (k + 1) := List.drop_eq_getElem_cons hk
  simp [List.getD, hk, Nat.min_eq_left (Nat.le_of_lt hk)]
  rw [e]
  rfl
theorem maskK_at (m : Int) (l : List Int) (k : Nat) (hk : k < l.length) : (maskK m l k)[k]? = some (l.getD k 0) := by
  unfold maskK mask
  rw [List.getElem?_append_right (by simp [Nat.min_eq_left (Nat.le_of_lt hk)])]
  simp [List.getD, hk, Nat.min_eq_left (Nat.le_of_lt hk)]


theorem keyOf_short {key : List Int} (h : key.length ≤ 64) : keyOf key = key ++ List.replicate (64 - key.length) 0 := by
  unfold keyOf
  simp only []
  rw [if_neg (by omega)]
theorem keyOf_long {key : List Int} (h : 64 < key.length) : keyOf key = dig key ++ List.replicate 32 0 := by
  unfold keyOf
  simp only []
  rw [if_pos (by omega), dig_len]

theorem copyB0 (W : World) (ty : TypeId) (d : Option Addr) (a : Option Addr) (c dl dc : Nat) :
    (Builtin.copy_ #[22, 22] ty #[.slice d dl dc, .slice a 0 c]).run Tryd.prog W = .ok (.int .i64 0) W :=
  run_copy_none W 22 22 ty 5 d a dl dc 0 c Tryd.underlying22 (by kernel_rfl) (Nat.zero_min _)

set_option maxRecDepth 100000 in
set_option maxHeartbeats 4000000 in
theorem keyBlock_short (a : Option Addr) (n c : Nat) (key : List Int) (m : Int) (w : World) (hs : SrcG .u8 256 w a n c key) (hn : n ≤ 64) :
    Calls Tryd.prog 34 #[.slice a n c, .int .u8 m] w fun e w' => e = .returned (.agg ((mask m (keyOf key)).map (Value.int .u8)).toArray) ∧ Below w.heap.size w w' := by
  have hl := hs.hlen
  have hnI : (n : Int) ≤ 64 := by omega
  have hsl := slice_all64
  have hke := keyOf_short (key := key) (by omega)
  have HB0 : Blk 71 ((w.alloc (.cells #[.int .u8 0, .int .u8 0, .int .u8 0, .int .u8 0, .int .u8 0, .int .u8 0, .int .u8 0, .int .u8 0, .int .u8 0, .int .u8 0, .int .u8 0, .int .u8 0, .int .u8 0, .int .u8 0, .int .u8 0, .int .u8 0, .int .u8 0, .int .u8 0, .int .u8 0, .int .u8 0, .int .u8 0, .int .u8 0, .int .u8 0, .int .u8 0, .int .u8 0, .int .u8 0, .int .u8 0, .int .u8 0, .int .u8 0, .int .u8 0, .int .u8 0, .int .u8 0, .int .u8 0, .int .u8 0, .int .u8 0, .int .u8 0, .int .u8 0, .int .u8 0, .int .u8 0, .int .u8 0, .int .u8 0, .int .u8 0, .int .u8 0, .int .u8 0, .int .u8 0, .int .u8 0, .int .u8 0, .int .u8 0, .int .u8 0, .int .u8 0, .int .u8 0, .int .u8 0, .int .u8 0, .int .u8 0, .int .u8 0, .int .u8 0, .int .u8 0, .int .u8 0, .int .u8 0, .int .u8 0, .int .u8 0, .int .u8 0, .int .u8 0, .int .u8 0] 71)).alloc (.cells #[.int .u8 0, .int .u8 0, .int .u8 0, .int .u8 0, .int .u8 0, .int .u8 0, .int .u8 0, .int .u8 0, .int .u8 0, .int .u8 0, .int .u8 0, .int .u8 0, .int .u8 0, .int .u8 0, .int .u8 0, .int .u8 0, .int .u8 0, .int .u8 0, .int .u8 0, .int .u8 0, .int .u8 0, .int .u8 0, .int .u8 0, .int .u8 0, .int .u8 0, .int .u8 0, .int .u8 0, .int .u8 0, .int .u8 0, .int .u8 0, .int .u8 0, .int .u8 0, .int .u8 0, .int .u8 0, .int .u8 0, .int .u8 0, .int .u8 0, .int .u8 0, .int .u8 0, .int .u8 0, .int .u8 0, .int .u8 0, .int .u8 0, .int .u8 0, .int .u8 0, .int .u8 0, .int .u8 0, .int .u8 0, .int .u8 0, .int .u8 0, .int .u8 0, .int .u8 0, .int .u8 0, .int .u8 0, .int .u8 0, .int .u8 0, .int .u8 0, .int .u8 0, .int .u8 0, .int .u8 0, .int .u8 0, .int .u8 0, .int .u8 0, .int .u8 0] 71)) (w.heap.size + 1) (List.replicate 64 (Value.int .u8 0)) := Blk.new _ _ _ _ rfl (by simp)
  obtain ⟨W9, hW9, hcp, HB9, HZ9, HW9⟩ : ∃ W9, W9 = W9 ∧ (Builtin.copy_ #[22, 22] 3 #[.slice (some ⟨w.heap.size + 1, 0, none⟩) 64 64, .slice a n c]).run Tryd.prog ((w.alloc (.cells #[.int .u8 0, .int .u8 0, .int .u8 0, .int .u8 0, .int .u8 0, .int .u8 0, .int .u8 0, .int .u8 0, .int .u8 0, .int .u8 0, .int .u8 0, .int .u8 0, .int .u8 0, .int .u8 0, .int .u8 0, .int .u8 0, .int .u8 0, .int .u8 0, .int .u8 0, .int .u8 0, .int .u8 0, .int .u8 0, .int .u8 0, .int .u8 0, .int .u8 0, .int .u8 0, .int .u8 0, .int .u8 0, .int .u8 0, .int .u8 0, .int .u8 0, .int .u8 0, .int .u8 0, .int .u8 0, .int .u8 0, .int .u8 0, .int .u8 0, .int .u8 0, .int .u8 0, .int .u8 0, .int .u8 0, .int .u8 0, .int .u8 0, .int .u8 0, .int .u8 0, .int .u8 0, .int .u8 0, .int .u8 0, .int .u8 0, .int .u8 0, .int .u8 0, .int .u8 0, .int .u8 0, .int .u8 0, .int .u8 0, .int .u8 0, .int .u8 0, .int .u8 0, .int .u8 0, .int .u8 0, .int .u8 0, .int .u8 0, .int .u8 0, .int .u8 0] 71)).alloc (.cells #[.int .u8 0, .int .u8 0, .int .u8 0, .int .u8 0, .int .u8 0, .int .u8 0, .int .u8 0, .int .u8 0, .int .u8 0, .int .u8 0, .int .u8 0, .int .u8 0, .int .u8 0, .int .u8 0, .int .u8 0, .int .u8 0, .int .u8 0, .int .u8 0, .int .u8 0, .int .u8 0, .int .u8 0, .int .u8 0, .int .u8 0, .int .u8 0, .int .u8 0, .int .u8 0, .int .u8 0, .int .u8 0, .int .u8 0, .int .u8 0, .int .u8 0, .int .u8 0, .int .u8 0, .int .u8 0, .int .u8 0, .int .u8 0, .int .u8 0, .int .u8 0, .int .u8 0, .int .u8 0, .int .u8 0, .int .u8 0, .int .u8 0, .int .u8 0, .int .u8 0, .int .u8 0, .int .u8 0, .int .u8 0, .int .u8 0, .int .u8 0, .int .u8 0, .int .u8 0, .int .u8 0, .int .u8 0, .int .u8 0, .int .u8 0, .int .u8 0, .int .u8 0, .int .u8 0, .int .u8 0, .int .u8 0, .int .u8 0, .int .u8 0, .int .u8 0] 71)) = .ok (.int .i64 (n : Int)) W9 ∧ Hid (Blk 71 W9 (w.heap.size + 1) ((maskK m (keyOf key) 0).map (Value.int .u8))) ∧ Hid (Blk 71 W9 w.heap.size (List.replicate 64 (.int .u8 0))) ∧ Hid (Below w.heap.size w W9) := by
    by_cases h0 : n = 0
    · subst h0
      refine ⟨_, rfl, copyB0 _ _ _ _ _ _ _, ?_, ?_, ?_⟩
      · have hk : key = [] := List.eq_nil_of_length_eq_zero hl
        rw [hke, hk]
        exact HB0
      · exact (Blk.new w _ _ _ rfl rfl).alloc _
      · exact ((Below.refl _ _).alloc (Nat.le_refl _) _).alloc (by simp) _
    · have hB := HB0
      have e64 : List.replicate 64 (Value.int .u8 0) = [] ++ List.replicate n (Value.int .u8 0) ++ List.replicate (64 - n) (Value.int .u8 0) := by rw [List.nil_append, List.replicate_append_replicate, show n + (64 - n) = 64 by omega]
      have hB' : Blk 71 ((w.alloc (.cells #[.int .u8 0, .int .u8 0, .int .u8 0, .int .u8 0, .int .u8 0, .int .u8 0, .int .u8 0, .int .u8 0, .int .u8 0, .int .u8 0, .int .u8 0, .int .u8 0, .int .u8 0, .int .u8 0, .int .u8 0, .int .u8 0, .int .u8 0, .int .u8 0, .int .u8 0, .int .u8 0, .int .u8 0, .int .u8 0, .int .u8 0, .int .u8 0, .int .u8 0, .int .u8 0, .int .u8 0, .int .u8 0, .int .u8 0, .int .u8 0, .int .u8 0, .int .u8 0, .int .u8 0, .int .u8 0, .int .u8 0, .int .u8 0, .int .u8 0, .int .u8 0, .int .u8 0, .int .u8 0, .int .u8 0, .int .u8 0, .int .u8 0, .int .u8 0, .int .u8 0, .int .u8 0, .int .u8 0, .int .u8 0, .int .u8 0, .int .u8 0, .int .u8 0, .int .u8 0, .int .u8 0, .int .u8 0, .int .u8 0, .int .u8 0, .int .u8 0, .int .u8 0, .int .u8 0, .int .u8 0, .int .u8 0, .int .u8 0, .int .u8 0, .int .u8 0] 71)).alloc (.cells #[.int .u8 0, .int .u8 0, .int .u8 0, .int .u8 0, .int .u8 0, .int .u8 0, .int .u8 0, .int .u8 0, .int .u8 0, .int .u8 0, .int .u8 0, .int .u8 0, .int .u8 0, .int .u8 0, .int .u8 0, .int .u8 0, .int .u8 0, .int .u8 0, .int .u8 0, .int .u8 0, .int .u8 0, .int .u8 0, .int .u8 0, .int .u8 0, .int .u8 0, .int .u8 0, .int .u8 0, .int .u8 0, .int .u8 0, .int .u8 0, .int .u8 0, .int .u8 0, .int .u8 0, .int .u8 0, .int .u8 0, .int .u8 0, .int .u8 0, .int .u8 0, .int .u8 0, .int .u8 0, .int .u8 0, .int .u8 0, .int .u8 0, .int .u8 0, .int .u8 0, .int .u8 0, .int .u8 0, .int .u8 0, .int .u8 0, .int .u8 0, .int .u8 0, .int .u8 0, .int .u8 0, .int .u8 0, .int .u8 0, .int .u8 0, .int .u8 0, .int .u8 0, .int .u8 0, .int .u8 0, .int .u8 0, .int .u8 0, .int .u8 0, .int .u8 0] 71)) (w.heap.size + 1) ([] ++ List.replicate n (Value.int .u8 0) ++ List.replicate (64 - n) (Value.int .u8 0)) := by rw [← e64]; exact hB
      refine ⟨_, rfl, copyB _ _ (w.heap.size + 1) 0 n 71 [] _ _ a n c 64 64 key hB' rfl ((hs.alloc _).alloc _) (by simp) (Nat.min_eq_left hn) (by omega), ?_, ?_, ?_⟩
      · have := Blk.mid [] _ _ ((key.take n).map (Value.int .u8)) 0 _ hB' rfl (by simp [hl])
        rw [List.take_of_length_le (by omega)] at this ⊢
        rw [hke, maskK]
        simp only [mask, List.take_zero, List.map_nil, List.drop_zero, List.nil_append, List.map_append, List.map_replicate, hl] at this ⊢
        exact this
      · exact ((Blk.new w _ _ _ rfl rfl).alloc _).kept (gSets _ _ _ _).1 (fun h => by have := Option.some.inj h; omega)
      · exact below_sets (((Below.refl _ _).alloc (Nat.le_refl _) _).alloc (by simp) _) (by omega) (by simp; omega) _ _
  clear hs HB0 hW9 hke
  go_enter Tryd.func34, Tryd.ntmps34
  go_wp2
  go_loopw [18] (fun i wr => ∃ k : Nat, k ≤ 64 ∧ i = .int .i64 k ∧ Hid (Blk 71 wr (w.heap.size + 1) ((maskK m (keyOf key) k).map (Value.int .u8))) ∧ Hid (Blk 71 wr w.heap.size (List.replicate 64 (.int .u8 0))) ∧ Hid (Below w.heap.size w wr)) (fun i _ => 64 - (intOf i).toNat)
  case atStart => exact ⟨0, by omega, rfl, HB9, HZ9, HW9⟩
  case round =>
    obtain ⟨k, hk, rfl, HBk, HZ, HW⟩ := hrel
    by_cases hk64 : k < 64
    · have hkl : k < (keyOf key).length := by rw [keyOf_len]; exact hk64
      have hc := HBk.out.cell k
      rw [List.getElem?_map, maskK_at m _ k hkl] at hc
      simp only [Option.map_some] at hc
      have hf := HBk.out.frozen k
      have HN := hide (HBk.out.set k (.int .u8 (bits .xor .u8 ((keyOf key).getD k 0) m)))
      rw [← List.map_set, maskK_next m _ k hkl] at HN
      generalize (keyOf key).getD k 0 = x at *
      have hkI : (k : Int) < 64 := by omega
      go_wp2
      go_roundw
      case rel => exact ⟨k + 1, by omega, by go_num, HN.out, HZ.out.kept (gSet _ _ _ _) (fun h => by have := Option.some.inj h; omega), HW.out.setCell (by show w.heap.size ≤ w.heap.size + 1; omega) _⟩
      case measure => simp [intOf]; omega
    · obtain rfl : k = 64 := by omega
      have hBk := HBk.out
      have e64 : maskK m (keyOf key) 64 = mask m (keyOf key) := by unfold maskK; rw [List.take_of_length_le (by rw [keyOf_len]; omega), List.drop_eq_nil_of_le (by rw [keyOf_len]; omega), List.append_nil]
      rw [e64] at hBk
      have hid : (Tryd.prog.info? 71).map (·.size) = some ((mask m (keyOf key)).map (Value.int .u8)).length := by rw [List.length_map, mask_len, keyOf_len]; kernel_rfl
      have hl8 : (ldA 71 (.pointer (some ⟨w.heap.size + 1, 0, none⟩))).run Tryd.prog wr = .ok (.agg ((mask m (keyOf key)).map (Value.int .u8)).toArray) wr := ldA_all Tryd.underlying71 rfl hid hBk
      have hs8 : (stA 71 (.pointer (some ⟨w.heap.size, 0, none⟩)) (.agg ((mask m (keyOf key)).map (Value.int .u8)).toArray)).run Tryd.prog wr = .ok () (wr.setCells w.heap.size 0 ((mask m (keyOf key)).map (Value.int .u8))) := stA_all hid HZ.out (by simp [mask_len, keyOf_len]) (ints_one _ _)
      have hB2 := Blk.sets ((mask m (keyOf key)).map (Value.int .u8)) 0 _ wr HZ.out (by simp [mask_len, keyOf_len])
      go_wp2
      refine bodyPost_ret (v := .agg ((mask m (keyOf key)).map (Value.int .u8)).toArray) ?_ rfl ⟨rfl, ?_⟩
      · refine results_one (T := 71) (X := (mask m (keyOf key)).map (Value.int .u8)) (p := 4) (ty := 71) (g := w.heap.size) (by kernel_rfl) _ _ rfl Tryd.underlying71 rfl hid ?_
        have e := hB2
        simp [mask_len, keyOf_len] at e
        exact e
      · exact below_sets HW.out (Nat.le_refl _) HW.out.size _ _

set_option maxRecDepth 100000 in
set_option maxHeartbeats 4000000 in
theorem keyBlock_long (a : Option Addr) (n c : Nat) (key : List Int) (m : Int) (w : World) (hs : SrcG .u8 256 w a n c key) (hn : 64 < n) (hnm : n ≤ 140737488355328) (hT : Tabs w) :
    Calls Tryd.prog 34 #[.slice a n c, .int .u8 m] w fun e w' => e = .returned (.agg ((mask m (keyOf key)).map (Value.int .u8)).toArray) ∧ Below w.heap.size w w' := by
  have hl := hs.hlen
  have hnI : (64 : Int) < (n : Int) := by omega
  have hsl := slice_all64
  have hsd := slice_all32
  have hke := keyOf_long (key := key) (by omega)
  have HKE := hide hke
  have HT := hide hT
  have HLt := hide hT.lt
  have HS := hide hs
  have hid : (Tryd.prog.info? 26).map (·.size) = some ((dig key).map (Value.int .u8)).length := by rw [List.length_map, dig_len]; exact info_dig
  have HID := hide hid
  clear hs hT hke hid
  go_enter Tryd.func34, Tryd.ntmps34
  go_wp2_with fail
  refine (sum_any (some ⟨w.heap.size + 1 + 1, 0, none⟩) 1 1 [key] _ ⟨rfl, fun _ => ⟨_, _, rfl, fun i hi => ?_⟩⟩ (HT.out.below ((((Below.refl _ _).alloc (Nat.le_refl _) _).alloc (by simp) _).alloc (by simp; omega) _) HLt.out) (by simp; omega) (by omega)).mono ?_
  · obtain rfl : i = 0 := by omega
    exact ⟨a, n, c, (Blk.new (T := 22) _ [.slice a n c] _ _ rfl (by simp)).cell 0, ((HS.out.alloc _).alloc _).alloc _⟩
  rintro e w1 ⟨rfl, hB1⟩
  have ek : [key].flatten = key := by simp
  rw [ek]
  have HZ1 : Hid (Blk 71 w1 w.heap.size (List.replicate 64 (.int .u8 0))) := Blk.below (((Blk.new w _ _ _ rfl rfl).alloc _).alloc _) hB1
  have HX1 : Hid (Blk 71 w1 (w.heap.size + 1) (List.replicate 64 (.int .u8 0))) := Blk.below ((Blk.new _ _ _ _ rfl (by simp)).alloc _) hB1
  have HW1 : Hid (Below w.heap.size w w1) := ((((Below.refl _ _).alloc (Nat.le_refl _) _).alloc (by simp) _).alloc (by simp; omega) _).trans (hB1.mono (by simp; omega))
  have HS1 : Hid (w.heap.size + 1 + 1 + 1 ≤ w1.heap.size) := by have := hB1.size; simp at this; exact this
  have hst : ∀ c1 : Array Value, c1.size = 32 → (stA 26 (.pointer (some ⟨w1.heap.size, 0, none⟩)) (.agg ((dig key).map (Value.int .u8)).toArray)).run Tryd.prog (w1.alloc (.cells c1 26)) = .ok () (w1.alloc (.cells ((dig key).map (Value.int .u8)).toArray 26)) :=
    fun c1 hc => run_storeAt_new w1 _ c1 _ (by rw [List.size_toArray]; exact HID.out) (by rw [hc, List.size_toArray, List.length_map, dig_len]) (all_oneCell_toArray (ints_one _ _))
  have hsrc : SrcG .u8 256 (w1.alloc (.cells ((dig key).map (Value.int .u8)).toArray 26)) (some ⟨w1.heap.size, 0, none⟩) 32 32 (dig key) := by
    have hr : RowG .u8 256 26 (w1.alloc (.cells ((dig key).map (Value.int .u8)).toArray 26)) w1.heap.size (dig key) := ⟨Blk.new w1 _ _ _ rfl rfl, dig_dg key⟩
    have := hr.srcAll (by rw [dig_len]; decide)
    rw [dig_len] at this
    exact this
  have hB' : Blk 71 (w1.alloc (.cells ((dig key).map (Value.int .u8)).toArray 26)) (w.heap.size + 1) ([] ++ List.replicate 32 (Value.int .u8 0) ++ List.replicate 32 (Value.int .u8 0)) := HX1.out.alloc _
  have hcp := copyB _ 3 (w.heap.size + 1) 0 32 71 [] _ _ _ 32 32 64 64 (dig key) hB' rfl hsrc rfl rfl (by omega)
  have hB9 := Blk.mid [] _ _ (((dig key).take 32).map (Value.int .u8)) 0 _ hB' rfl (by simp [dig_len])
  rw [List.take_of_length_le (by rw [dig_len]; omega)] at hcp hB9
  have HB9 : Hid (Blk 71 ((w1.alloc (.cells ((dig key).map (Value.int .u8)).toArray 26)).setCells (w.heap.size + 1) 0 ((dig key).map (Value.int .u8))) (w.heap.size + 1) ((maskK m (keyOf key) 0).map (Value.int .u8))) := by
    unfold Hid
    rw [HKE.out, maskK]
    simp only [mask, List.take_zero, List.map_nil, List.drop_zero, List.nil_append, List.map_append, List.map_replicate] at hB9 ⊢
    exact hB9
  have HZ9 : Hid (Blk 71 ((w1.alloc (.cells ((dig key).map (Value.int .u8)).toArray 26)).setCells (w.heap.size + 1) 0 ((dig key).map (Value.int .u8))) w.heap.size (List.replicate 64 (.int .u8 0))) := (HZ1.out.alloc _).kept (gSets _ _ _ _).1 (fun h => by have := Option.some.inj h; omega)
  have HW9 : Hid (Below w.heap.size w ((w1.alloc (.cells ((dig key).map (Value.int .u8)).toArray 26)).setCells (w.heap.size + 1) 0 ((dig key).map (Value.int .u8)))) := below_sets (HW1.out.alloc HW1.out.size _) (by omega) (by have := HS1.out; simp; omega) _ _
  clear hB1 hsrc hB' hB9
  go_wp2
  go_loopw [18] (fun i wr => ∃ k : Nat, k ≤ 64 ∧ i = .int .i64 k ∧ Hid (Blk 71 wr (w.heap.size + 1) ((maskK m (keyOf key) k).map (Value.int .u8))) ∧ Hid (Blk 71 wr w.heap.size (List.replicate 64 (.int .u8 0))) ∧ Hid (Below w.heap.size w wr)) (fun i _ => 64 - (intOf i).toNat)
  case atStart => exact ⟨0, by omega, rfl, HB9, HZ9, HW9⟩
  case round =>
    obtain ⟨k, hk, rfl, HBk, HZ, HW⟩ := hrel
    by_cases hk64 : k < 64
    · have hkl : k < (keyOf key).length := by rw [keyOf_len]; exact hk64
      have hc := HBk.out.cell k
      rw [List.getElem?_map, maskK_at m _ k hkl] at hc
      simp only [Option.map_some] at hc
      have hf := HBk.out.frozen k
      have HN := hide (HBk.out.set k (.int .u8 (bits .xor .u8 ((keyOf key).getD k 0) m)))
      rw [← List.map_set, maskK_next m _ k hkl] at HN
      generalize (keyOf key).getD k 0 = x at *
      have hkI : (k : Int) < 64 := by omega
      go_wp2
      go_roundw
      case rel => exact ⟨k + 1, by omega, by go_num, HN.out, HZ.out.kept (gSet _ _ _ _) (fun h => by have := Option.some.inj h; omega), HW.out.setCell (by show w.heap.size ≤ w.heap.size + 1; omega) _⟩
      case measure => simp [intOf]; omega
    · obtain rfl : k = 64 := by omega
      have hBk := HBk.out
      have e64 : maskK m (keyOf key) 64 = mask m (keyOf key) := by unfold maskK; rw [List.take_of_length_le (by rw [keyOf_len]; omega), List.drop_eq_nil_of_le (by rw [keyOf_len]; omega), List.append_nil]
      rw [e64] at hBk
      have hid : (Tryd.prog.info? 71).map (·.size) = some ((mask m (keyOf key)).map (Value.int .u8)).length := by rw [List.length_map, mask_len, keyOf_len]; kernel_rfl
      have hl8 : (ldA 71 (.pointer (some ⟨w.heap.size + 1, 0, none⟩))).run Tryd.prog wr = .ok (.agg ((mask m (keyOf key)).map (Value.int .u8)).toArray) wr := ldA_all Tryd.underlying71 rfl hid hBk
      have hs8 : (stA 71 (.pointer (some ⟨w.heap.size, 0, none⟩)) (.agg ((mask m (keyOf key)).map (Value.int .u8)).toArray)).run Tryd.prog wr = .ok () (wr.setCells w.heap.size 0 ((mask m (keyOf key)).map (Value.int .u8))) := stA_all hid HZ.out (by simp [mask_len, keyOf_len]) (ints_one _ _)
      have hB2 := Blk.sets ((mask m (keyOf key)).map (Value.int .u8)) 0 _ wr HZ.out (by simp [mask_len, keyOf_len])
      go_wp2
      refine bodyPost_ret (v := .agg ((mask m (keyOf key)).map (Value.int .u8)).toArray) ?_ rfl ⟨rfl, ?_⟩
      · refine results_one (T := 71) (X := (mask m (keyOf key)).map (Value.int .u8)) (p := 4) (ty := 71) (g := w.heap.size) (by kernel_rfl) _ _ rfl Tryd.underlying71 rfl hid ?_
        have e := hB2
        simp [mask_len, keyOf_len] at e
        exact e
      · exact below_sets HW.out (Nat.le_refl _) HW.out.size _ _

theorem keyBlock_any (a : Option Addr) (n c : Nat) (key : List Int) (m : Int) (w : World) (hs : SrcG .u8 256 w a n c key) (hnm : n ≤ 140737488355328) (hT : Tabs w) :
    Calls Tryd.prog 34 #[.slice a n c, .int .u8 m] w fun e w' => e = .returned (.agg ((mask m (keyOf key)).map (Value.int .u8)).toArray) ∧ Below w.heap.size w w' := by
  by_cases hn : n ≤ 64
  · exact keyBlock_short a n c key m w hs hn
  · exact keyBlock_long a n c key m w hs (by omega) hnm hT

end Go.Proofs.YtgajejomibnghaaDoor
