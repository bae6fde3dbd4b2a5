/-
  (*sha.Hash).digest: the digest of the text so far.
-/
import Derived.Test.YtgajejomibnghaaDoorSaTake
namespace Go.Proofs.YtgajejomibnghaaDoor
open Go.RowKit Go.IntWalk

attribute [local go_sem ↓] ld_words ld_part ld_sched ld_hash ld_dig ld_arr st_words st_part st_sched st_hash st_dig st_arr ix_words

theorem Hs.lt {T : TypeId} {w : World} {g : Nat} {A C : List Value} {xs : List Int} (h : Hs T w g A C xs) : g < w.heap.size := by obtain ⟨_, h, _⟩ := h; exact h.lt
theorem Hs.below {T : TypeId} {w w' : World} {g : Nat} {A C : List Value} {xs : List Int} (h : Hs T w g A C xs) (hb : Below w.heap.size w w') : Hs T w' g A C xs := by
  obtain ⟨p, h, r⟩ := h
  exact ⟨p, h.below hb, r⟩
theorem Hs.alloc {T : TypeId} {w : World} {g : Nat} {A C : List Value} {xs : List Int} (h : Hs T w g A C xs) (ob : Obj) : Hs T (w.alloc ob) g A C xs := h.below ((Below.refl _ _).alloc (Nat.le_refl _) _)
theorem Hs.heap {T : TypeId} {w w' : World} {g : Nat} {A C : List Value} {xs : List Int} (h : Hs T w g A C xs) (e : w'.heap = w.heap) : Hs T w' g A C xs := by
  obtain ⟨p, h, r⟩ := h
  exact ⟨p, h.heap e, r⟩
theorem Hs.kept {T : TypeId} {w w' : World} {g : Nat} {A C : List Value} {xs : List Int} {row : Option Nat} (h : Hs T w g A C xs) (hg : w.grownBy w' row) (hne : some g ≠ row) : Hs T w' g A C xs := by
  obtain ⟨p, h, r⟩ := h
  exact ⟨p, h.kept hg hne, r⟩

/-- A Hash that no call made. -/
def hZero : List Value := .bool false :: (List.replicate 8 (.int .u32 0) ++ List.replicate 64 (.int .u8 0) ++ [.int .i64 0])
theorem zero_hash : ∀ w : World, (zeroValue 73).run Tryd.prog w = .ok (.agg hZero.toArray) w := (zero_of_info (P := Tryd.prog) (t := 73) (n := 74) (by kernel_rfl)).1
theorem info_hash : (Tryd.prog.info? 73).map (·.size) = some 74 := by kernel_rfl
theorem info_dig : (Tryd.prog.info? 26).map (·.size) = some 32 := by kernel_rfl

theorem hV_one (ws part : List Int) (n : Nat) : ∀ v ∈ hV ws part n, v.oneCell' = true := by
  intro v hv
  simp only [hV, List.mem_cons, List.mem_append, List.not_mem_nil, or_false] at hv
  rcases hv with rfl | (hv | hv) | rfl
  · rfl
  · exact ints_one _ _ v hv
  · exact ints_one _ _ v hv
  · rfl

theorem Tryd.lenA26 : Tryd.prog.arrayLen 26 = 32 := by kernel_rfl
theorem Tryd.elemA26 : Tryd.prog.elem 26 = 5 := by kernel_rfl
theorem Tryd.arrA26 : Tryd.prog.underlying 26 = some (.array (Tryd.prog.arrayLen 26) (Tryd.prog.elem 26)) := by rw [Tryd.lenA26, Tryd.elemA26]; exact Tryd.underlying26
theorem Tryd.sizeA26 (w : World) : (sizeOf (Tryd.prog.elem 26)).run Tryd.prog w = .ok 1 w := by rw [Tryd.elemA26]; kernel_rfl

theorem slice_arr32 (W : World) (b o k : Nat) (i : Int) (hi : i = (k : Int)) (hk : k < 32) : (Instr.sliceAt 26 (.pointer (some ⟨b, o, none⟩)) (some (.int .i64 i)) none none).run Tryd.prog W = .ok (.slice (some ⟨b, o + k, none⟩) (32 - k) (32 - k)) W := by
  subst hi
  rw [run_sliceAt_array_l W _ _ Tryd.arrA26 .i64 (k : Int) (by omega) (by rw [Tryd.lenA26]; omega), Tryd.sizeA26, Tryd.lenA26]
  simp [slicedAt, Result.andThen, addNone]
  omega

/-- The first k words, as bytes, and bytes 0. -/
def outK (ws : List Int) (k : Nat) : List Value := ((ws.take k).flatMap bytes4).map (Value.int .u8) ++ List.replicate (32 - 4 * k) (.int .u8 0)

theorem outK_len (ws : List Int) (hl : ws.length = 8) (k : Nat) (hk : k ≤ 8) : (outK ws k).length = 32 := by
  simp only [outK, List.length_append, List.length_map, flat_len, List.length_take, List.length_replicate, hl]
  omega

theorem outK_next (ws : List Int) (hl : ws.length = 8) (k : Nat) (hk : k < 8) : outK ws (k + 1) = ((ws.take k).flatMap bytes4).map (Value.int .u8) ++ (bytes4 (ws.getD k 0)).map (Value.int .u8) ++ List.replicate (28 - 4 * k) (.int .u8 0) := by
  unfold outK
  rw [List.take_succ_eq_append_getElem (by omega), List.flatMap_append, show 32 - 4 * (k + 1) = 28 - 4 * k by omega]
  simp [List.getD, hl, hk]

theorem outK_split (ws : List Int) (k : Nat) (hk : k < 8) : outK ws k = ((ws.take k).flatMap bytes4).map (Value.int .u8) ++ List.replicate 4 (.int .u8 0) ++ List.replicate (28 - 4 * k) (.int .u8 0) := by
  unfold outK
  rw [List.append_assoc, List.replicate_append_replicate, show 32 - 4 * k = 4 + (28 - 4 * k) by omega]

theorem outK_all (ws : List Int) (hl : ws.length = 8) : outK ws 8 = (ws.flatMap bytes4).map (Value.int .u8) := by
  unfold outK
  rw [List.take_of_length_le (by omega)]
  simp

set_option maxRecDepth 100000 in
set_option maxHeartbeats 4000000 in
theorem digest_any (T : TypeId) (g o : Nat) (A C : List Value) (xs : List Int) (w : World) (hH : Hs T w g A C xs) (ho : A.length = o) (hT : Tabs w) (hb : xs.length ≤ 576460752303423488) :
    Calls Tryd.prog 29 #[.pointer (some ⟨g, o, none⟩)] w fun e w' => e = .returned (.agg ((dig xs).map (Value.int .u8)).toArray) ∧ Below w.heap.size w w' := by
  obtain ⟨part, hBk, hpl, hpd, hpt⟩ := hH
  have HLt := hide hT.lt
  have HT := hide hT
  have hlt := hBk.lt
  have hz := zero_hash
  obtain ⟨N, hN⟩ : ∃ N, xs.length = N := ⟨_, rfl⟩
  have hcnt : w.cell? ⟨g, o + 73, none⟩ = some (.int .i64 (N : Int)) := by
    rw [hV_count] at hBk
    rw [hBk.cell, List.append_assoc, List.getElem?_append_right (by simp [ho, st_len, hpl])]
    simp [ho, st_len, hpl, hN]
  have hhl : (hV (st xs) part xs.length).length = 74 := hV_len _ _ _ (st_len _) hpl
  have hone := hV_one (st xs) part xs.length
  have HS : Hid (∀ W k, Blk 73 W k (hV (st xs) part xs.length) → Hs 73 W k [] [] xs) := fun W k h => ⟨part, by simpa using h, hpl, hpd, hpt⟩
  obtain ⟨L, hL⟩ : ∃ L, hV (st xs) part xs.length = L := ⟨_, rfl⟩
  rw [hL] at hBk hhl hone HS
  have hld : ∀ c : Array Value, (ldA 73 (.pointer (some ⟨g, o, none⟩))).run Tryd.prog (w.alloc (.cells c 26)) = .ok (.agg L.toArray) (w.alloc (.cells c 26)) :=
    fun c => ldA_mid Tryd.underlying73 rfl (by rw [hhl]; exact info_hash) (hBk.alloc _) ho
  have hst : ∀ c : Array Value, (stA 73 (.pointer (some ⟨w.heap.size + 1, 0, none⟩)) (.agg L.toArray)).run Tryd.prog ((w.alloc (.cells c 26)).alloc (.cells hZero.toArray 73)) = .ok () ((w.alloc (.cells c 26)).alloc (.cells L.toArray 73)) := by
    intro c
    have := run_storeAt_new (P := Tryd.prog) (w.alloc (.cells c 26)) 73 hZero.toArray L.toArray (by rw [List.size_toArray, hhl]; exact info_hash) (by rw [List.size_toArray, List.size_toArray, hhl]; rfl) (all_oneCell_toArray hone)
    simpa [stA] using this
  have HN := hide hN
  have HB := hide hb
  clear hBk hL hN hb hhl hone hpl hpd hpt ho
  go_enter Tryd.func29, Tryd.ntmps29
  go_wp2_with fail
  refine (padding_any N _ rfl (by have := HB.out; have := HN.out; omega) _).mono ?_
  rintro e w3 ⟨rfl, hR3, hB3⟩
  have HS3 : Hid (Hs 73 w3 (w.heap.size + 1) [] [] xs) := HS.out _ _ (Blk.below (Blk.new _ L _ _ rfl (by simp)) hB3)
  have HD3 : Hid (Blk 26 w3 w.heap.size (List.replicate 32 (.int .u8 0))) := Blk.below ((Blk.new w _ _ _ rfl rfl).alloc _) hB3
  have HW3 : Hid (Below w.heap.size w w3) := (((Below.refl _ _).alloc (Nat.le_refl _) _).alloc (by simp) _).trans (hB3.mono (by simp; omega))
  have HZ3 : Hid (w.heap.size + 1 + 1 ≤ w3.heap.size) := by have := hB3.size; simp at this; exact this
  have HR3 := hide hR3
  clear hR3 hB3 hld hst hz hcnt
  go_wp2_with fail
  have HSB : ∀ ob : Obj, SrcG .u8 256 (w3.alloc ob) (some ⟨w.heap.size + 1 + 1, 0, none⟩) (9 + zerosN N) (9 + zerosN N) (pad N) := by
    intro ob
    have := (HR3.out.alloc ob).srcAll (by rw [pad_len]; unfold zerosN maxLen; omega)
    rw [pad_len] at this
    simpa using this
  refine (take_any 73 (w.heap.size + 1) 0 [] [] xs (some ⟨w3.heap.size, 0, none⟩) 1 1 [pad N] _ (HS3.out.alloc _) rfl (Pcs.one (a := some ⟨w.heap.size + 1 + 1, 0, none⟩) (n := 9 + zerosN N) (c := 9 + zerosN N) (xs := pad N) (by simp) (by have := HZ3.out; omega) (HSB _) (fun b' o' he _ => by simp at he; omega)) ((HT.out.below HW3.out HLt.out).below ((Below.refl _ _).alloc (Nat.le_refl _) _) (by have := HZ3.out; have := HLt.out; omega)) (by have := HLt.out; omega) (by have := HB.out; simp [pad_len]; unfold zerosN; omega) (by omega)).mono ?_
  rintro e w4 ⟨rfl, hH4, hG4⟩
  have HD4 : Hid (Blk 26 w4 w.heap.size (List.replicate 32 (.int .u8 0))) := (HD3.out.alloc _).kept hG4 (fun h => by have := Option.some.inj h; omega)
  have HW4 : Hid (Below w.heap.size w w4) := (HW3.out.alloc HW3.out.size _).grown hG4 (by have := HZ3.out; simp; omega) (fun k hk => by simp at hk; omega)
  have HZ4 : Hid (w.heap.size + 1 + 1 ≤ w4.heap.size) := by have h1 := hG4.size; have h2 := HZ3.out; simp at h1; unfold Hid; omega
  have e4 : xs ++ [pad N].flatten = xs ++ pad xs.length := by simp [HN.out]
  rw [e4] at hH4
  have HDg : Hid (dig xs = (st (xs ++ pad xs.length)).flatMap bytes4) := rfl
  obtain ⟨part4, hB4, hpl4, hpd4, hpt4⟩ := hH4
  have HX1 := hide (st_len (xs ++ pad xs.length))
  have HX2 := hide (st_dg (xs ++ pad xs.length))
  generalize st (xs ++ pad xs.length) = ws at *
  have hB5 := hB4
  rw [hV_words] at hB5
  have hld : ∀ ob : Obj, (ldA 70 (.pointer (some ⟨w.heap.size + 1, 1, none⟩))).run Tryd.prog (w4.alloc ob) = .ok (.agg (ws.map (Value.int .u32)).toArray) (w4.alloc ob) :=
    fun ob => ldA_mid Tryd.underlying70 rfl (by rw [List.length_map, HX1.out]; kernel_rfl) (hB5.alloc ob) rfl
  clear hG4 hB4 hB5 e4 hpl4 hpd4 hpt4 HSB
  go_wp2
  go_loopw [19] (fun i wr => ∃ k : Nat, k ≤ 8 ∧ i = .int .i64 k ∧ Hid (Blk 26 wr w4.heap.size (outK ws k)) ∧ Hid (Blk 26 wr w.heap.size (List.replicate 32 (.int .u8 0))) ∧ Hid (Below w.heap.size w wr)) (fun i _ => 8 - (intOf i).toNat)
  case atStart => exact ⟨0, by omega, rfl, Blk.new _ _ _ _ rfl rfl, HD4.out.alloc _, HW4.out.alloc HW4.out.size _⟩
  case round =>
    obtain ⟨k, hk, rfl, HBk, HD, HW⟩ := hrel
    by_cases hk8 : k < 8
    · have hix : ∀ W : World, (ixA (.agg (ws.map (Value.int .u32)).toArray) (.int .i64 (k : Int))).run Tryd.prog W = .ok (.int .u32 (ws.getD k 0)) W := fun W => ixA_at ws HX1.out k hk8 _ rfl W
      have hsl : ∀ W : World, (Instr.sliceAt 26 (.pointer (some ⟨w4.heap.size, 0, none⟩)) (some (.int .i64 ((k : Int) * 4))) none none).run Tryd.prog W = .ok (.slice (some ⟨w4.heap.size, 4 * k, none⟩) (32 - 4 * k) (32 - 4 * k)) W := by
        intro W
        have := slice_arr32 W w4.heap.size 0 (4 * k) ((k : Int) * 4) (by omega) (by omega)
        simpa using this
      have hbd := HX2.out.at (by decide : (0 : Int) < 4294967296) k
      have hBk := HBk.out
      rw [outK_split ws k hk8] at hBk
      have hput : Calls Tryd.prog 45 #[.slice (some ⟨w4.heap.size, 4 * k, none⟩) (32 - 4 * k) (32 - 4 * k), .int .u32 (ws.getD k 0)] wr fun e w' => e = .returned (.tuple #[]) ∧ Hid (Blk 26 w' w4.heap.size (outK ws (k + 1))) ∧ Hid (Blk 26 w' w.heap.size (List.replicate 32 (.int .u8 0))) ∧ Hid (Below w.heap.size w w') := by
        refine (put_mid w4.heap.size (4 * k) _ _ _ _ _ (ws.getD k 0) _ wr (by omega) hBk (by rw [List.length_map, flat_len, List.length_take, HX1.out]; omega) rfl hbd).mono ?_
        rintro e w' ⟨he, h1, h2, h3⟩
        refine ⟨he, ?_, HD.out.kept h2 (fun h => by have := Option.some.inj h; have := HZ4.out; omega), HW.out.grown h2 HW.out.size (fun j hj => by simp at hj; have := HZ4.out; omega)⟩
        rw [outK_next ws HX1.out k hk8]
        exact h1
      have HPut := hide hput
      clear hput hBk hbd
      generalize ws.getD k 0 = x at *
      go_wp2_with ((go_at_call 45; refine HPut.out.mono ?_; rintro e w5 ⟨rfl, HBk5, HD5, HW5⟩))
      go_roundw
      case rel => exact ⟨k + 1, by omega, by go_num, HBk5, HD5, HW5⟩
      case measure => simp [intOf]; omega
    · obtain rfl : k = 8 := by omega
      have hBk := HBk.out
      rw [outK_all ws HX1.out, ← HDg.out] at hBk
      have hid : (Tryd.prog.info? 26).map (·.size) = some ((dig xs).map (Value.int .u8)).length := by rw [List.length_map, dig_len]; exact info_dig
      have hl8 : (ldA 26 (.pointer (some ⟨w4.heap.size, 0, none⟩))).run Tryd.prog wr = .ok (.agg ((dig xs).map (Value.int .u8)).toArray) wr := ldA_all Tryd.underlying26 rfl hid hBk
      have hs8 : (stA 26 (.pointer (some ⟨w.heap.size, 0, none⟩)) (.agg ((dig xs).map (Value.int .u8)).toArray)).run Tryd.prog wr = .ok () (wr.setCells w.heap.size 0 ((dig xs).map (Value.int .u8))) := stA_all hid HD.out (by simp [dig_len]) (ints_one _ _)
      have hB2 := Blk.sets ((dig xs).map (Value.int .u8)) 0 _ wr HD.out (by simp [dig_len])
      go_wp2
      refine bodyPost_ret (v := .agg ((dig xs).map (Value.int .u8)).toArray) ?_ rfl ⟨rfl, ?_⟩
      · refine results_one (T := 26) (X := (dig xs).map (Value.int .u8)) (p := 2) (ty := 26) (g := w.heap.size) (by kernel_rfl) _ _ rfl Tryd.underlying26 rfl hid ?_
        have e := hB2
        simp [dig_len] at e
        exact e
      · exact below_sets HW.out (Nat.le_refl _) HW.out.size _ _

end Go.Proofs.YtgajejomibnghaaDoor
