/-
  sha.New and a Hash's methods, sha.Sum.
-/
import Derived.Test.YtgajejomibnghaaDoorSaDig
namespace Go.Proofs.YtgajejomibnghaaDoor
open Go.RowKit Go.IntWalk

attribute [local go_sem ↓] ld_words ld_part ld_sched ld_hash ld_dig ld_arr st_words st_part st_sched st_hash st_dig st_arr ix_words

/-- Structs and arrays built, kept whole in the walk. -/
def bdA (t : TypeId) (ps : Array (Nat × Value)) : Sem Value := Instr.build t ps
theorem bd_hash (ps : Array (Nat × Value)) : Instr.build 73 ps = bdA 73 ps := rfl
theorem bd_keyed (ps : Array (Nat × Value)) : Instr.build 75 ps = bdA 75 ps := rfl
theorem bd_dig (ps : Array (Nat × Value)) : Instr.build 26 ps = bdA 26 ps := rfl
attribute [local go_sem ↓] bd_hash bd_keyed bd_dig

/-- A new Hash. -/
def h0V : List Value := hV hL (List.replicate 64 0) 0
theorem hs_new {T : TypeId} {w : World} {g : Nat} {A C : List Value} (h : Blk T w g (A ++ h0V ++ C)) : Hs T w g A C [] := by
  refine ⟨List.replicate 64 0, h, by simp, ?_, rfl⟩
  intro x hx
  simp at hx
  omega

/-- Pieces of bytes. -/
structure Pcs0 (w : World) (po : Option Addr) (pn : Nat) (ls : List (List Int)) : Prop where
  len : ls.length = pn
  row : 0 < pn → ∃ b off, po = some ⟨b, off, none⟩ ∧ ∀ i, i < pn → ∃ a n c, w.cell? ⟨b, off + i, none⟩ = some (.slice a n c) ∧ SrcG .u8 256 w a n c (ls.getD i [])

theorem Pcs0.at {w : World} {pn : Nat} {po : Option Addr} {ls : List (List Int)} (h : Pcs0 w po pn ls) {g : Nat} (hg : w.heap.size ≤ g) : Pcs w g po pn ls := by
  refine ⟨h.len, fun hp => ?_⟩
  obtain ⟨b, off, he, hr⟩ := h.row hp
  refine ⟨b, off, he, ?_, fun i hi => ?_⟩
  · obtain ⟨a, n, c, h1, _⟩ := hr 0 hp
    have := ltCell h1
    simp at this
    omega
  · obtain ⟨a, n, c, h1, h2⟩ := hr i hi
    refine ⟨a, n, c, h1, h2, fun b' o' ha hx => ?_⟩
    have := h2.blk b' o' ha hx
    omega

theorem Pcs.below {w w' : World} {g pn : Nat} {po : Option Addr} {ls : List (List Int)} (h : Pcs w g po pn ls) (hb : Below w.heap.size w w') : Pcs w' g po pn ls := h.kept (gOfBelow hb)

theorem Pcs0.below {w w' : World} {pn : Nat} {po : Option Addr} {ls : List (List Int)} (h : Pcs0 w po pn ls) (hb : Below w.heap.size w w') : Pcs0 w' po pn ls := by
  refine ⟨h.len, fun hp => ?_⟩
  obtain ⟨b, off, he, hr⟩ := h.row hp
  refine ⟨b, off, he, fun i hi => ?_⟩
  obtain ⟨a, n, c, h1, h2⟩ := hr i hi
  have := ltCell h1
  exact ⟨a, n, c, (hb.cell this).trans h1, h2.below hb⟩

set_option maxRecDepth 100000 in
set_option maxHeartbeats 2000000 in
theorem new_any (w : World) (hT : Tabs w) :
    Calls Tryd.prog 14 #[] w fun e w' => e = .returned (.pointer (some ⟨w.heap.size, 0, none⟩)) ∧ Hs 73 w' w.heap.size [] [] [] ∧ Below w.heap.size w w' := by
  have hld : (ldA 70 (.pointer (some ⟨0, 0, none⟩))).run Tryd.prog w = .ok (.agg (hL.map (Value.int .u32)).toArray) w :=
    run_loadAt_mid w 0 0 70 (hL.map (Value.int .u32)) _ hT.h Tryd.underlying70 rfl (by kernel_rfl)
  have hbd : (bdA 73 #[(0, .bool true), (1, .agg (hL.map (Value.int .u32)).toArray)]).run Tryd.prog w = .ok (.agg h0V.toArray) w := by kernel_rfl
  clear hT
  go_enter Tryd.func14, Tryd.ntmps14
  go_wp2
  go_ret
  exact ⟨rfl, hs_new (Blk.new w _ _ _ (by simp) rfl), (Below.refl _ _).alloc (Nat.le_refl _) _⟩

theorem made_yes (T : TypeId) (g o : Nat) (A C : List Value) (xs : List Int) (w : World) (hH : Hs T w g A C xs) (ho : A.length = o) :
    Calls Tryd.prog 33 #[.pointer (some ⟨g, o, none⟩)] w fun e w' => e = .returned (.bool true) ∧ w' = w := by
  have hc : w.cell? ⟨g, o, none⟩ = some (.bool true) := by
    obtain ⟨part, hBk, _⟩ := hH
    rw [hBk.cell, ← ho, List.append_assoc, List.getElem?_append_right (Nat.le_refl _)]
    simp [hV]
  clear hH
  go_enter Tryd.func33, Tryd.ntmps33
  go_wp2
  go_ret
  exact ⟨rfl, rfl⟩

set_option maxRecDepth 100000 in
set_option maxHeartbeats 2000000 in
theorem write_yes (T : TypeId) (g o : Nat) (A C : List Value) (xs : List Int) (po : Option Addr) (pn pc : Nat) (ls : List (List Int)) (w : World) (hH : Hs T w g A C xs) (ho : A.length = o) (hP : Pcs w g po pn ls) (hT : Tabs w) (h2 : 2 ≤ g) (hb : xs.length + ls.flatten.length ≤ 1152921504606846976) (hpn : pn ≤ 140737488355328) :
    Calls Tryd.prog 16 #[.pointer (some ⟨g, o, none⟩), .slice po pn pc] w fun e w' => e = .returned (.int .i64 0) ∧ Hs T w' g A C (xs ++ ls.flatten) ∧ w.grownBy w' (some g) := by
  have h := take_any T g o A C xs po pn pc ls w hH ho hP hT h2 hb hpn
  have hm := made_yes T g o A C xs w hH ho
  have H := hide h
  have HM := hide hm
  clear h hm hb hpn hP hT
  go_enter Tryd.func16, Tryd.ntmps16
  go_wp2_with fail
  refine HM.out.mono ?_
  rintro e w1 ⟨rfl, hw⟩
  subst hw
  go_wp2_with fail
  refine H.out.mono ?_
  rintro e w2 ⟨rfl, h1, h2⟩
  go_wp2
  go_ret
  exact ⟨rfl, h1, h2⟩

set_option maxRecDepth 100000 in
set_option maxHeartbeats 2000000 in
theorem len_yes (T : TypeId) (g o : Nat) (A C : List Value) (xs : List Int) (w : World) (hH : Hs T w g A C xs) (ho : A.length = o) :
    Calls Tryd.prog 18 #[.pointer (some ⟨g, o, none⟩)] w fun e w' => e = .returned (.int .i64 (xs.length : Int)) ∧ w' = w := by
  have HM := hide (made_yes T g o A C xs w hH ho)
  have hcnt : w.cell? ⟨g, o + 73, none⟩ = some (.int .i64 (xs.length : Int)) := by
    obtain ⟨part, hBk, hpl, _⟩ := hH
    rw [hV_count] at hBk
    rw [hBk.cell, List.append_assoc, List.getElem?_append_right (by simp [ho, st_len, hpl])]
    simp [ho, st_len, hpl]
  clear hH
  go_enter Tryd.func18, Tryd.ntmps18
  go_wp2_with fail
  refine HM.out.mono ?_
  rintro e w1 ⟨rfl, hw⟩
  subst hw
  go_wp2
  go_ret
  exact ⟨rfl, rfl⟩

set_option maxRecDepth 100000 in
set_option maxHeartbeats 2000000 in
theorem copy_yes (T : TypeId) (g o : Nat) (A C : List Value) (xs : List Int) (w : World) (hH : Hs T w g A C xs) (ho : A.length = o) :
    Calls Tryd.prog 15 #[.pointer (some ⟨g, o, none⟩)] w fun e w' => e = .returned (.pointer (some ⟨w.heap.size, 0, none⟩)) ∧ Hs 73 w' w.heap.size [] [] xs ∧ Below w.heap.size w w' := by
  have HM := hide (made_yes T g o A C xs w hH ho)
  obtain ⟨part, hBk, hpl, hpd, hpt⟩ := hH
  have hz := zero_hash
  have hhl : (hV (st xs) part xs.length).length = 74 := hV_len _ _ _ (st_len _) hpl
  have hone := hV_one (st xs) part xs.length
  have HS : Hid (∀ W k, Blk 73 W k (hV (st xs) part xs.length) → Hs 73 W k [] [] xs) := fun W k h => ⟨part, by simpa using h, hpl, hpd, hpt⟩
  obtain ⟨L, hL⟩ : ∃ L, hV (st xs) part xs.length = L := ⟨_, rfl⟩
  rw [hL] at hBk hhl hone HS
  have hld : (ldA 73 (.pointer (some ⟨g, o, none⟩))).run Tryd.prog w = .ok (.agg L.toArray) w := ldA_mid Tryd.underlying73 rfl (by rw [hhl]; exact info_hash) hBk ho
  have hst : (stA 73 (.pointer (some ⟨w.heap.size, 0, none⟩)) (.agg L.toArray)).run Tryd.prog (w.alloc (.cells hZero.toArray 73)) = .ok () (w.alloc (.cells L.toArray 73)) :=
    run_storeAt_new (P := Tryd.prog) w 73 hZero.toArray L.toArray (by rw [List.size_toArray, hhl]; exact info_hash) (by rw [List.size_toArray, List.size_toArray, hhl]; rfl) (all_oneCell_toArray hone)
  clear hBk hL hhl hone hpl hpd hpt ho
  go_enter Tryd.func15, Tryd.ntmps15
  go_wp2_with fail
  refine HM.out.mono ?_
  rintro e w1 ⟨rfl, hw⟩
  subst hw
  go_wp2
  go_ret
  exact ⟨rfl, HS.out _ _ (Blk.new _ L _ _ rfl rfl), (Below.refl _ _).alloc (Nat.le_refl _) _⟩


set_option maxRecDepth 100000 in
set_option maxHeartbeats 2000000 in
theorem hsum_yes (T : TypeId) (g o : Nat) (A C : List Value) (xs : List Int) (w : World) (hH : Hs T w g A C xs) (ho : A.length = o) (hT : Tabs w) (hb : xs.length ≤ 576460752303423488) :
    Calls Tryd.prog 17 #[.pointer (some ⟨g, o, none⟩)] w fun e w' => e = .returned (.agg ((dig xs).map (Value.int .u8)).toArray) ∧ Below w.heap.size w w' := by
  have HH := hide hH
  have HT := hide hT
  have HLt := hide hT.lt
  clear hH hT
  go_enter Tryd.func17, Tryd.ntmps17
  go_wp2_with fail
  refine (made_yes T g o A C xs _ (HH.out.alloc _) ho).mono ?_
  rintro e w1 ⟨rfl, hw⟩
  subst hw
  go_wp2_with fail
  refine (digest_any T g o A C xs _ (HH.out.alloc _) ho (HT.out.below ((Below.refl _ _).alloc (Nat.le_refl _) _) HLt.out) hb).mono ?_
  rintro e w2 ⟨rfl, hB2⟩
  have HD2 : Hid (Blk 26 w2 w.heap.size (List.replicate 32 (.int .u8 0))) := Blk.below (Blk.new w _ _ _ rfl rfl) hB2
  have HW2 : Hid (Below w.heap.size w w2) := ((Below.refl _ _).alloc (Nat.le_refl _) _).trans (hB2.mono (by simp))
  clear hB2
  have hid : (Tryd.prog.info? 26).map (·.size) = some ((dig xs).map (Value.int .u8)).length := by rw [List.length_map, dig_len]; exact info_dig
  have hs8 : (stA 26 (.pointer (some ⟨w.heap.size, 0, none⟩)) (.agg ((dig xs).map (Value.int .u8)).toArray)).run Tryd.prog w2 = .ok () (w2.setCells w.heap.size 0 ((dig xs).map (Value.int .u8))) := stA_all hid HD2.out (by simp [dig_len]) (ints_one _ _)
  have hB2 := Blk.sets ((dig xs).map (Value.int .u8)) 0 _ w2 HD2.out (by simp [dig_len])
  go_wp2
  refine bodyPost_ret (v := .agg ((dig xs).map (Value.int .u8)).toArray) ?_ rfl ⟨rfl, ?_⟩
  · refine results_one (T := 26) (X := (dig xs).map (Value.int .u8)) (p := 2) (ty := 26) (g := w.heap.size) (by kernel_rfl) _ _ rfl Tryd.underlying26 rfl hid ?_
    have e := hB2
    simp [dig_len] at e
    exact e
  · exact below_sets HW2.out (Nat.le_refl _) HW2.out.size _ _

set_option maxRecDepth 100000 in
set_option maxHeartbeats 2000000 in
theorem sum_any (po : Option Addr) (pn pc : Nat) (ls : List (List Int)) (w : World) (hP : Pcs0 w po pn ls) (hT : Tabs w) (hb : ls.flatten.length ≤ 576460752303423488) (hpn : pn ≤ 140737488355328) :
    Calls Tryd.prog 8 #[.slice po pn pc] w fun e w' => e = .returned (.agg ((dig ls.flatten).map (Value.int .u8)).toArray) ∧ Below w.heap.size w w' := by
  have HP := hide hP
  have HT := hide hT
  have HLt := hide hT.lt
  have HB := hide hb
  have HPN := hide hpn
  clear hP hT hb hpn
  go_enter Tryd.func8, Tryd.ntmps8
  go_wp2_with fail
  refine (new_any _ (HT.out.below ((Below.refl _ _).alloc (Nat.le_refl _) _) HLt.out)).mono ?_
  rintro e w1 ⟨rfl, hH1, hB1⟩
  have HD1 : Hid (Blk 26 w1 w.heap.size (List.replicate 32 (.int .u8 0))) := Blk.below (Blk.new w _ _ _ rfl rfl) hB1
  have HW1 : Hid (Below w.heap.size w w1) := ((Below.refl _ _).alloc (Nat.le_refl _) _).trans (hB1.mono (by simp))
  have HH1 : Hid (Hs 73 w1 (w.heap.size + 1) [] [] []) := by unfold Hid; simpa using hH1
  clear hH1 hB1
  go_wp2_with fail
  refine (take_any 73 (w.heap.size + 1) 0 [] [] [] po pn pc ls w1 HH1.out rfl ((HP.out.at (by omega)).below HW1.out) (HT.out.below HW1.out HLt.out) (by have := HLt.out; omega) (by have := HB.out; simp at this ⊢; omega) HPN.out).mono ?_
  rintro e w2 ⟨rfl, hH2, hG2⟩
  have HD2 : Hid (Blk 26 w2 w.heap.size (List.replicate 32 (.int .u8 0))) := HD1.out.kept hG2 (fun h => by have := Option.some.inj h; omega)
  have HW2 : Hid (Below w.heap.size w w2) := HW1.out.grown hG2 HW1.out.size (fun k hk => by simp at hk; omega)
  have HH2 := hide hH2
  clear hH2 hG2
  go_wp2_with fail
  refine (digest_any 73 (w.heap.size + 1) 0 [] [] ([] ++ ls.flatten) w2 HH2.out rfl (HT.out.below HW2.out HLt.out) (by rw [List.nil_append]; exact HB.out)).mono ?_
  rintro e w3 ⟨rfl, hB3⟩
  rw [List.nil_append]
  have HD3 : Hid (Blk 26 w3 w.heap.size (List.replicate 32 (.int .u8 0))) := HD2.out.below hB3
  have HW3 : Hid (Below w.heap.size w w3) := HW2.out.trans (hB3.mono HW2.out.size)
  clear hB3
  have hid : (Tryd.prog.info? 26).map (·.size) = some ((dig ls.flatten).map (Value.int .u8)).length := by rw [List.length_map, dig_len]; exact info_dig
  have hs8 : (stA 26 (.pointer (some ⟨w.heap.size, 0, none⟩)) (.agg ((dig ls.flatten).map (Value.int .u8)).toArray)).run Tryd.prog w3 = .ok () (w3.setCells w.heap.size 0 ((dig ls.flatten).map (Value.int .u8))) := stA_all hid HD3.out (by simp [dig_len]) (ints_one _ _)
  have hB2 := Blk.sets ((dig ls.flatten).map (Value.int .u8)) 0 _ w3 HD3.out (by simp [dig_len])
  go_wp2
  refine bodyPost_ret (v := .agg ((dig ls.flatten).map (Value.int .u8)).toArray) ?_ rfl ⟨rfl, ?_⟩
  · refine results_one (T := 26) (X := (dig ls.flatten).map (Value.int .u8)) (p := 2) (ty := 26) (g := w.heap.size) (by kernel_rfl) _ _ rfl Tryd.underlying26 rfl hid ?_
    have e := hB2
    simp [dig_len] at e
    exact e
  · exact below_sets HW3.out (Nat.le_refl _) HW3.out.size _ _

end Go.Proofs.YtgajejomibnghaaDoor
