/-
  sha.Mac.
-/
import Derived.Test.YtgajejomibnghaaDoorSaKSum
namespace Go.Proofs.YtgajejomibnghaaDoor
open Go.RowKit Go.IntWalk

attribute [local go_sem ↓] ld_words ld_part ld_sched ld_hash ld_dig ld_arr st_words st_part st_sched st_hash st_dig st_arr ix_words bd_hash bd_keyed bd_dig

set_option maxRecDepth 100000 in
set_option maxHeartbeats 2000000 in
theorem mac_any (a : Option Addr) (n c : Nat) (key : List Int) (po : Option Addr) (pn pc : Nat) (ls : List (List Int)) (w : World) (hs : SrcG .u8 256 w a n c key) (hnm : n ≤ 140737488355328) (hP : Pcs0 w po pn ls) (hT : Tabs w) (hb : ls.flatten.length ≤ 288230376151711744) (hpn : pn ≤ 140737488355328) :
    Calls Tryd.prog 11 #[.slice a n c, .slice po pn pc] w fun e w' => e = .returned (.agg ((macD key ls.flatten).map (Value.int .u8)).toArray) ∧ Below w.heap.size w w' := by
  have HS := hide hs
  have HNM := hide hnm
  have HP := hide hP
  have HT := hide hT
  have HLt := hide hT.lt
  have HB := hide hb
  have HPN := hide hpn
  have HL1 : Hid ((mask 54 (keyOf key)).length = 64) := by unfold Hid; rw [mask_len, keyOf_len]
  have HL2 : Hid ((mask 92 (keyOf key)).length = 64) := by unfold Hid; rw [mask_len, keyOf_len]
  clear hs hnm hP hT hb hpn
  go_enter Tryd.func11, Tryd.ntmps11
  go_wp2_with fail
  refine (key_any a n c key _ (HS.out.alloc _) HNM.out (HT.out.below ((Below.refl _ _).alloc (Nat.le_refl _) _) HLt.out)).mono ?_
  rintro e w1 ⟨rfl, hK1, hB1⟩
  have HD1 : Hid (Blk 26 w1 w.heap.size (List.replicate 32 (.int .u8 0))) := Blk.below (Blk.new w _ _ _ rfl rfl) hB1
  have HW1 : Hid (Below w.heap.size w w1) := ((Below.refl _ _).alloc (Nat.le_refl _) _).trans (hB1.mono (by simp))
  have HK1 : Hid (Ks w1 (w.heap.size + 1 + 1 + 1) (mask 54 (keyOf key)) (mask 92 (keyOf key))) := by unfold Hid; simpa using hK1
  clear hK1 hB1
  obtain ⟨C, hH, hback⟩ := HK1.out.first
  have HH := hide hH
  have HBk := hide hback
  clear hH hback
  go_wp2_with fail
  refine (take_any 75 (w.heap.size + 1 + 1 + 1) 0 [] C (mask 54 (keyOf key)) po pn pc ls w1 HH.out rfl ((HP.out.at (by omega)).below HW1.out) (HT.out.below HW1.out HLt.out) (by have := HLt.out; omega) (by rw [HL1.out]; have := HB.out; omega) HPN.out).mono ?_
  rintro e w2 ⟨rfl, hH2, hG2⟩
  have HD2 : Hid (Blk 26 w2 w.heap.size (List.replicate 32 (.int .u8 0))) := HD1.out.kept hG2 (fun h => by have := Option.some.inj h; omega)
  have HW2 : Hid (Below w.heap.size w w2) := HW1.out.grown hG2 HW1.out.size (fun k hk => by simp at hk; omega)
  have HK2 := hide (HBk.out _ _ hH2)
  clear hH2 hG2
  go_wp2_with fail
  refine (ksum_yes (w.heap.size + 1 + 1 + 1) _ _ w2 HK2.out (HT.out.below HW2.out HLt.out) (by rw [List.length_append, HL1.out]; have := HB.out; omega) (by rw [HL2.out]; omega)).mono ?_
  rintro e w3 ⟨rfl, hB3⟩
  have em : dig (mask 92 (keyOf key) ++ dig (mask 54 (keyOf key) ++ ls.flatten)) = macD key ls.flatten := rfl
  rw [em]
  have dig_len : (macD key ls.flatten).length = 32 := by rw [← em]; exact dig_len _
  have HD3 := hide (HD2.out.below hB3)
  have HW3 : Hid (Below w.heap.size w w3) := HW2.out.trans (hB3.mono HW2.out.size)
  clear hB3 em
  have hid : (Tryd.prog.info? 26).map (·.size) = some ((macD key ls.flatten).map (Value.int .u8)).length := by rw [List.length_map, dig_len]; exact info_dig
  have hs8 : (stA 26 (.pointer (some ⟨w.heap.size, 0, none⟩)) (.agg ((macD key ls.flatten).map (Value.int .u8)).toArray)).run Tryd.prog w3 = .ok () (w3.setCells w.heap.size 0 ((macD key ls.flatten).map (Value.int .u8))) := stA_all hid HD3.out (by simp [dig_len]) (ints_one _ _)
  have hB2 := Blk.sets ((macD key ls.flatten).map (Value.int .u8)) 0 _ w3 HD3.out (by simp [dig_len])
  go_wp2
  refine bodyPost_ret (v := .agg ((macD key ls.flatten).map (Value.int .u8)).toArray) ?_ rfl ⟨rfl, ?_⟩
  · refine results_one (T := 26) (X := (macD key ls.flatten).map (Value.int .u8)) (p := 4) (ty := 26) (g := w.heap.size) (by kernel_rfl) _ _ rfl Tryd.underlying26 rfl hid ?_
    have e := hB2
    simp [dig_len] at e
    exact e
  · exact below_sets HW3.out (Nat.le_refl _) HW3.out.size _ _

end Go.Proofs.YtgajejomibnghaaDoor
