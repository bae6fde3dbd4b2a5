/-
  The document's Parse: a text as arcs, digit by digit, held against the text of what was read.
-/
import Derived.Test.YtfcjahdkpjbggaaParseM
import Derived.Test.YtfcjahdkpjbggaaDSt
import Derived.Deep.QuietTactic
import Derived.BigQuiet
import Derived.RegionTactic
namespace Go.Proofs.Ytfcjahdkpjbggaa
open Go.RowKit Go.IntWalk

theorem byte_num (xs : List Int) (hb : ∀ x ∈ xs, 0 ≤ x ∧ x < 256) (S : ByteArray) (hS : strOfNums xs = S) (k : Nat) (h : k < S.size) : ((S[k]'h).toNat : Int) = xs.getD k 0 := by
  subst hS
  have hl : k < xs.length := by rw [strOfNums_size] at h; exact h
  have h1 := bytes_back xs hb k hl
  rw [← h1]
  congr 2
  have h2 : k < (strOfNums xs).data.toList.length := by rw [Array.length_toList]; exact h
  rw [List.getD_eq_getElem?_getD, List.getElem?_eq_getElem h2]
  simp
  rfl

theorem scan_dot (pre : List Int) (cur : Int) (r : List Int) (h : pre.length + 1 ≠ 20) : scanI pre cur (46 :: r) = scanI (pre ++ [cur]) 0 r := by rw [scanI, if_pos rfl, if_neg h]
theorem scan_many (pre : List Int) (cur : Int) (r : List Int) (h : pre.length + 1 = 20) : scanI pre cur (46 :: r) = none := by rw [scanI, if_pos rfl, if_pos h]
theorem scan_dig (pre : List Int) (cur c : Int) (r : List Int) (h : 48 ≤ c ∧ c ≤ 57) (h2 : ¬ 2147483647 < 10 * cur + (c - 48)) : scanI pre cur (c :: r) = scanI pre (10 * cur + (c - 48)) r := by rw [scanI, if_neg (by omega), if_pos h, if_neg h2]
theorem scan_great (pre : List Int) (cur c : Int) (r : List Int) (h : 48 ≤ c ∧ c ≤ 57) (h2 : 2147483647 < 10 * cur + (c - 48)) : scanI pre cur (c :: r) = none := by rw [scanI, if_neg (by omega), if_pos h, if_pos h2]
theorem scan_bad (pre : List Int) (cur c : Int) (r : List Int) (h : c ≠ 46) (h2 : ¬ (48 ≤ c ∧ c ≤ 57)) : scanI pre cur (c :: r) = none := by rw [scanI, if_neg h, if_neg h2]

theorem scanS_none (xs : List Int) (h : scanI [] 0 xs = none) : scanS xs = ([], 33) := by unfold scanS; rw [h]

theorem set_last (pre : List Int) (cur u : Int) : (pre ++ [cur]).set pre.length u = pre ++ [u] := by rw [List.set_append_right _ _ (Nat.le_refl _)]; simp

set_option maxRecDepth 100000 in
set_option maxHeartbeats 4000000 in
theorem refParse_any (xs : List Int) (hb : ∀ x ∈ xs, 0 ≤ x ∧ x < 256) (hs : xs.length ≤ 1048576) (w : World) :
    Calls Try.prog 17 #[.string (strOfNums xs)] w fun e w' => ∃ ao' L c', e = .returned (.tuple #[.slice ao' L c', .int .i64 (scanS xs).2]) ∧ OwnI w' w.heap.size (.slice ao' L c') (scanS xs).1 ∧ Below w.heap.size w w' := by
  obtain ⟨S, hS⟩ : ∃ S, strOfNums xs = S := ⟨_, rfl⟩
  have hSz : S.size = xs.length := by rw [← hS, strOfNums_size]
  have hBy := hide (byte_num xs hb S hS)
  rw [hS]
  have hSN := hide hS
  clear hS
  go_enter Try.func17, Try.ntmps17
  go_wp2
  go_loopw [4, 5] (fun a i wr => ∃ (pre : List Int) (cur : Int) (g c k : Nat), a = .slice (some ⟨g, 0, none⟩) (pre.length + 1) c ∧ i = .int .i64 k ∧ k ≤ xs.length ∧ pre.length + 1 ≤ 20 ∧ 0 ≤ cur ∧ cur ≤ 2147483647 ∧ Hid (∀ x ∈ pre, 0 ≤ x ∧ x ≤ 2147483647) ∧ Hid (OwnI wr w.heap.size (.slice (some ⟨g, 0, none⟩) (pre.length + 1) c) (pre ++ [cur])) ∧ Hid (Below w.heap.size w wr) ∧ Hid (scanI [] 0 xs = scanI pre cur (xs.drop k))) (fun _ i _ => xs.length - (intOf i).toNat)
  case atStart => exact ⟨[], 0, w.heap.size, 1, 0, rfl, rfl, Nat.zero_le _, by simp, by omega, by omega, by simp [Hid], OwnI.lit w.heap.size [0] _ 1 rfl rfl (Nat.le_refl _) (by decide), (Below.refl _ _).alloc (Nat.le_refl _) _, rfl⟩
  case round =>
    obtain ⟨pre, cur, g, c, k, rfl, rfl, hk, hp, h0, h1, HV, HO, HB, HE⟩ := hrel
    by_cases hlt : k < xs.length
    · have hsz : k < S.size := by omega
      have hx := hBy.out k hsz
      have hdr : xs.drop k = xs.getD k 0 :: xs.drop (k + 1) := by
        rw [List.drop_eq_getElem_cons hlt, List.getD_eq_getElem?_getD, List.getElem?_eq_getElem hlt]; rfl
      have hxb := hb (xs.getD k 0) (by rw [List.getD_eq_getElem?_getD, List.getElem?_eq_getElem hlt]; exact List.getElem_mem hlt)
      rw [hdr] at HE
      clear hdr
      generalize xs.getD k 0 = x at hx hxb HE
      have hkI : (k : Int) < (S.size : Int) := by omega
      have hcell := HO.out.cell pre.length (by simp)
      have hfr := HO.out.frozen pre.length
      have e0 : (pre ++ [cur])[pre.length]? = some cur := by simp
      by_cases hd : x = 46
      · subst hd
        by_cases h20 : pre.length + 1 = 20
        · have hF : Hid (scanS xs = ([], 33)) := scanS_none xs (by rw [HE.out, scan_many pre cur _ h20])
          have h20I : (pre.length : Int) + 1 = 20 := by omega
          clear HE hcell hfr e0
          go_wp2
          refine bodyPost_ret (v := .tuple #[.slice none 0 0, .int .i64 33]) (by simp [results, Try.results17, go_sem]) rfl ?_
          rw [hF.out]
          exact ⟨none, 0, 0, rfl, OwnI.nil _ _, HB.out⟩
        · have hN : Hid (scanI [] 0 xs = scanI (pre ++ [cur]) 0 (xs.drop (k + 1))) := by unfold Hid; rw [HE.out, scan_dot pre cur _ h20]
          have h20I : ((pre.length : Int) + 1 == 20) = false := by simp; omega
          have hV2 : Hid (∀ x ∈ pre ++ [cur], 0 ≤ x ∧ x ≤ 2147483647) := by
            intro y hy
            rcases List.mem_append.1 hy with hy | hy
            · exact HV.out y hy
            · simp at hy; subst hy; exact ⟨h0, h1⟩
          clear HE hcell hfr e0
          go_wp2_with (at_builtin; refine wpList_appIN _ rfl (.tmp 27) (.tmp 28) rfl w.heap.size (.slice (some ⟨g, 0, none⟩) (pre.length + 1) c) (pre ++ [cur]) rfl (HO.out.alloc _) (some ⟨wr.heap.size, 0, none⟩) 1 1 [0] rfl (SrcI.lit [0] _ 1 rfl rfl (by simp) (by decide)) (pre.length + 2) (by simp) (.inr (by simp)) (by omega) (by have := HB.out.size; simp; omega) ?_; intro g1 c1 w1 ho1 hb1 hl1 hc1 hm1 hg1)
          have HO1 : Hid (OwnI w1 w.heap.size (.slice (some ⟨g1, 0, none⟩) ((pre ++ [cur]).length + 1) c1) ((pre ++ [cur]) ++ [0])) := by
            unfold Hid
            have e : (pre ++ [cur]).length + 1 = pre.length + 2 := by simp
            rw [e]
            exact ho1
          have HB1 : Hid (Below w.heap.size w w1) := (HB.out.alloc HB.out.size _).grown hg1 (by have := HB.out.size; simp; omega) (fun j hj => (HO.out.lt j hj).1)
          go_roundw
          case rel => exact ⟨pre ++ [cur], 0, g1, c1, k + 1, by simp, by simp, by omega, by simp; omega, by omega, by omega, hV2, HO1, HB1, hN⟩
          case measure => simp [intOf]; omega
      · by_cases hdg : 48 ≤ x ∧ x ≤ 57
        · have hq : (x == 46) = false := by simpa using hd
          have q1 := hdg.1
          have q2 := hdg.2
          have hw1 : IntKind.i64.wrap (10 * cur) = 10 * cur := i64_in _ (by omega)
          have hw2 : IntKind.i64.wrap (10 * cur + (x - 48)) = 10 * cur + (x - 48) := i64_in _ (by omega)
          have hu1 : IntKind.u8.wrap (x - 48) = x - 48 := by rw [IntKind.wrap_u8]; omega
          have hcell' : wr.cell? ⟨g, pre.length, none⟩ = some (.int .i64 cur) := by
            rw [List.getD_eq_getElem?_getD, e0] at hcell
            exact hcell
          obtain ⟨t1, t2⟩ := HO.out.stored pre.length (10 * cur + (x - 48))
          rw [set_last] at t1
          have HT := hide (And.intro t1 t2)
          clear hcell e0 hd t1 t2
          have HD : Hid (OwnI (World.drew (wr.setCell ⟨g, pre.length, none⟩ (.int .i64 (10 * cur + (x - 48))))) w.heap.size (.slice (some ⟨g, 0, none⟩) (pre.length + 1) c) (pre ++ [10 * cur + (x - 48)]) ∧ Below w.heap.size w (World.drew (wr.setCell ⟨g, pre.length, none⟩ (.int .i64 (10 * cur + (x - 48)))))) := by
            refine ⟨HT.out.1.heap rfl, ?_⟩
            have h1 : Below w.heap.size w (wr.setCell ⟨g, pre.length, none⟩ (.int .i64 (10 * cur + (x - 48)))) := HB.out.setCell (HO.out.lt g rfl).1 _
            exact ⟨h1.os, h1.tape, h1.output, h1.size, h1.block⟩
          have hcn : (World.drew (wr.setCell ⟨g, pre.length, none⟩ (.int .i64 (10 * cur + (x - 48))))).cell? ⟨g, pre.length, none⟩ = some (.int .i64 (10 * cur + (x - 48))) := by
            have h := HD.out.1.cell pre.length (by simp)
            rw [List.getD_eq_getElem?_getD] at h
            simpa using h
          clear HT HB HO
          by_cases hgt : 2147483647 < 10 * cur + (x - 48)
          · have hF : Hid (scanS xs = ([], 33)) := scanS_none xs (by rw [HE.out, scan_great pre cur x _ hdg hgt])
            clear HE hdg
            go_wp2
            go_region
            generalize World.drew (wr.setCell ⟨g, pre.length, none⟩ (.int .i64 (10 * cur + (x - 48)))) = W7 at HD hcn ⊢
            go_wp2
            have HB := hide HD.out.2
            refine bodyPost_ret (v := .tuple #[.slice none 0 0, .int .i64 33]) (by simp [results, Try.results17, go_sem]) rfl ?_
            rw [hF.out]
            exact ⟨none, 0, 0, rfl, OwnI.nil _ _, HB.out⟩
          · have hN : Hid (scanI [] 0 xs = scanI pre (10 * cur + (x - 48)) (xs.drop (k + 1))) := by unfold Hid; rw [HE.out, scan_dig pre cur x _ hdg hgt]
            clear HE hdg
            go_wp2
            go_region
            generalize World.drew (wr.setCell ⟨g, pre.length, none⟩ (.int .i64 (10 * cur + (x - 48)))) = W7 at HD hcn ⊢
            go_wp2
            go_roundw
            case rel => exact ⟨pre, 10 * cur + (x - 48), g, c, k + 1, rfl, by simp, by omega, hp, by omega, by omega, HV, HD.out.1, HD.out.2, hN⟩
            case measure => simp [intOf]; omega
        · have hF : Hid (scanS xs = ([], 33)) := scanS_none xs (by rw [HE.out, scan_bad pre cur x _ hd hdg])
          have hq : (x == 46) = false := by simpa using hd
          clear HE hcell hfr e0 hd
          by_cases q1 : 48 ≤ x
          · have q2 : ¬ x ≤ 57 := fun h => hdg ⟨q1, h⟩
            clear hdg
            go_wp2
            refine bodyPost_ret (v := .tuple #[.slice none 0 0, .int .i64 33]) (by simp [results, Try.results17, go_sem]) rfl ?_
            rw [hF.out]
            exact ⟨none, 0, 0, rfl, OwnI.nil _ _, HB.out⟩
          · clear hdg
            go_wp2
            refine bodyPost_ret (v := .tuple #[.slice none 0 0, .int .i64 33]) (by simp [results, Try.results17, go_sem]) rfl ?_
            rw [hF.out]
            exact ⟨none, 0, 0, rfl, OwnI.nil _ _, HB.out⟩
    · obtain rfl : k = xs.length := by omega
      have hkI : ¬ ((xs.length : Nat) : Int) < (S.size : Int) := by omega
      have hA : Hid (scanI [] 0 xs = some (pre ++ [cur])) := by unfold Hid; rw [HE.out, List.drop_length]; rfl
      have hV2 : Hid (∀ x ∈ pre ++ [cur], 0 ≤ x ∧ x ≤ 2147483647) := by
        intro y hy
        rcases List.mem_append.1 hy with hy | hy
        · exact HV.out y hy
        · simp at hy; subst hy; exact ⟨h0, h1⟩
      have hsrc : SrcI wr (some ⟨g, 0, none⟩) (pre.length + 1) c (pre ++ [cur]) := HO.out.toSrc (fun y hy => by have := hV2.out y hy; omega)
      have hcall := hide (refText_any (some ⟨g, 0, none⟩) (pre.length + 1) c (pre ++ [cur]) wr hsrc)
      clear hsrc HE HV
      have hss : Hid (scanS xs = if mayS (pre ++ [cur]) = true ∧ txtI (pre ++ [cur]) = xs then (pre ++ [cur], 0) else ([], 33)) := by unfold Hid scanS; rw [hA.out]
      have hlen : Hid ((pre ++ [cur]).length = pre.length + 1) := by unfold Hid; simp
      have htx := hide (fun h => txtC_of (pre ++ [cur]) xs hb h)
      have hee : Hid (encE (pre ++ [cur]) = if mayS (pre ++ [cur]) = true then 0 else 2) := rfl
      have HO2 := HO
      clear HO
      generalize pre ++ [cur] = A at hss hlen htx hcall hee HO2 hA
      by_cases hm : mayS A = true
      · have e1 : encE A = 0 := by rw [hee.out, if_pos hm]
        rw [e1] at hcall
        by_cases ht : txtI A = xs
        · have hF : Hid (scanS xs = (A, 0)) := by unfold Hid; rw [hss.out, if_pos ⟨hm, ht⟩]
          have hT : txtC A = S := ((htx.out hm).2 ht).trans hSN.out
          rw [hT] at hcall
          clear hss htx hee e1 hm ht hT
          go_wp2_with (go_at_call 33; refine hcall.out.mono ?_; rintro e w2 ⟨rfl, B2⟩)
          refine bodyPost_ret (v := .tuple #[.slice (some ⟨g, 0, none⟩) (pre.length + 1) c, .int .i64 0]) (by simp [results, Try.results17, go_sem]) rfl ?_
          rw [hF.out]
          exact ⟨_, _, _, rfl, HO2.out.belowA B2, HB.out.trans (B2.mono HB.out.size)⟩
        · have hF : Hid (scanS xs = ([], 33)) := by unfold Hid; rw [hss.out, if_neg (fun h => ht h.2)]
          have hT : ¬ txtC A = S := fun h => ht ((htx.out hm).1 (h.trans hSN.out.symm))
          have hT2 : ((txtC A).toList == S.toList) = false := by
            rw [beq_eq_false_iff_ne, ByteArray.toList_eq, ByteArray.toList_eq]
            intro e
            exact hT (ByteArray.ext (Array.ext' e))
          generalize txtC A = TT at hcall hT2
          clear hss htx hee e1 hm ht hT
          go_wp2_with (go_at_call 33; refine hcall.out.mono ?_; rintro e w2 ⟨rfl, B2⟩)
          replace HB := hide (HB.out.trans (B2.mono HB.out.size))
          refine bodyPost_ret (v := .tuple #[.slice none 0 0, .int .i64 33]) (by simp [results, Try.results17, go_sem]) rfl ?_
          rw [hF.out]
          exact ⟨none, 0, 0, rfl, OwnI.nil _ _, HB.out⟩
      · have e1 : encE A = 2 := by rw [hee.out, if_neg hm]
        have hF : Hid (scanS xs = ([], 33)) := by unfold Hid; rw [hss.out, if_neg (fun h => hm h.1)]
        rw [e1] at hcall
        clear hss htx hee e1 hm
        go_wp2_with (go_at_call 33; refine hcall.out.mono ?_; rintro e w2 ⟨rfl, B2⟩)
        replace HB := hide (HB.out.trans (B2.mono HB.out.size))
        refine bodyPost_ret (v := .tuple #[.slice none 0 0, .int .i64 33]) (by simp [results, Try.results17, go_sem]) rfl ?_
        rw [hF.out]
        exact ⟨none, 0, 0, rfl, OwnI.nil _ _, HB.out⟩

end Go.Proofs.Ytfcjahdkpjbggaa
