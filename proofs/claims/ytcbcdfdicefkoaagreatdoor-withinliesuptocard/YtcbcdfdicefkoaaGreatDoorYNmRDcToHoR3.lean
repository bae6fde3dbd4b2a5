/-
  The document's Decode of a name.
  The document's host: host's names, wild names, network addresses.
-/
import Derived.Test.YtcbcdfdicefkoaaGreatDoorYNmGue
import Derived.Test.YtcbcdfdicefkoaaGreatDoorYHoR2ToWiNet
import Derived.Test.YtcbcdfdicefkoaaGreatDoorYHoSToHoE
namespace Go.Proofs.YtcbcdfdicefkoaaGreatDoor
open Go.RowKit Go.IntWalk Go.Shelf

theorem encNE_ok (n : List (Int × ByteArray)) : encNE n = if nameL n = true then 0 else 120 := rfl
theorem okN_of {xs : List Int} {n : List (Int × ByteArray)} : okN xs n = (nameL n && decide (encNC n = xs)) := rfl

set_option maxRecDepth 100000 in
set_option maxHeartbeats 2000000 in
theorem rdecode_any (ao : Option Addr) (n cap : Nat) (xs : List Int) (w : World) (hs : Src w ao n cap xs) (hN : n ≤ 1048576) :
    Calls Tryz.prog 34 #[.slice ao n cap] w fun e w' => ∃ a m c, e = .returned (.tuple #[.slice a m c, .int .i64 (ansE xs)]) ∧ OwnA w' w.heap.size (.slice a m c) (ansN xs) ∧ Below w.heap.size w w' := by
  have h1 := hide (refOne_any ao n cap xs w hs (by omega))
  have HS := hide hs
  have HZ : Hid (∀ x ∈ gsN xs, x.2.size ≤ 1048576) := fun x hx => by
    have h5 := gsN_len xs x hx
    have := hs.hlen
    omega
  have HA1 : Hid ((oneS xs).2.2 ≠ 0 → ansN xs = [] ∧ ansE xs = (oneS xs).2.2) := fun h => ⟨by unfold ansN; rw [if_pos h], by unfold ansE; rw [if_pos h]⟩
  have HA2 : Hid ((oneS xs).2.2 = 0 → okN xs (gsN xs) = true → ansN xs = gsN xs ∧ ansE xs = 0) := fun h hk => by
    obtain ⟨q1, q2⟩ := ok_both xs
    rw [hk] at q1
    have h' : ¬ ((oneS xs).2.2 ≠ 0) := by simpa using h
    refine ⟨?_, ?_⟩
    · unfold ansN; rw [if_neg h', if_pos q1]; exact q2 q1
    · unfold ansE; rw [if_neg h', if_pos q1]
  have HA3 : Hid ((oneS xs).2.2 = 0 → okN xs (gsN xs) = false → ansN xs = [] ∧ ansE xs = 120) := fun h hk => by
    obtain ⟨q1, q2⟩ := ok_both xs
    rw [hk] at q1
    have h' : ¬ ((oneS xs).2.2 ≠ 0) := by simpa using h
    refine ⟨?_, ?_⟩
    · unfold ansN; rw [if_neg h', if_neg (by rw [q1]; decide)]
    · unfold ansE; rw [if_neg h', if_neg (by rw [q1]; decide)]
  have hG := hide (fun W (h : Src W ao n cap xs) => guess_any ao n cap xs W h hN)
  have HB := hs.hbyt
  clear hs
  generalize ansN xs = AN at *
  generalize ansE xs = AE at *
  generalize gsN xs = G at *
  generalize (oneS xs).2.2 = er at *
  generalize (oneS xs).1 = tg at *
  generalize (oneS xs).2.1 = X at *
  go_enter Tryz.func34, Tryz.ntmps34
  go_wp2_with fail
  refine h1.out.mono ?_
  rintro e w1 ⟨a1, m1, c1, rfl, _, B1⟩
  have bA := nbelow w1 (.cells #[.int .i64 tg, .slice a1 m1 c1] 90)
  have BA := hide (B1.trans (bA.mono B1.size))
  have h2 := hide (hG.out _ ((HS.out.below B1).below bA))
  have HS2 := hide ((HS.out.below B1).below bA)
  clear h1 hG B1 bA HS
  by_cases h0 : er = 0
  · subst h0
    have e0 : ((0 : Int) != 0) = false := rfl
    go_wp2_with fail
    refine h2.out.mono ?_
    rintro e w2 ⟨a2, m2, c2, rfl, o2, B2⟩
    have A2 := o2.ats HZ.out
    have h3 := hide (rencodeN_any a2 m2 c2 G w2 A2 HZ.out)
    have HB2 := hide (BA.out.trans (B2.mono BA.out.size))
    have HO := hide (o2.rebase BA.out.size)
    have HS3 := hide (HS2.out.below B2)
    have hE := encNE_ok G
    clear h2 A2 o2 B2 HS2 BA
    generalize encNE G = en at *
    have hk := okN_of (xs := xs) (n := G)
    have hby : ∀ c, OwnB c 0 (.slice none 0 0) [] → True := fun _ _ => trivial
    have HEB : Hid (∀ x ∈ encNC G, 0 ≤ x ∧ x < 256) := by
      unfold encNC
      split
      · exact putB_byte _ _ (fun l hl => by simp at hl; subst hl; exact encR_byte _)
      · intro x hx; cases hx
    clear hby
    generalize encNC G = C at *
    go_wp2_with fail
    refine h3.out.mono ?_
    rintro e w3 ⟨a3, m3, c3, rfl, o3, B3⟩
    have s3 := o3.toSrc HEB.out
    have HB3 := hide (HB2.out.trans (B3.mono HB2.out.size))
    have HO3 := hide (HO.out.below B3)
    have s0 := HS3.out.below B3
    have t3 := s3.text
    have t0 := s0.text
    have te := textN_eq s3.hbyt s0.hbyt
    clear h3 o3 B3 HB2 HO HS3 s3 s0 HEB
    generalize strOfNums C = S1 at *
    generalize strOfNums xs = S2 at *
    cases hn : nameL G with
    | true =>
      rw [hn] at hE hk
      rw [if_pos rfl] at hE
      subst hE
      have e1 : ((0 : Int) != 0) = false := rfl
      by_cases hc : C = xs
      · rw [decide_eq_true hc] at te hk
        obtain ⟨rfl, rfl⟩ := HA2.out (by trivial) hk
        clear hk hn HA1 HA2 HA3
        go_wp2
        refine bodyPost_ret (v := .tuple #[.slice a2 m2 c2, .int .i64 0]) (by simp [results, Tryz.results34, go_sem]) rfl ⟨a2, m2, c2, rfl, HO3.out, HB3.out⟩
      · rw [decide_eq_false hc] at te hk
        obtain ⟨rfl, rfl⟩ := HA3.out (by trivial) hk
        clear hk hn HA1 HA2 HA3
        go_wp2
        refine bodyPost_ret (v := .tuple #[.slice none 0 0, .int .i64 120]) (by simp [results, Tryz.results34, go_sem]) rfl ⟨none, 0, 0, rfl, OwnA.nil _ _, HB3.out⟩
    | false =>
      rw [hn] at hE hk
      rw [if_neg (by decide)] at hE
      subst hE
      have e1 : ((120 : Int) != 0) = true := rfl
      obtain ⟨rfl, rfl⟩ := HA3.out (by trivial) (by rw [hk]; rfl)
      clear hk hn HA1 HA2 HA3 te t3 t0
      go_wp2
      refine bodyPost_ret (v := .tuple #[.slice none 0 0, .int .i64 120]) (by simp [results, Tryz.results34, go_sem]) rfl ⟨none, 0, 0, rfl, OwnA.nil _ _, HB3.out⟩
  · have e0 : (er != 0) = true := by simpa using h0
    obtain ⟨rfl, rfl⟩ := HA1.out h0
    clear h2 HA1 HA2 HA3
    go_wp2
    refine bodyPost_ret (v := .tuple #[.slice none 0 0, .int .i64 AE]) (by simp [results, Tryz.results34, go_sem]) rfl ⟨none, 0, 0, rfl, OwnA.nil _ _, BA.out⟩

end Go.Proofs.YtcbcdfdicefkoaaGreatDoor

namespace Go.Proofs.YtcbcdfdicefkoaaGreatDoor
open Go.RowKit Go.IntWalk

theorem all_dropT (p : List UInt8 → Bool) (ws : List (List UInt8)) (k : Nat) (h : k < ws.length) : (ws.drop k).all p = (p (ws[k]'h) && (ws.drop (k + 1)).all p) := by
  rw [List.drop_eq_getElem_cons h, List.all_cons]
theorem all_dropB (p : UInt8 → Bool) (ws : List UInt8) (k : Nat) (h : k < ws.length) : (ws.drop k).all p = (p (ws[k]'h) && (ws.drop (k + 1)).all p) := by
  rw [List.drop_eq_getElem_cons h, List.all_cons]
theorem txs_get (ws : List (List UInt8)) (k : Nat) (h : k < ws.length) : (txs ws)[k]? = some (tx (ws[k]'h)) := by simp [txs, h]

set_option maxRecDepth 100000 in
set_option maxHeartbeats 4000000 in
theorem refDNS_any (s : ByteArray) (hs : s.size ≤ 1048576) (w : World) :
    Calls Tryz.prog 28 #[.string s] w fun e w' => e = .returned (.bool (dnsL s.data.toList)) ∧ Below w.heap.size w w' := by
  have hSL := sizeH_len s
  by_cases hlen : s.size ≤ 253
  · have hlI : ¬ (253 : Int) < (s.size : Int) := by omega
    have hR : Hid (dnsL s.data.toList = ((labs s.data.toList).all labL && !numL ((labs s.data.toList).getLast?.getD []))) := by unfold Hid dnsL; rw [hSL, decide_eq_true hlen, Bool.true_and, dnsG_all]
    have hLb := hide (fun W => refLabels_any s hs W)
    have hne : 0 < (labs s.data.toList).length := List.length_pos_iff.2 (labsG_ne _ _)
    have hmem : Hid (∀ u ∈ labs s.data.toList, u.length ≤ 253) := fun u hu => by have := labsG_mem _ _ u hu; rw [hSL] at this; simp at this; omega
    have hln : (labs s.data.toList).length ≤ 254 := by have := labsG_len s.data.toList []; rw [hSL] at this; unfold labs; omega
    generalize labs s.data.toList = ws at hR hLb hne hmem hln
    generalize dnsL s.data.toList = R at hR ⊢
    obtain ⟨lastu, hlast⟩ : ∃ u, ws[ws.length - 1]'(by omega) = u := ⟨_, rfl⟩
    have hR2 : Hid (R = (ws.all labL && !numL lastu)) := by unfold Hid; rw [hR.out, List.getLast?_eq_getElem?, List.getElem?_eq_getElem (by omega), ← hlast]; rfl
    have hll : lastu.length ≤ 253 := hmem.out _ (by rw [← hlast]; exact List.getElem_mem _)
    have hlg : Hid ((txs ws)[ws.length - 1]? = some (tx lastu)) := by unfold Hid; rw [txs_get ws _ (by omega), hlast]
    clear hlast hR hSL
    go_enter Tryz.func28, Tryz.ntmps28
    go_wp2_with (go_at_call 29; refine (hLb.out _).mono ?_; rintro e w1 ⟨ao, c, rfl, ho, B1⟩)
    obtain ⟨g, rfl⟩ : ∃ g, ao = some ⟨g, 0, none⟩ := by
      rcases ho.split with ⟨_, h⟩ | ⟨g, cap, h, _⟩
      · have h2 : (txs ws).length = 0 := by rw [h]; rfl
        rw [txs_len] at h2; omega
      · exact ⟨g, (Value.slice.inj h).1⟩
    have hcel : Hid (∀ (k : Nat) (hk : k < ws.length), w1.cell? ⟨g, k, none⟩ = some (.string (tx (ws[k]'hk)))) := fun k hk => by
      have h := ho.cells k _ (txs_get ws k hk)
      rwa [Nat.zero_add] at h
    have hcl : Hid (w1.cell? ⟨g, ws.length - 1, none⟩ = some (.string (tx lastu))) := by
      have h := ho.cells _ _ hlg.out
      rwa [Nat.zero_add] at h
    replace B1 := hide B1
    clear ho
    go_loop [4] (fun i => ∃ k : Nat, i = .int .i64 k ∧ k ≤ ws.length ∧ Hid (ws.all labL = (ws.drop k).all labL)) (fun i => ws.length - (intOf i).toNat)
    case atStart => exact ⟨0, rfl, Nat.zero_le _, rfl⟩
    case round =>
      obtain ⟨k, rfl, hk, hE⟩ := hrel
      by_cases hlt : k < ws.length
      · have hltI : (k : Int) < (ws.length : Int) := by omega
        have hc := hcel.out k hlt
        have hst := hide (all_dropT labL ws k hlt)
        have hL := hide (fun W => refIsLabel_any (tx (ws[k]'hlt)) (by have := hmem.out _ (List.getElem_mem hlt); rw [tx_size]; omega) W)
        rw [tx_list] at hL
        generalize ws[k]'hlt = u at hc hst hL
        generalize labL u = q at hst hL
        cases q with
        | true =>
          have hF : Hid (ws.all labL = (ws.drop (k + 1)).all labL) := by unfold Hid; rw [hE.out, hst.out, Bool.true_and]
          go_wp2_with (go_at_call 63; refine (hL.out _).mono ?_; rintro e w2 ⟨rfl, hw2⟩; subst hw2)
          go_round
          case rel => exact ⟨k + 1, by simp, by omega, hF⟩
          case measure => simp [intOf]; omega
        | false =>
          have hF : Hid (R = false) := by unfold Hid; rw [hR2.out, hE.out, hst.out]; rfl
          go_wp2_with (go_at_call 63; refine (hL.out _).mono ?_; rintro e w2 ⟨rfl, hw2⟩; subst hw2)
          go_ret
          exact ⟨by rw [hF.out]; rfl, B1.out⟩
      · have hltI : ¬ (k : Int) < (ws.length : Int) := by omega
        have hF : Hid (R = !numL lastu) := by unfold Hid; rw [hR2.out, hE.out, List.drop_eq_nil_of_le (by omega)]; rfl
        have hcl2 := hcl.out
        have hnm : Hid (numL lastu = lastu.all (fun b => digN b.toNat)) := rfl
        have htz := tx_size lastu
        have hlb : lastu.length = (tx lastu).size := rfl
        have hgb : Hid (∀ (i : Nat) (hi : i < lastu.length) (h2 : i < (tx lastu).size), ((tx lastu)[i]'h2) = lastu[i]'hi) := fun i hi h2 => rfl
        clear htz hlb
        go_wp2
        go_loop [6] (fun i => ∃ k : Nat, i = .int .i64 k ∧ k ≤ lastu.length ∧ Hid (lastu.all (fun b => digN b.toNat) = (lastu.drop k).all (fun b => digN b.toNat))) (fun i => lastu.length - (intOf i).toNat)
        case atStart => exact ⟨0, rfl, Nat.zero_le _, rfl⟩
        case round =>
          clear hlt hk hltI hcl2
          obtain ⟨i, rfl, hi, hEi⟩ := hrel
          by_cases hit : i < lastu.length
          · have hitI : (i : Int) < (lastu.length : Int) := by omega
            have hzI : (i : Int) < ((tx lastu).size : Int) := hitI
            have hz2 : i < (tx lastu).size := hit
            have hdg := hide (fun W => digit_any ((tx lastu)[i]'hz2).toNat W)
            have hst := hide (all_dropB (fun b => digN b.toNat) lastu i hit)
            have hgg : lastu[i]'hit = (tx lastu)[i]'hz2 := rfl
            rw [hgg] at hst
            clear hgg
            generalize hq : digN ((tx lastu)[i]'hz2).toNat = q at hst hdg
            replace hq := True.intro
            cases q with
            | true =>
              have hF2 : Hid (lastu.all (fun b => digN b.toNat) = (lastu.drop (i + 1)).all (fun b => digN b.toNat)) := by unfold Hid; rw [hEi.out, hst.out, Bool.true_and]
              go_wp2_with (go_at_call 64; refine (hdg.out _).mono ?_; rintro e w2 ⟨rfl, hw2⟩; subst hw2)
              go_round
              case rel => exact ⟨i + 1, by simp, by omega, hF2⟩
              case measure => simp [intOf]; omega
            | false =>
              have hF2 : Hid (R = true) := by unfold Hid; rw [hF.out, hnm.out, hEi.out, hst.out]; rfl
              go_wp2_with (go_at_call 64; refine (hdg.out _).mono ?_; rintro e w2 ⟨rfl, hw2⟩; subst hw2)
              go_ret
              exact ⟨by rw [hF2.out]; rfl, B1.out⟩
          · have hitI : ¬ (i : Int) < (lastu.length : Int) := by omega
            have hzI : ¬ (i : Int) < ((tx lastu).size : Int) := hitI
            have hF2 : Hid (R = false) := by unfold Hid; rw [hF.out, hnm.out, hEi.out, List.drop_eq_nil_of_le (by omega)]; rfl
            go_wp2
            go_ret
            exact ⟨by rw [hF2.out]; rfl, B1.out⟩
  · have hlI : (253 : Int) < (s.size : Int) := by omega
    have hP : Hid (dnsL s.data.toList = false) := by unfold Hid dnsL; rw [hSL, decide_eq_false hlen]; rfl
    go_enter Tryz.func28, Tryz.ntmps28
    go_wp2
    go_ret
    exact ⟨by rw [hP.out]; rfl, Below.refl _ _⟩

set_option maxRecDepth 100000 in
set_option maxHeartbeats 1000000 in
theorem refIP_any (s : List UInt8) (w : World) : Calls Tryz.prog 70 #[.string (tx s)] w fun e w' => e = .returned (.bool (ipL s)) ∧ w' = w := by
  have hs := tx_size s
  have hP : Hid (ipL s = (decide (s.length = 4) || decide (s.length = 16))) := rfl
  generalize ipL s = R at hP ⊢
  by_cases h4 : s.length = 4
  · have h4' : (((tx s).size : Int) == 4) = true := by simp; omega
    have HP : Hid (R = true) := by unfold Hid; rw [hP.out, decide_eq_true h4]; rfl
    clear hs h4
    go_enter Tryz.func70, Tryz.ntmps70
    go_wp2
    go_ret
    exact ⟨by rw [HP.out]; rfl, rfl⟩
  have h4' : (((tx s).size : Int) == 4) = false := by simp; omega
  by_cases h16 : s.length = 16
  · have h16' : (((tx s).size : Int) == 16) = true := by simp; omega
    have HP : Hid (R = true) := by unfold Hid; rw [hP.out, decide_eq_true h16, Bool.or_true]
    clear hs h4 h16
    go_enter Tryz.func70, Tryz.ntmps70
    go_wp2
    go_ret
    exact ⟨by rw [HP.out]; rfl, rfl⟩
  · have h16' : (((tx s).size : Int) == 16) = false := by simp; omega
    have HP : Hid (R = false) := by unfold Hid; rw [hP.out, decide_eq_false h4, decide_eq_false h16]; rfl
    clear hs h4 h16
    go_enter Tryz.func70, Tryz.ntmps70
    go_wp2
    go_ret
    exact ⟨by rw [HP.out]; rfl, rfl⟩

theorem labs_dot : ∀ (l acc : List UInt8), decide (1 < (labsG acc l).length) = l.contains 46
  | [], acc => by simp [labsG]
  | c :: r, acc => by
    rw [labsG, List.contains_cons]
    by_cases hc : c = 46
    · rw [if_pos hc, hc]
      have h1 : 0 < (labsG [] r).length := List.length_pos_iff.2 (labsG_ne _ _)
      simp; omega
    · have h2 : ((46 : UInt8) == c) = false := by simpa using fun e => hc e.symm
      rw [if_neg hc, labs_dot r, h2, Bool.false_or]

set_option maxRecDepth 100000 in
set_option maxHeartbeats 2000000 in
theorem refWild_any (s : List UInt8) (hs : s.length ≤ 1048576) (w : World) : Calls Tryz.prog 38 #[.string (tx s)] w fun e w' => e = .returned (.bool (wildL s)) ∧ Below w.heap.size w w' := by
  have hz := tx_size s
  by_cases h2 : 2 < s.length
  · have h2I : (2 : Int) < ((tx s).size : Int) := by omega
    by_cases hle : s.length ≤ 253
    · have hleI : ((tx s).size : Int) ≤ 253 := by omega
      obtain ⟨a, b, r, rfl⟩ : ∃ a b r, s = a :: b :: r := by
        match s, h2 with
        | a :: b :: r, _ => exact ⟨a, b, r, rfl⟩
      have sl1 : ∀ X, (Instr.slice 9 (.string (tx (a :: b :: r))) none (some (.int .i64 2)) none).run Tryz.prog X = .ok (.string (tx [a, b])) X := fun X => by
        have h := run_slice_string_to_if (P := Tryz.prog) (w := X) 9 (tx (a :: b :: r)) .i64 2 Tryz.underlying9
        rw [h, if_pos (by omega), cut_textH]; rfl
      have sl2 : ∀ X, (Instr.slice 9 (.string (tx (a :: b :: r))) (some (.int .i64 2)) none none).run Tryz.prog X = .ok (.string (tx r)) X := fun X => by
        have h := run_slice_string_from_if (P := Tryz.prog) (w := X) 9 (tx (a :: b :: r)) .i64 2 Tryz.underlying9
        rw [h, if_pos (by omega), cut_textH]
        unfold cutH
        rw [List.take_of_length_le (by rw [sizeH_len]; exact Nat.le_refl _)]
        rfl
      have hP : wildL (a :: b :: r) = (decide (a = 42 ∧ b = 46) && (decide (r.length + 2 ≤ 253) && (dnsL r && r.contains 46))) := rfl
      rw [decide_eq_true (show r.length + 2 ≤ 253 by simp at hle; omega), Bool.true_and] at hP
      generalize wildL (a :: b :: r) = R at hP ⊢
      by_cases hab : a = 42 ∧ b = 46
      · obtain ⟨rfl, rfl⟩ := hab
        have hl1 : labs (42 :: 46 :: r) = [42] :: labs r := rfl
        have hln : Hid (((labs (42 :: 46 :: r)).length : Int) = ((labs r).length : Int) + 1) := by unfold Hid; rw [hl1]; simp
        have hLb := hide (fun W => refLabels_any (tx (42 :: 46 :: r)) (by rw [tx_size]; omega) W)
        rw [tx_list] at hLb
        have hD := hide (fun W => refDNS_any (tx r) (by rw [tx_size]; simp at hs; omega) W)
        rw [tx_list] at hD
        have hdot := labs_dot r []
        have hP2 : Hid (R = (decide (1 < (labs r).length) && dnsL r)) := by unfold Hid labs; rw [hP, hdot, Bool.and_comm (dnsL r)]; rfl
        generalize labs (42 :: 46 :: r) = ls at hln hLb
        generalize dnsL r = d at hD hP2
        clear hP hl1 hdot h2 hle hz
        have hq1 : ((tx [42, 46]).toList == [42, 46]) = true := by rw [Lib.toList_data, tx_list]; rfl
        by_cases h1 : 1 < (labs r).length
        · have h1I : (2 : Int) < (ls.length : Int) := by rw [hln.out]; omega
          have hP3 : Hid (R = d) := by unfold Hid; rw [hP2.out, decide_eq_true h1, Bool.true_and]
          clear h1
          go_enter Tryz.func38, Tryz.ntmps38
          go_wp2_with (first | (go_at_call 29; refine (hLb.out _).mono ?_; rintro e w1 ⟨ao, c, rfl, ho, B1⟩) | (go_at_call 28; refine (hD.out _).mono ?_; rintro e w2 ⟨rfl, B2⟩))
          go_ret
          exact ⟨by rw [hP3.out]; rfl, B1.trans (B2.mono B1.size)⟩
        · have h1I : ¬ (2 : Int) < (ls.length : Int) := by rw [hln.out]; omega
          have hP3 : Hid (R = false) := by unfold Hid; rw [hP2.out, decide_eq_false h1, Bool.false_and]
          clear h1
          go_enter Tryz.func38, Tryz.ntmps38
          go_wp2_with (first | (go_at_call 29; refine (hLb.out _).mono ?_; rintro e w1 ⟨ao, c, rfl, ho, B1⟩) | (go_at_call 28; refine (hD.out _).mono ?_; rintro e w2 ⟨rfl, B2⟩))
          go_ret
          exact ⟨by rw [hP3.out]; rfl, B1⟩
      · have hP2 : Hid (R = false) := by unfold Hid; rw [hP, decide_eq_false hab]; rfl
        have hq1 : ((tx [a, b]).toList == [42, 46]) = false := by
          rw [Lib.toList_data, tx_list]
          rw [beq_eq_false_iff_ne]
          intro e
          injection e with e1 e2
          injection e2 with e2 _
          exact hab ⟨e1, e2⟩
        clear hP hab h2 hle hz
        go_enter Tryz.func38, Tryz.ntmps38
        go_wp2
        go_ret
        exact ⟨by rw [hP2.out]; rfl, Below.refl _ _⟩
    · have hleI : ¬ ((tx s).size : Int) ≤ 253 := by omega
      have hP : Hid (wildL s = false) := by unfold Hid; rw [wildL_prefix, decide_eq_false hle]; simp
      clear hle hz h2
      go_enter Tryz.func38, Tryz.ntmps38
      go_wp2
      go_ret
      exact ⟨by rw [hP.out]; rfl, Below.refl _ _⟩
  · have h2I : ¬ (2 : Int) < ((tx s).size : Int) := by omega
    have hP : Hid (wildL s = false) := by
      unfold Hid
      match s, h2 with
      | [], _ => rfl
      | [a], _ => rfl
      | [a, b], _ => simp [wildL, dnsL_nil]
      | a :: b :: c :: r, h => simp at h
    clear hz h2
    go_enter Tryz.func38, Tryz.ntmps38
    go_wp2
    go_ret
    exact ⟨by rw [hP.out]; rfl, Below.refl _ _⟩

end Go.Proofs.YtcbcdfdicefkoaaGreatDoor
