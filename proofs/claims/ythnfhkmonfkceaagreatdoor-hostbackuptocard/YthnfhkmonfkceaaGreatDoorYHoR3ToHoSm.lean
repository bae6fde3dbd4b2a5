/-
  The document's host: host's names, wild names, network addresses.
  The document's host: a text with small letters.
-/
import Derived.Test.YthnfhkmonfkceaaGreatDoorYHoSh1ToHoR2
import Derived.Test.YthnfhkmonfkceaaGreatDoorYHoEToHoMm
import Derived.Test.YthnfhkmonfkceaaGreatDoorYHoMtToWiHMay
import Derived.Test.YthnfhkmonfkceaaGreatDoorYTxP4ToSize
import Derived.Test.YthnfhkmonfkceaaGreatDoorYOneToRTake
namespace Go.Proofs.YthnfhkmonfkceaaGreatDoor
open Go.RowKit Go.IntWalk

theorem all_dropT (p : List UInt8 → Bool) (ws : List (List UInt8)) (k : Nat) (h : k < ws.length) : (ws.drop k).all p = (p (ws[k]'h) && (ws.drop (k + 1)).all p) := by
  rw [List.drop_eq_getElem_cons h, List.all_cons]
theorem all_dropB (p : UInt8 → Bool) (ws : List UInt8) (k : Nat) (h : k < ws.length) : (ws.drop k).all p = (p (ws[k]'h) && (ws.drop (k + 1)).all p) := by
  rw [List.drop_eq_getElem_cons h, List.all_cons]
theorem txs_get (ws : List (List UInt8)) (k : Nat) (h : k < ws.length) : (txs ws)[k]? = some (tx (ws[k]'h)) := by simp [txs, h]

set_option maxRecDepth 100000 in
set_option maxHeartbeats 4000000 in
theorem refDNS_any (s : ByteArray) (hs : s.size ≤ 1048576) (w : World) :
    Calls Tryz.prog 19 #[.string s] w fun e w' => e = .returned (.bool (dnsL s.data.toList)) ∧ Below w.heap.size w w' := by
  have hSL := sizeH_len s
  by_cases hlen : s.size ≤ 253
  · have hlI : ¬ (253 : Int) < (s.size : Int) := by omega
    have hR : Hid (dnsL s.data.toList = ((labs s.data.toList).all labL && !numL ((labs s.data.toList).getLast?.getD []))) := by unfold Hid dnsL; rw [hSL, decide_eq_true hlen, Bool.true_and, dnsG_all]
    have hLb := hide (fun W => refLabels_any s hs W)
    have hne : 0 < (labs s.data.toList).length := List.length_pos_iff.2 (labsG_ne _ _)
    have hmem : Hid (∀ u ∈ labs s.data.toList, u.length ≤ 253) := fun u hu => by have := labsG_mem _ _ u hu; rw [hSL] at this; simp at this; omega
    have hln : (labs s.data.toList).length ≤ 254 := by have := labsG_len s.data.toList []; rw [hSL] at this; unfold labs; omega
    generalize labs s.data.toList = ws at hR hLb hne hmem hln
    generalize dnsL s.data.toList = R at hR ⊢
    obtain ⟨lastu, hlast⟩ : ∃ u, ws[ws.length - 1]'(by omega) = u := ⟨_, rfl⟩
    have hR2 : Hid (R = (ws.all labL && !numL lastu)) := by unfold Hid; rw [hR.out, List.getLast?_eq_getElem?, List.getElem?_eq_getElem (by omega), ← hlast]; rfl
    have hll : lastu.length ≤ 253 := hmem.out _ (by rw [← hlast]; exact List.getElem_mem _)
    have hlg : Hid ((txs ws)[ws.length - 1]? = some (tx lastu)) := by unfold Hid; rw [txs_get ws _ (by omega), hlast]
    clear hlast hR hSL
    go_enter Tryz.func19, Tryz.ntmps19
    go_wp2_with (go_at_call 44; refine (hLb.out _).mono ?_; rintro e w1 ⟨ao, c, rfl, ho, B1⟩)
    obtain ⟨g, rfl⟩ : ∃ g, ao = some ⟨g, 0, none⟩ := by
      rcases ho.split with ⟨_, h⟩ | ⟨g, cap, h, _⟩
      · have h2 : (txs ws).length = 0 := by rw [h]; rfl
        rw [txs_len] at h2; omega
      · exact ⟨g, (Value.slice.inj h).1⟩
    have hcel : Hid (∀ (k : Nat) (hk : k < ws.length), w1.cell? ⟨g, k, none⟩ = some (.string (tx (ws[k]'hk)))) := fun k hk => by
      have h := ho.cells k _ (txs_get ws k hk)
      rwa [Nat.zero_add] at h
    have hcl : Hid (w1.cell? ⟨g, ws.length - 1, none⟩ = some (.string (tx lastu))) := by
      have h := ho.cells _ _ hlg.out
      rwa [Nat.zero_add] at h
    replace B1 := hide B1
    clear ho
    go_loop [4] (fun i => ∃ k : Nat, i = .int .i64 k ∧ k ≤ ws.length ∧ Hid (ws.all labL = (ws.drop k).all labL)) (fun i => ws.length - (intOf i).toNat)
    case atStart => exact ⟨0, rfl, Nat.zero_le _, rfl⟩
    case round =>
      obtain ⟨k, rfl, hk, hE⟩ := hrel
      by_cases hlt : k < ws.length
      · have hltI : (k : Int) < (ws.length : Int) := by omega
        have hc := hcel.out k hlt
        have hst := hide (all_dropT labL ws k hlt)
        have hL := hide (fun W => refIsLabel_any (tx (ws[k]'hlt)) (by have := hmem.out _ (List.getElem_mem hlt); rw [tx_size]; omega) W)
        rw [tx_list] at hL
        generalize ws[k]'hlt = u at hc hst hL
        generalize labL u = q at hst hL
        cases q with
        | true =>
          have hF : Hid (ws.all labL = (ws.drop (k + 1)).all labL) := by unfold Hid; rw [hE.out, hst.out, Bool.true_and]
          go_wp2_with (go_at_call 45; refine (hL.out _).mono ?_; rintro e w2 ⟨rfl, hw2⟩; subst hw2)
          go_round
          case rel => exact ⟨k + 1, by simp, by omega, hF⟩
          case measure => simp [intOf]; omega
        | false =>
          have hF : Hid (R = false) := by unfold Hid; rw [hR2.out, hE.out, hst.out]; rfl
          go_wp2_with (go_at_call 45; refine (hL.out _).mono ?_; rintro e w2 ⟨rfl, hw2⟩; subst hw2)
          go_ret
          exact ⟨by rw [hF.out]; rfl, B1.out⟩
      · have hltI : ¬ (k : Int) < (ws.length : Int) := by omega
        have hF : Hid (R = !numL lastu) := by unfold Hid; rw [hR2.out, hE.out, List.drop_eq_nil_of_le (by omega)]; rfl
        have hcl2 := hcl.out
        have hnm : Hid (numL lastu = lastu.all (fun b => digN b.toNat)) := rfl
        have htz := tx_size lastu
        have hlb : lastu.length = (tx lastu).size := rfl
        have hgb : Hid (∀ (i : Nat) (hi : i < lastu.length) (h2 : i < (tx lastu).size), ((tx lastu)[i]'h2) = lastu[i]'hi) := fun i hi h2 => rfl
        clear htz hlb
        go_wp2
        go_loop [6] (fun i => ∃ k : Nat, i = .int .i64 k ∧ k ≤ lastu.length ∧ Hid (lastu.all (fun b => digN b.toNat) = (lastu.drop k).all (fun b => digN b.toNat))) (fun i => lastu.length - (intOf i).toNat)
        case atStart => exact ⟨0, rfl, Nat.zero_le _, rfl⟩
        case round =>
          clear hlt hk hltI hcl2
          obtain ⟨i, rfl, hi, hEi⟩ := hrel
          by_cases hit : i < lastu.length
          · have hitI : (i : Int) < (lastu.length : Int) := by omega
            have hzI : (i : Int) < ((tx lastu).size : Int) := hitI
            have hz2 : i < (tx lastu).size := hit
            have hdg := hide (fun W => digit_any ((tx lastu)[i]'hz2).toNat W)
            have hst := hide (all_dropB (fun b => digN b.toNat) lastu i hit)
            have hgg : lastu[i]'hit = (tx lastu)[i]'hz2 := rfl
            rw [hgg] at hst
            clear hgg
            generalize hq : digN ((tx lastu)[i]'hz2).toNat = q at hst hdg
            replace hq := True.intro
            cases q with
            | true =>
              have hF2 : Hid (lastu.all (fun b => digN b.toNat) = (lastu.drop (i + 1)).all (fun b => digN b.toNat)) := by unfold Hid; rw [hEi.out, hst.out, Bool.true_and]
              go_wp2_with (go_at_call 43; refine (hdg.out _).mono ?_; rintro e w2 ⟨rfl, hw2⟩; subst hw2)
              go_round
              case rel => exact ⟨i + 1, by simp, by omega, hF2⟩
              case measure => simp [intOf]; omega
            | false =>
              have hF2 : Hid (R = true) := by unfold Hid; rw [hF.out, hnm.out, hEi.out, hst.out]; rfl
              go_wp2_with (go_at_call 43; refine (hdg.out _).mono ?_; rintro e w2 ⟨rfl, hw2⟩; subst hw2)
              go_ret
              exact ⟨by rw [hF2.out]; rfl, B1.out⟩
          · have hitI : ¬ (i : Int) < (lastu.length : Int) := by omega
            have hzI : ¬ (i : Int) < ((tx lastu).size : Int) := hitI
            have hF2 : Hid (R = false) := by unfold Hid; rw [hF.out, hnm.out, hEi.out, List.drop_eq_nil_of_le (by omega)]; rfl
            go_wp2
            go_ret
            exact ⟨by rw [hF2.out]; rfl, B1.out⟩
  · have hlI : (253 : Int) < (s.size : Int) := by omega
    have hP : Hid (dnsL s.data.toList = false) := by unfold Hid dnsL; rw [hSL, decide_eq_false hlen]; rfl
    go_enter Tryz.func19, Tryz.ntmps19
    go_wp2
    go_ret
    exact ⟨by rw [hP.out]; rfl, Below.refl _ _⟩

set_option maxRecDepth 100000 in
set_option maxHeartbeats 1000000 in
theorem refIP_any (s : List UInt8) (w : World) : Calls Tryz.prog 21 #[.string (tx s)] w fun e w' => e = .returned (.bool (ipL s)) ∧ w' = w := by
  have hs := tx_size s
  have hP : Hid (ipL s = (decide (s.length = 4) || decide (s.length = 16))) := rfl
  generalize ipL s = R at hP ⊢
  by_cases h4 : s.length = 4
  · have h4' : (((tx s).size : Int) == 4) = true := by simp; omega
    have HP : Hid (R = true) := by unfold Hid; rw [hP.out, decide_eq_true h4]; rfl
    clear hs h4
    go_enter Tryz.func21, Tryz.ntmps21
    go_wp2
    go_ret
    exact ⟨by rw [HP.out]; rfl, rfl⟩
  have h4' : (((tx s).size : Int) == 4) = false := by simp; omega
  by_cases h16 : s.length = 16
  · have h16' : (((tx s).size : Int) == 16) = true := by simp; omega
    have HP : Hid (R = true) := by unfold Hid; rw [hP.out, decide_eq_true h16, Bool.or_true]
    clear hs h4 h16
    go_enter Tryz.func21, Tryz.ntmps21
    go_wp2
    go_ret
    exact ⟨by rw [HP.out]; rfl, rfl⟩
  · have h16' : (((tx s).size : Int) == 16) = false := by simp; omega
    have HP : Hid (R = false) := by unfold Hid; rw [hP.out, decide_eq_false h4, decide_eq_false h16]; rfl
    clear hs h4 h16
    go_enter Tryz.func21, Tryz.ntmps21
    go_wp2
    go_ret
    exact ⟨by rw [HP.out]; rfl, rfl⟩

theorem labs_dot : ∀ (l acc : List UInt8), decide (1 < (labsG acc l).length) = l.contains 46
  | [], acc => by simp [labsG]
  | c :: r, acc => by
    rw [labsG, List.contains_cons]
    by_cases hc : c = 46
    · rw [if_pos hc, hc]
      have h1 : 0 < (labsG [] r).length := List.length_pos_iff.2 (labsG_ne _ _)
      simp; omega
    · have h2 : ((46 : UInt8) == c) = false := by simpa using fun e => hc e.symm
      rw [if_neg hc, labs_dot r, h2, Bool.false_or]

set_option maxRecDepth 100000 in
set_option maxHeartbeats 2000000 in
theorem refWild_any (s : List UInt8) (hs : s.length ≤ 1048576) (w : World) : Calls Tryz.prog 20 #[.string (tx s)] w fun e w' => e = .returned (.bool (wildL s)) ∧ Below w.heap.size w w' := by
  have hz := tx_size s
  by_cases h2 : 2 < s.length
  · have h2I : (2 : Int) < ((tx s).size : Int) := by omega
    by_cases hle : s.length ≤ 253
    · have hleI : ((tx s).size : Int) ≤ 253 := by omega
      obtain ⟨a, b, r, rfl⟩ : ∃ a b r, s = a :: b :: r := by
        match s, h2 with
        | a :: b :: r, _ => exact ⟨a, b, r, rfl⟩
      have sl1 : ∀ X, (Instr.slice 9 (.string (tx (a :: b :: r))) none (some (.int .i64 2)) none).run Tryz.prog X = .ok (.string (tx [a, b])) X := fun X => by
        have h := run_slice_string_to_if (P := Tryz.prog) (w := X) 9 (tx (a :: b :: r)) .i64 2 Tryz.underlying9
        rw [h, if_pos (by omega), cut_textH]; rfl
      have sl2 : ∀ X, (Instr.slice 9 (.string (tx (a :: b :: r))) (some (.int .i64 2)) none none).run Tryz.prog X = .ok (.string (tx r)) X := fun X => by
        have h := run_slice_string_from_if (P := Tryz.prog) (w := X) 9 (tx (a :: b :: r)) .i64 2 Tryz.underlying9
        rw [h, if_pos (by omega), cut_textH]
        unfold cutH
        rw [List.take_of_length_le (by rw [sizeH_len]; exact Nat.le_refl _)]
        rfl
      have hP : wildL (a :: b :: r) = (decide (a = 42 ∧ b = 46) && (decide (r.length + 2 ≤ 253) && (dnsL r && r.contains 46))) := rfl
      rw [decide_eq_true (show r.length + 2 ≤ 253 by simp at hle; omega), Bool.true_and] at hP
      generalize wildL (a :: b :: r) = R at hP ⊢
      by_cases hab : a = 42 ∧ b = 46
      · obtain ⟨rfl, rfl⟩ := hab
        have hl1 : labs (42 :: 46 :: r) = [42] :: labs r := rfl
        have hln : Hid (((labs (42 :: 46 :: r)).length : Int) = ((labs r).length : Int) + 1) := by unfold Hid; rw [hl1]; simp
        have hLb := hide (fun W => refLabels_any (tx (42 :: 46 :: r)) (by rw [tx_size]; omega) W)
        rw [tx_list] at hLb
        have hD := hide (fun W => refDNS_any (tx r) (by rw [tx_size]; simp at hs; omega) W)
        rw [tx_list] at hD
        have hdot := labs_dot r []
        have hP2 : Hid (R = (decide (1 < (labs r).length) && dnsL r)) := by unfold Hid labs; rw [hP, hdot, Bool.and_comm (dnsL r)]; rfl
        generalize labs (42 :: 46 :: r) = ls at hln hLb
        generalize dnsL r = d at hD hP2
        clear hP hl1 hdot h2 hle hz
        have hq1 : ((tx [42, 46]).toList == [42, 46]) = true := by rw [Lib.toList_data, tx_list]; rfl
        by_cases h1 : 1 < (labs r).length
        · have h1I : (2 : Int) < (ls.length : Int) := by rw [hln.out]; omega
          have hP3 : Hid (R = d) := by unfold Hid; rw [hP2.out, decide_eq_true h1, Bool.true_and]
          clear h1
          go_enter Tryz.func20, Tryz.ntmps20
          go_wp2_with (first | (go_at_call 44; refine (hLb.out _).mono ?_; rintro e w1 ⟨ao, c, rfl, ho, B1⟩) | (go_at_call 19; refine (hD.out _).mono ?_; rintro e w2 ⟨rfl, B2⟩))
          go_ret
          exact ⟨by rw [hP3.out]; rfl, B1.trans (B2.mono B1.size)⟩
        · have h1I : ¬ (2 : Int) < (ls.length : Int) := by rw [hln.out]; omega
          have hP3 : Hid (R = false) := by unfold Hid; rw [hP2.out, decide_eq_false h1, Bool.false_and]
          clear h1
          go_enter Tryz.func20, Tryz.ntmps20
          go_wp2_with (first | (go_at_call 44; refine (hLb.out _).mono ?_; rintro e w1 ⟨ao, c, rfl, ho, B1⟩) | (go_at_call 19; refine (hD.out _).mono ?_; rintro e w2 ⟨rfl, B2⟩))
          go_ret
          exact ⟨by rw [hP3.out]; rfl, B1⟩
      · have hP2 : Hid (R = false) := by unfold Hid; rw [hP, decide_eq_false hab]; rfl
        have hq1 : ((tx [a, b]).toList == [42, 46]) = false := by
          rw [Lib.toList_data, tx_list]
          rw [beq_eq_false_iff_ne]
          intro e
          injection e with e1 e2
          injection e2 with e2 _
          exact hab ⟨e1, e2⟩
        clear hP hab h2 hle hz
        go_enter Tryz.func20, Tryz.ntmps20
        go_wp2
        go_ret
        exact ⟨by rw [hP2.out]; rfl, Below.refl _ _⟩
    · have hleI : ¬ ((tx s).size : Int) ≤ 253 := by omega
      have hP : Hid (wildL s = false) := by unfold Hid; rw [wildL_prefix, decide_eq_false hle]; simp
      clear hle hz h2
      go_enter Tryz.func20, Tryz.ntmps20
      go_wp2
      go_ret
      exact ⟨by rw [hP.out]; rfl, Below.refl _ _⟩
  · have h2I : ¬ (2 : Int) < ((tx s).size : Int) := by omega
    have hP : Hid (wildL s = false) := by
      unfold Hid
      match s, h2 with
      | [], _ => rfl
      | [a], _ => rfl
      | [a, b], _ => simp [wildL, dnsL_nil]
      | a :: b :: c :: r, h => simp at h
    clear hz h2
    go_enter Tryz.func20, Tryz.ntmps20
    go_wp2
    go_ret
    exact ⟨by rw [hP.out]; rfl, Below.refl _ _⟩

end Go.Proofs.YthnfhkmonfkceaaGreatDoor

namespace Go.Proofs.YthnfhkmonfkceaaGreatDoor
open Go.RowKit Go.IntWalk

def appOfH (ats : Array TypeId) (ty : TypeId) (args : Array Value) : Sem Value := Builtin.append_ ats ty args
theorem appOfH_of (ats : Array TypeId) (ty : TypeId) (args : Array Value) : Builtin.append_ ats ty args = appOfH ats ty args := rfl
attribute [local go_sem ↓] appOfH_of

theorem app_byteH {W : World} {base : Nat} {v : Value} {acc : List UInt8} (h : OwnB W base v (nums acc)) (N : UInt8) (hl : acc.length + 1 ≤ 140737488355328) (hbase : base ≤ W.heap.size) :
    ∃ g c w2, (appOfH #[43, 43] 43 #[v, .slice (some ⟨W.heap.size, 0, none⟩) 1 1]).run Tryz.prog (W.alloc (.cells #[.int .u8 N.toNat] 5)) = .ok (.slice (some ⟨g, 0, none⟩) (acc.length + 1) c) w2 ∧
      OwnB w2 base (.slice (some ⟨g, 0, none⟩) (acc.length + 1) c) (nums (acc ++ [N])) ∧ (W.alloc (.cells #[.int .u8 N.toNat] 5)).grownBy w2 v.ownBlock := by
  have hN := N.toNat_lt
  have hs : Src (W.alloc (.cells #[.int .u8 N.toNat] 5)) (some ⟨W.heap.size, 0, none⟩) 1 1 [(N.toNat : Int)] := Src.litAt [(N.toNat : Int)] _ 1 _ rfl rfl (by intro x hx; simp at hx; subst hx; omega) (by decide) rfl
  obtain ⟨g, c', w', h1, h2, _, _, _, _, h3⟩ := run_appN (W.alloc (.cells #[.int .u8 N.toNat] 5)) 43 base v (nums acc) (h.alloc _) _ 1 1 [(N.toNat : Int)] hs (acc.length + 1) (by simp [nums]) (.inr (by simp)) hl (by simp; omega)
  exact ⟨g, c', w', h1, by rw [nums_append]; exact h2, h3⟩





end Go.Proofs.YthnfhkmonfkceaaGreatDoor
