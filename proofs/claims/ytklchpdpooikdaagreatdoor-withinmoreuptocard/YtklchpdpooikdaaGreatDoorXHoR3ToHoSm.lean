/-
  The document's host: host's names, wild names, network addresses.
  When a pattern stands for a host, on lists of bytes. No program.
  When a pattern stands for a host, told by small letters. No program.
  The document's host: a text with small letters.
-/
import Derived.Test.YtklchpdpooikdaaGreatDoorXHoLToBoxSt
import Derived.Test.YtklchpdpooikdaaGreatDoorXHoSToHoE
import Derived.Lib.Fold
import Derived.Test.YtklchpdpooikdaaGreatDoorXWiRowToHoM
import Derived.Test.YtklchpdpooikdaaGreatDoorXTxW1ToTxF1
import Derived.Test.YtklchpdpooikdaaGreatDoorXOneToRTag
namespace Go.Proofs.YtklchpdpooikdaaGreatDoor
open Go.RowKit Go.IntWalk

theorem all_dropT (p : List UInt8 → Bool) (ws : List (List UInt8)) (k : Nat) (h : k < ws.length) : (ws.drop k).all p = (p (ws[k]'h) && (ws.drop (k + 1)).all p) := by
  rw [List.drop_eq_getElem_cons h, List.all_cons]
theorem all_dropB (p : UInt8 → Bool) (ws : List UInt8) (k : Nat) (h : k < ws.length) : (ws.drop k).all p = (p (ws[k]'h) && (ws.drop (k + 1)).all p) := by
  rw [List.drop_eq_getElem_cons h, List.all_cons]
theorem txs_get (ws : List (List UInt8)) (k : Nat) (h : k < ws.length) : (txs ws)[k]? = some (tx (ws[k]'h)) := by simp [txs, h]

set_option maxRecDepth 100000 in
set_option maxHeartbeats 4000000 in
theorem refDNS_any (s : ByteArray) (hs : s.size ≤ 1048576) (w : World) :
    Calls Tryz.prog 35 #[.string s] w fun e w' => e = .returned (.bool (dnsL s.data.toList)) ∧ Below w.heap.size w w' := by
  have hSL := sizeH_len s
  by_cases hlen : s.size ≤ 253
  · have hlI : ¬ (253 : Int) < (s.size : Int) := by omega
    have hR : Hid (dnsL s.data.toList = ((labs s.data.toList).all labL && !numL ((labs s.data.toList).getLast?.getD []))) := by unfold Hid dnsL; rw [hSL, decide_eq_true hlen, Bool.true_and, dnsG_all]
    have hLb := hide (fun W => refLabels_any s hs W)
    have hne : 0 < (labs s.data.toList).length := List.length_pos_iff.2 (labsG_ne _ _)
    have hmem : Hid (∀ u ∈ labs s.data.toList, u.length ≤ 253) := fun u hu => by have := labsG_mem _ _ u hu; rw [hSL] at this; simp at this; omega
    have hln : (labs s.data.toList).length ≤ 254 := by have := labsG_len s.data.toList []; rw [hSL] at this; unfold labs; omega
    generalize labs s.data.toList = ws at hR hLb hne hmem hln
    generalize dnsL s.data.toList = R at hR ⊢
    obtain ⟨lastu, hlast⟩ : ∃ u, ws[ws.length - 1]'(by omega) = u := ⟨_, rfl⟩
    have hR2 : Hid (R = (ws.all labL && !numL lastu)) := by unfold Hid; rw [hR.out, List.getLast?_eq_getElem?, List.getElem?_eq_getElem (by omega), ← hlast]; rfl
    have hll : lastu.length ≤ 253 := hmem.out _ (by rw [← hlast]; exact List.getElem_mem _)
    have hlg : Hid ((txs ws)[ws.length - 1]? = some (tx lastu)) := by unfold Hid; rw [txs_get ws _ (by omega), hlast]
    clear hlast hR hSL
    go_enter Tryz.func35, Tryz.ntmps35
    go_wp2_with (go_at_call 41; refine (hLb.out _).mono ?_; rintro e w1 ⟨ao, c, rfl, ho, B1⟩)
    obtain ⟨g, rfl⟩ : ∃ g, ao = some ⟨g, 0, none⟩ := by
      rcases ho.split with ⟨_, h⟩ | ⟨g, cap, h, _⟩
      · have h2 : (txs ws).length = 0 := by rw [h]; rfl
        rw [txs_len] at h2; omega
      · exact ⟨g, (Value.slice.inj h).1⟩
    have hcel : Hid (∀ (k : Nat) (hk : k < ws.length), w1.cell? ⟨g, k, none⟩ = some (.string (tx (ws[k]'hk)))) := fun k hk => by
      have h := ho.cells k _ (txs_get ws k hk)
      rwa [Nat.zero_add] at h
    have hcl : Hid (w1.cell? ⟨g, ws.length - 1, none⟩ = some (.string (tx lastu))) := by
      have h := ho.cells _ _ hlg.out
      rwa [Nat.zero_add] at h
    replace B1 := hide B1
    clear ho
    go_loop [4] (fun i => ∃ k : Nat, i = .int .i64 k ∧ k ≤ ws.length ∧ Hid (ws.all labL = (ws.drop k).all labL)) (fun i => ws.length - (intOf i).toNat)
    case atStart => exact ⟨0, rfl, Nat.zero_le _, rfl⟩
    case round =>
      obtain ⟨k, rfl, hk, hE⟩ := hrel
      by_cases hlt : k < ws.length
      · have hltI : (k : Int) < (ws.length : Int) := by omega
        have hc := hcel.out k hlt
        have hst := hide (all_dropT labL ws k hlt)
        have hL := hide (fun W => refIsLabel_any (tx (ws[k]'hlt)) (by have := hmem.out _ (List.getElem_mem hlt); rw [tx_size]; omega) W)
        rw [tx_list] at hL
        generalize ws[k]'hlt = u at hc hst hL
        generalize labL u = q at hst hL
        cases q with
        | true =>
          have hF : Hid (ws.all labL = (ws.drop (k + 1)).all labL) := by unfold Hid; rw [hE.out, hst.out, Bool.true_and]
          go_wp2_with (go_at_call 56; refine (hL.out _).mono ?_; rintro e w2 ⟨rfl, hw2⟩; subst hw2)
          go_round
          case rel => exact ⟨k + 1, by simp, by omega, hF⟩
          case measure => simp [intOf]; omega
        | false =>
          have hF : Hid (R = false) := by unfold Hid; rw [hR2.out, hE.out, hst.out]; rfl
          go_wp2_with (go_at_call 56; refine (hL.out _).mono ?_; rintro e w2 ⟨rfl, hw2⟩; subst hw2)
          go_ret
          exact ⟨by rw [hF.out]; rfl, B1.out⟩
      · have hltI : ¬ (k : Int) < (ws.length : Int) := by omega
        have hF : Hid (R = !numL lastu) := by unfold Hid; rw [hR2.out, hE.out, List.drop_eq_nil_of_le (by omega)]; rfl
        have hcl2 := hcl.out
        have hnm : Hid (numL lastu = lastu.all (fun b => digN b.toNat)) := rfl
        have htz := tx_size lastu
        have hlb : lastu.length = (tx lastu).size := rfl
        have hgb : Hid (∀ (i : Nat) (hi : i < lastu.length) (h2 : i < (tx lastu).size), ((tx lastu)[i]'h2) = lastu[i]'hi) := fun i hi h2 => rfl
        clear htz hlb
        go_wp2
        go_loop [6] (fun i => ∃ k : Nat, i = .int .i64 k ∧ k ≤ lastu.length ∧ Hid (lastu.all (fun b => digN b.toNat) = (lastu.drop k).all (fun b => digN b.toNat))) (fun i => lastu.length - (intOf i).toNat)
        case atStart => exact ⟨0, rfl, Nat.zero_le _, rfl⟩
        case round =>
          clear hlt hk hltI hcl2
          obtain ⟨i, rfl, hi, hEi⟩ := hrel
          by_cases hit : i < lastu.length
          · have hitI : (i : Int) < (lastu.length : Int) := by omega
            have hzI : (i : Int) < ((tx lastu).size : Int) := hitI
            have hz2 : i < (tx lastu).size := hit
            have hdg := hide (fun W => digit_any ((tx lastu)[i]'hz2).toNat W)
            have hst := hide (all_dropB (fun b => digN b.toNat) lastu i hit)
            have hgg : lastu[i]'hit = (tx lastu)[i]'hz2 := rfl
            rw [hgg] at hst
            clear hgg
            generalize hq : digN ((tx lastu)[i]'hz2).toNat = q at hst hdg
            replace hq := True.intro
            cases q with
            | true =>
              have hF2 : Hid (lastu.all (fun b => digN b.toNat) = (lastu.drop (i + 1)).all (fun b => digN b.toNat)) := by unfold Hid; rw [hEi.out, hst.out, Bool.true_and]
              go_wp2_with (go_at_call 55; refine (hdg.out _).mono ?_; rintro e w2 ⟨rfl, hw2⟩; subst hw2)
              go_round
              case rel => exact ⟨i + 1, by simp, by omega, hF2⟩
              case measure => simp [intOf]; omega
            | false =>
              have hF2 : Hid (R = true) := by unfold Hid; rw [hF.out, hnm.out, hEi.out, hst.out]; rfl
              go_wp2_with (go_at_call 55; refine (hdg.out _).mono ?_; rintro e w2 ⟨rfl, hw2⟩; subst hw2)
              go_ret
              exact ⟨by rw [hF2.out]; rfl, B1.out⟩
          · have hitI : ¬ (i : Int) < (lastu.length : Int) := by omega
            have hzI : ¬ (i : Int) < ((tx lastu).size : Int) := hitI
            have hF2 : Hid (R = false) := by unfold Hid; rw [hF.out, hnm.out, hEi.out, List.drop_eq_nil_of_le (by omega)]; rfl
            go_wp2
            go_ret
            exact ⟨by rw [hF2.out]; rfl, B1.out⟩
  · have hlI : (253 : Int) < (s.size : Int) := by omega
    have hP : Hid (dnsL s.data.toList = false) := by unfold Hid dnsL; rw [hSL, decide_eq_false hlen]; rfl
    go_enter Tryz.func35, Tryz.ntmps35
    go_wp2
    go_ret
    exact ⟨by rw [hP.out]; rfl, Below.refl _ _⟩

set_option maxRecDepth 100000 in
set_option maxHeartbeats 1000000 in
theorem refIP_any (s : List UInt8) (w : World) : Calls Tryz.prog 38 #[.string (tx s)] w fun e w' => e = .returned (.bool (ipL s)) ∧ w' = w := by
  have hs := tx_size s
  have hP : Hid (ipL s = (decide (s.length = 4) || decide (s.length = 16))) := rfl
  generalize ipL s = R at hP ⊢
  by_cases h4 : s.length = 4
  · have h4' : (((tx s).size : Int) == 4) = true := by simp; omega
    have HP : Hid (R = true) := by unfold Hid; rw [hP.out, decide_eq_true h4]; rfl
    clear hs h4
    go_enter Tryz.func38, Tryz.ntmps38
    go_wp2
    go_ret
    exact ⟨by rw [HP.out]; rfl, rfl⟩
  have h4' : (((tx s).size : Int) == 4) = false := by simp; omega
  by_cases h16 : s.length = 16
  · have h16' : (((tx s).size : Int) == 16) = true := by simp; omega
    have HP : Hid (R = true) := by unfold Hid; rw [hP.out, decide_eq_true h16, Bool.or_true]
    clear hs h4 h16
    go_enter Tryz.func38, Tryz.ntmps38
    go_wp2
    go_ret
    exact ⟨by rw [HP.out]; rfl, rfl⟩
  · have h16' : (((tx s).size : Int) == 16) = false := by simp; omega
    have HP : Hid (R = false) := by unfold Hid; rw [hP.out, decide_eq_false h4, decide_eq_false h16]; rfl
    clear hs h4 h16
    go_enter Tryz.func38, Tryz.ntmps38
    go_wp2
    go_ret
    exact ⟨by rw [HP.out]; rfl, rfl⟩

theorem labs_dot : ∀ (l acc : List UInt8), decide (1 < (labsG acc l).length) = l.contains 46
  | [], acc => by simp [labsG]
  | c :: r, acc => by
    rw [labsG, List.contains_cons]
    by_cases hc : c = 46
    · rw [if_pos hc, hc]
      have h1 : 0 < (labsG [] r).length := List.length_pos_iff.2 (labsG_ne _ _)
      simp; omega
    · have h2 : ((46 : UInt8) == c) = false := by simpa using fun e => hc e.symm
      rw [if_neg hc, labs_dot r, h2, Bool.false_or]

set_option maxRecDepth 100000 in
set_option maxHeartbeats 2000000 in
theorem refWild_any (s : List UInt8) (hs : s.length ≤ 1048576) (w : World) : Calls Tryz.prog 36 #[.string (tx s)] w fun e w' => e = .returned (.bool (wildL s)) ∧ Below w.heap.size w w' := by
  have hz := tx_size s
  by_cases h2 : 2 < s.length
  · have h2I : (2 : Int) < ((tx s).size : Int) := by omega
    by_cases hle : s.length ≤ 253
    · have hleI : ((tx s).size : Int) ≤ 253 := by omega
      obtain ⟨a, b, r, rfl⟩ : ∃ a b r, s = a :: b :: r := by
        match s, h2 with
        | a :: b :: r, _ => exact ⟨a, b, r, rfl⟩
      have sl1 : ∀ X, (Instr.slice 9 (.string (tx (a :: b :: r))) none (some (.int .i64 2)) none).run Tryz.prog X = .ok (.string (tx [a, b])) X := fun X => by
        have h := run_slice_string_to_if (P := Tryz.prog) (w := X) 9 (tx (a :: b :: r)) .i64 2 Tryz.underlying9
        rw [h, if_pos (by omega), cut_textH]; rfl
      have sl2 : ∀ X, (Instr.slice 9 (.string (tx (a :: b :: r))) (some (.int .i64 2)) none none).run Tryz.prog X = .ok (.string (tx r)) X := fun X => by
        have h := run_slice_string_from_if (P := Tryz.prog) (w := X) 9 (tx (a :: b :: r)) .i64 2 Tryz.underlying9
        rw [h, if_pos (by omega), cut_textH]
        unfold cutH
        rw [List.take_of_length_le (by rw [sizeH_len]; exact Nat.le_refl _)]
        rfl
      have hP : wildL (a :: b :: r) = (decide (a = 42 ∧ b = 46) && (decide (r.length + 2 ≤ 253) && (dnsL r && r.contains 46))) := rfl
      rw [decide_eq_true (show r.length + 2 ≤ 253 by simp at hle; omega), Bool.true_and] at hP
      generalize wildL (a :: b :: r) = R at hP ⊢
      by_cases hab : a = 42 ∧ b = 46
      · obtain ⟨rfl, rfl⟩ := hab
        have hl1 : labs (42 :: 46 :: r) = [42] :: labs r := rfl
        have hln : Hid (((labs (42 :: 46 :: r)).length : Int) = ((labs r).length : Int) + 1) := by unfold Hid; rw [hl1]; simp
        have hLb := hide (fun W => refLabels_any (tx (42 :: 46 :: r)) (by rw [tx_size]; omega) W)
        rw [tx_list] at hLb
        have hD := hide (fun W => refDNS_any (tx r) (by rw [tx_size]; simp at hs; omega) W)
        rw [tx_list] at hD
        have hdot := labs_dot r []
        have hP2 : Hid (R = (decide (1 < (labs r).length) && dnsL r)) := by unfold Hid labs; rw [hP, hdot, Bool.and_comm (dnsL r)]; rfl
        generalize labs (42 :: 46 :: r) = ls at hln hLb
        generalize dnsL r = d at hD hP2
        clear hP hl1 hdot h2 hle hz
        have hq1 : ((tx [42, 46]).toList == [42, 46]) = true := by rw [Lib.toList_data, tx_list]; rfl
        by_cases h1 : 1 < (labs r).length
        · have h1I : (2 : Int) < (ls.length : Int) := by rw [hln.out]; omega
          have hP3 : Hid (R = d) := by unfold Hid; rw [hP2.out, decide_eq_true h1, Bool.true_and]
          clear h1
          go_enter Tryz.func36, Tryz.ntmps36
          go_wp2_with (first | (go_at_call 41; refine (hLb.out _).mono ?_; rintro e w1 ⟨ao, c, rfl, ho, B1⟩) | (go_at_call 35; refine (hD.out _).mono ?_; rintro e w2 ⟨rfl, B2⟩))
          go_ret
          exact ⟨by rw [hP3.out]; rfl, B1.trans (B2.mono B1.size)⟩
        · have h1I : ¬ (2 : Int) < (ls.length : Int) := by rw [hln.out]; omega
          have hP3 : Hid (R = false) := by unfold Hid; rw [hP2.out, decide_eq_false h1, Bool.false_and]
          clear h1
          go_enter Tryz.func36, Tryz.ntmps36
          go_wp2_with (first | (go_at_call 41; refine (hLb.out _).mono ?_; rintro e w1 ⟨ao, c, rfl, ho, B1⟩) | (go_at_call 35; refine (hD.out _).mono ?_; rintro e w2 ⟨rfl, B2⟩))
          go_ret
          exact ⟨by rw [hP3.out]; rfl, B1⟩
      · have hP2 : Hid (R = false) := by unfold Hid; rw [hP, decide_eq_false hab]; rfl
        have hq1 : ((tx [a, b]).toList == [42, 46]) = false := by
          rw [Lib.toList_data, tx_list]
          rw [beq_eq_false_iff_ne]
          intro e
          injection e with e1 e2
          injection e2 with e2 _
          exact hab ⟨e1, e2⟩
        clear hP hab h2 hle hz
        go_enter Tryz.func36, Tryz.ntmps36
        go_wp2
        go_ret
        exact ⟨by rw [hP2.out]; rfl, Below.refl _ _⟩
    · have hleI : ¬ ((tx s).size : Int) ≤ 253 := by omega
      have hP : Hid (wildL s = false) := by unfold Hid; rw [wildL_prefix, decide_eq_false hle]; simp
      clear hle hz h2
      go_enter Tryz.func36, Tryz.ntmps36
      go_wp2
      go_ret
      exact ⟨by rw [hP.out]; rfl, Below.refl _ _⟩
  · have h2I : ¬ (2 : Int) < ((tx s).size : Int) := by omega
    have hP : Hid (wildL s = false) := by
      unfold Hid
      match s, h2 with
      | [], _ => rfl
      | [a], _ => rfl
      | [a, b], _ => simp [wildL, dnsL_nil]
      | a :: b :: c :: r, h => simp at h
    clear hz h2
    go_enter Tryz.func36, Tryz.ntmps36
    go_wp2
    go_ret
    exact ⟨by rw [hP.out]; rfl, Below.refl _ _⟩

end Go.Proofs.YtklchpdpooikdaaGreatDoor

namespace Go.Proofs.YtklchpdpooikdaaGreatDoor

/-- What stands behind the first label and its dot. -/
def behL (l : List UInt8) : List UInt8 := (cutD 46 l).2.1
/-- Does a pattern stand for a host? -/
def matchL (p s : List UInt8) : Bool := dnsL s && (if dnsL p = true then Lib.equalFold p s else wildL p && Lib.equalFold (behL p) (behL s))

theorem labP_ascii (n k b : Nat) (h : labP n k b = true) : b < 128 := by
  unfold labP plN digN at h
  simp at h
  omega
theorem allP_mem (f : Nat → Nat → Bool) (Q : Nat → Prop) (hf : ∀ k b, f k b = true → Q b) : ∀ (l : List UInt8) (k : Nat), allP f k l = true → ∀ b ∈ l, Q b.toNat
  | [], _, _, b, h => by cases h
  | c :: r, k, hl, b, h => by
    rw [allP, Bool.and_eq_true] at hl
    rcases List.mem_cons.1 h with rfl | h
    · exact hf _ _ hl.1
    · exact allP_mem f Q hf r _ hl.2 b h
theorem labL_ascii (u : List UInt8) (h : labL u = true) : ∀ b ∈ u, b.toNat < 128 := by
  unfold labL at h
  rw [Bool.and_eq_true, Bool.and_eq_true] at h
  exact allP_mem _ (· < 128) (fun k b hb => labP_ascii _ k b hb) u 0 h.2.2
theorem labsG_bytes (Q : UInt8 → Prop) (h46 : Q 46) : ∀ (l acc : List UInt8), (∀ u ∈ labsG acc l, ∀ b ∈ u, Q b) → (∀ b ∈ acc, Q b) ∧ ∀ b ∈ l, Q b
  | [], acc, h => ⟨h acc (by simp [labsG]), fun b hb => by cases hb⟩
  | c :: r, acc, h => by
    rw [labsG] at h
    by_cases hc : c = 46
    · rw [if_pos hc] at h
      have ih := labsG_bytes Q h46 r [] (fun u hu => h u (List.mem_cons_of_mem _ hu))
      refine ⟨h acc (by simp), fun b hb => ?_⟩
      rcases List.mem_cons.1 hb with rfl | hb
      · rw [hc]; exact h46
      · exact ih.2 b hb
    · rw [if_neg hc] at h
      have ih := labsG_bytes Q h46 r (acc ++ [c]) h
      refine ⟨fun b hb => ih.1 b (by simp [hb]), fun b hb => ?_⟩
      rcases List.mem_cons.1 hb with rfl | hb
      · exact ih.1 b (by simp)
      · exact ih.2 b hb
theorem dns_labs {l : List UInt8} (h : dnsL l = true) : (labs l).all labL = true := by
  unfold dnsL at h
  rw [Bool.and_eq_true, dnsG_all, Bool.and_eq_true] at h
  exact h.2.1
theorem dns_ascii {l : List UInt8} (h : dnsL l = true) : ∀ b ∈ l, b.toNat < 128 :=
  (labsG_bytes (fun b => b.toNat < 128) (by decide) l [] (fun u hu b hb => labL_ascii u (List.all_eq_true.1 (dns_labs h) u hu) b hb)).2
theorem dns_ne {l : List UInt8} (h : dnsL l = true) : l ≠ [] := by rintro rfl; rw [dnsL_nil] at h; cases h
theorem cutD_mem (d : UInt8) : ∀ (l : List UInt8), (∀ b ∈ (cutD d l).1, b ∈ l) ∧ ∀ b ∈ (cutD d l).2.1, b ∈ l
  | [] => by simp [cutD]
  | c :: r => by
    have ih := cutD_mem d r
    rw [cutD]
    split
    · exact ⟨fun b h => (by cases h), fun b h => List.mem_cons_of_mem _ h⟩
    · refine ⟨fun b h => ?_, fun b h => List.mem_cons_of_mem _ (ih.2 b h)⟩
      rcases List.mem_cons.1 h with rfl | h
      · simp
      · exact List.mem_cons_of_mem _ (ih.1 b h)
theorem wild_split {l : List UInt8} (h : wildL l = true) : ∃ r, l = 42 :: 46 :: r ∧ dnsL r = true ∧ behL l = r ∧ 1 < (labs r).length ∧ l.length ≤ 253 := by
  match l, h with
  | a :: b :: r, h =>
    simp only [wildL, Bool.and_eq_true, decide_eq_true_eq] at h
    obtain ⟨⟨rfl, rfl⟩, h1, h2, h3⟩ := h
    refine ⟨r, rfl, h2, ?_, ?_, by simp; omega⟩
    · unfold behL; rw [cutD, if_neg (by decide), cutD, if_pos rfl]
    · have : decide (1 < (labsG [] r).length) = r.contains 46 := by
        have go : ∀ (l acc : List UInt8), decide (1 < (labsG acc l).length) = l.contains 46 := by
          intro l
          induction l with
          | nil => intro acc; simp [labsG]
          | cons c r ih =>
            intro acc
            rw [labsG, List.contains_cons]
            by_cases hc : c = 46
            · rw [if_pos hc, hc]
              have h1 : 0 < (labsG [] r).length := List.length_pos_iff.2 (labsG_ne _ _)
              simp; omega
            · have h2 : ((46 : UInt8) == c) = false := by simpa using fun e => hc e.symm
              rw [if_neg hc, ih, h2, Bool.false_or]
        exact go r []
      rw [h3] at this
      simpa [labs] using this
theorem beh_ascii {s : List UInt8} (h : dnsL s = true) : ∀ b ∈ behL s, b.toNat < 128 := fun b hb => dns_ascii h b ((cutD_mem 46 s).2 b hb)

/-- What is alike but for great and small letters has its dots at the same places. -/
theorem fold_dot {x y : UInt8} (h : Lib.foldEq x y = true) : x = 46 ↔ y = 46 := by
  unfold Lib.foldEq at h
  rw [decide_eq_true_eq] at h
  have e : ∀ z : UInt8, z = 46 ↔ z.toNat = 46 := fun z => ⟨fun e => by rw [e]; rfl, fun e => UInt8.toNat_inj.1 (by rw [e]; rfl)⟩
  rw [e x, e y]
  omega
theorem fold_labs : ∀ (a b x y : List UInt8), Lib.equalFold a b = true → (labsG x a).length = (labsG y b).length
  | [], [], x, y, _ => by simp [labsG]
  | [], c :: r, x, y, h => by simp [Lib.equalFold] at h
  | c :: r, [], x, y, h => by simp [Lib.equalFold] at h
  | c :: r, d :: q, x, y, h => by
    simp only [Lib.equalFold, Bool.and_eq_true] at h
    have hd := fold_dot h.1
    rw [labsG, labsG]
    by_cases hc : c = 46
    · rw [if_pos hc, if_pos (hd.1 hc), List.length_cons, List.length_cons, fold_labs r q [] [] h.2]
    · rw [if_neg hc, if_neg (fun e => hc (hd.2 e)), fold_labs r q _ _ h.2]
theorem fold_nil {a : List UInt8} (h : Lib.equalFold a [] = true) : a = [] := by cases a with | nil => rfl | cons c r => simp [Lib.equalFold] at h
theorem match_len {p s : List UInt8} (h : matchL p s = true) : dnsL s = true ∧ (dnsL p = true ∨ wildL p = true) ∧ (labs p).length = (labs s).length := by
  unfold matchL at h
  rw [Bool.and_eq_true] at h
  obtain ⟨h1, h2⟩ := h
  refine ⟨h1, ?_⟩
  split at h2
  · rename_i hp
    exact ⟨.inl hp, fold_labs _ _ _ _ h2⟩
  · rw [Bool.and_eq_true] at h2
    obtain ⟨hw, hf⟩ := h2
    refine ⟨.inr hw, ?_⟩
    obtain ⟨r, rfl, hr, hb, _, _⟩ := wild_split hw
    rw [hb] at hf
    have e1 : labs (42 :: 46 :: r) = [42] :: labs r := rfl
    have e2 := labs_cut s
    by_cases hd : (cutD 46 s).2.2 = true
    · rw [if_pos hd] at e2
      rw [e1, e2, List.length_cons, List.length_cons]
      have e3 : labs (cutD 46 s).2.1 = labs (behL s) := rfl
      rw [e3]
      exact congrArg (· + 1) (fold_labs r (behL s) [] [] hf)
    · have e3 : behL s = [] := cutD_no 46 s (by simpa using hd)
      rw [e3] at hf
      exact absurd (fold_nil hf) (dns_ne hr)
theorem match_more {p s : List UInt8} (h : matchL p s = true) : matchL p (120 :: 46 :: s) = false := by
  cases hq : matchL p (120 :: 46 :: s) with
  | false => rfl
  | true =>
    have h1 := (match_len h).2.2
    have h2 := (match_len hq).2.2
    have e1 : labs (120 :: 46 :: s) = [120] :: labs s := rfl
    rw [e1, List.length_cons] at h2
    omega
theorem match_less {p s : List UInt8} (h : matchL p s = true) (hd : 1 < (labs s).length) : matchL p (behL s) = false := by
  cases hq : matchL p (behL s) with
  | false => rfl
  | true =>
    have h1 := (match_len h).2.2
    have h2 := (match_len hq).2.2
    have e2 := labs_cut s
    by_cases hc : (cutD 46 s).2.2 = true
    · rw [if_pos hc] at e2
      have e3 : labs (cutD 46 s).2.1 = labs (behL s) := rfl
      rw [e2, e3, List.length_cons] at h1
      omega
    · rw [if_neg hc] at e2
      rw [e2] at hd
      simp at hd

/-- Labels, joined by dots again. -/
def joinL : List (List UInt8) → List UInt8
  | [] => []
  | u :: ws => ws.foldl (fun a v => a ++ [46] ++ v) u
theorem foldl_acc : ∀ (ws : List (List UInt8)) (x y : List UInt8), ws.foldl (fun a v => a ++ [46] ++ v) (x ++ y) = x ++ ws.foldl (fun a v => a ++ [46] ++ v) y
  | [], _, _ => rfl
  | u :: ws, x, y => by
    rw [List.foldl_cons, List.foldl_cons, ← foldl_acc ws x (y ++ [46] ++ u)]
    congr 1
    simp
theorem join_labsG : ∀ (l acc : List UInt8), joinL (labsG acc l) = acc ++ l
  | [], acc => by simp [labsG, joinL]
  | c :: r, acc => by
    rw [labsG]
    by_cases hc : c = 46
    · rw [if_pos hc]
      have ih := join_labsG r []
      obtain ⟨u, ws, hu⟩ : ∃ u ws, labsG [] r = u :: ws := by
        cases h : labsG [] r with
        | nil => exact absurd h (labsG_ne _ _)
        | cons u ws => exact ⟨u, ws, rfl⟩
      rw [hu] at ih ⊢
      show (u :: ws).foldl (fun a v => a ++ [46] ++ v) acc = acc ++ c :: r
      rw [List.foldl_cons, foldl_acc ws (acc ++ [46]) u]
      have e : ws.foldl (fun a v => a ++ [46] ++ v) u = r := ih
      rw [e, hc]
      simp
    · rw [if_neg hc, join_labsG r]; simp
theorem join_labs (l : List UInt8) : joinL (labs l) = l := join_labsG l []
theorem join_beh (l : List UInt8) : joinL ((labs l).drop 1) = behL l := by
  rw [labs_cut]
  by_cases hc : (cutD 46 l).2.2 = true
  · rw [if_pos hc]; exact join_labs _
  · rw [if_neg hc]
    exact (cutD_no 46 l (by simpa using hc)).symm

end Go.Proofs.YtklchpdpooikdaaGreatDoor

namespace Go.Proofs.YtklchpdpooikdaaGreatDoor

/-- A text with small letters. -/
def smallL (l : List UInt8) : List UInt8 := l.map smallB

theorem small_nat (b : UInt8) : (smallB b).toNat = if 65 ≤ b.toNat ∧ b.toNat ≤ 90 then b.toNat + 32 else b.toNat := by
  have h := small_num b
  have hb := b.toNat_lt
  split at h <;> split <;> omega
theorem fold_eq (x y : UInt8) : Lib.foldEq x y = decide (smallB x = smallB y) := by
  unfold Lib.foldEq
  apply decide_eq_decide.2
  have e : smallB x = smallB y ↔ (smallB x).toNat = (smallB y).toNat := ⟨fun h => by rw [h], fun h => UInt8.toNat_inj.1 h⟩
  rw [e, small_nat, small_nat]
  split <;> split <;> omega
theorem fold_small : ∀ a b : List UInt8, Lib.equalFold a b = decide (smallL a = smallL b)
  | [], [] => rfl
  | [], c :: r => by simp [Lib.equalFold, smallL]
  | c :: r, [] => by simp [Lib.equalFold, smallL]
  | c :: r, d :: q => by
    have ih := fold_small r q
    rw [Bool.eq_iff_iff]
    simp only [Lib.equalFold, fold_eq, ih, smallL, List.map_cons, List.cons.injEq, Bool.and_eq_true, decide_eq_true_eq]
    exact ⟨fun h => ⟨h.1, of_decide_eq_true h.2⟩, fun h => ⟨h.1, decide_eq_true h.2⟩⟩
theorem small_dot (c : UInt8) : smallB c = 46 ↔ c = 46 := by
  have e : ∀ z : UInt8, z = 46 ↔ z.toNat = 46 := fun z => ⟨fun e => by rw [e]; rfl, fun e => UInt8.toNat_inj.1 (by rw [e]; rfl)⟩
  rw [e, e, small_nat]
  split <;> omega
theorem small_labs : ∀ (l acc : List UInt8), labsG (smallL acc) (smallL l) = (labsG acc l).map smallL
  | [], acc => by simp [labsG, smallL]
  | c :: r, acc => by
    show labsG (smallL acc) (smallB c :: smallL r) = _
    rw [labsG, labsG]
    by_cases hc : c = 46
    · rw [if_pos hc, if_pos ((small_dot c).2 hc), List.map_cons, ← small_labs r []]; rfl
    · rw [if_neg hc, if_neg (fun h => hc ((small_dot c).1 h)), ← small_labs r (acc ++ [c])]
      congr 1
      simp [smallL]
theorem labs_inj {a b : List UInt8} (h : labs a = labs b) : a = b := by rw [← join_labs a, ← join_labs b, h]
theorem smallH_len (l : List UInt8) : (smallL l).length = l.length := by simp [smallL]

theorem fold_tail {p s : List UInt8} (hw : wildL p = true) : Lib.equalFold (behL p) (behL s) = decide ((labs (smallL p)).length = (labs (smallL s)).length ∧ (labs (smallL p)).drop 1 = (labs (smallL s)).drop 1) := by
  obtain ⟨r, rfl, hr, hb, _, _⟩ := wild_split hw
  rw [hb, fold_small]
  apply decide_eq_decide.2
  have e1 : labs (smallL (42 :: 46 :: r)) = (labs (42 :: 46 :: r)).map smallL := small_labs _ []
  have e2 : labs (smallL s) = (labs s).map smallL := small_labs _ []
  have e3 : labs (42 :: 46 :: r) = [42] :: labs r := rfl
  have e4 := labs_cut s
  have e5 : (labs r).map smallL = labs (smallL r) := (small_labs r []).symm
  rw [e1, e2, e3]
  by_cases hc : (cutD 46 s).2.2 = true
  · rw [if_pos hc] at e4
    have e6 : labs (cutD 46 s).2.1 = labs (behL s) := rfl
    have e7 : (labs (behL s)).map smallL = labs (smallL (behL s)) := (small_labs _ []).symm
    rw [e4, e6, List.map_cons, List.map_cons, List.drop_succ_cons, List.drop_succ_cons, List.drop_zero, List.drop_zero, e5, e7, List.length_cons, List.length_cons]
    constructor
    · intro h; rw [h]; exact ⟨rfl, rfl⟩
    · intro h; exact labs_inj h.2
  · rw [if_neg hc] at e4
    have e6 : behL s = [] := cutD_no 46 s (by simpa using hc)
    rw [e4, e6, List.map_cons, e5]
    constructor
    · intro h
      exfalso
      have := congrArg List.length h
      rw [smallH_len, smallH_len] at this
      exact dns_ne hr (List.length_eq_zero_iff.1 this)
    · intro h
      exfalso
      have h1 := h.1
      simp at h1
      exact labsG_ne _ _ h1

end Go.Proofs.YtklchpdpooikdaaGreatDoor

namespace Go.Proofs.YtklchpdpooikdaaGreatDoor
open Go.RowKit Go.IntWalk

def appOfH (ats : Array TypeId) (ty : TypeId) (args : Array Value) : Sem Value := Builtin.append_ ats ty args
theorem appOfH_of (ats : Array TypeId) (ty : TypeId) (args : Array Value) : Builtin.append_ ats ty args = appOfH ats ty args := rfl
attribute [local go_sem ↓] appOfH_of

theorem app_byteH {W : World} {base : Nat} {v : Value} {acc : List UInt8} (h : OwnB W base v (nums acc)) (N : UInt8) (hl : acc.length + 1 ≤ 140737488355328) (hbase : base ≤ W.heap.size) :
    ∃ g c w2, (appOfH #[64, 64] 64 #[v, .slice (some ⟨W.heap.size, 0, none⟩) 1 1]).run Tryz.prog (W.alloc (.cells #[.int .u8 N.toNat] 5)) = .ok (.slice (some ⟨g, 0, none⟩) (acc.length + 1) c) w2 ∧
      OwnB w2 base (.slice (some ⟨g, 0, none⟩) (acc.length + 1) c) (nums (acc ++ [N])) ∧ (W.alloc (.cells #[.int .u8 N.toNat] 5)).grownBy w2 v.ownBlock := by
  have hN := N.toNat_lt
  have hs : Src (W.alloc (.cells #[.int .u8 N.toNat] 5)) (some ⟨W.heap.size, 0, none⟩) 1 1 [(N.toNat : Int)] := Src.litAt [(N.toNat : Int)] _ 1 _ rfl rfl (by intro x hx; simp at hx; subst hx; omega) (by decide) rfl
  obtain ⟨g, c', w', h1, h2, _, _, _, _, h3⟩ := run_appN (W.alloc (.cells #[.int .u8 N.toNat] 5)) 64 base v (nums acc) (h.alloc _) _ 1 1 [(N.toNat : Int)] hs (acc.length + 1) (by simp [nums]) (.inr (by simp)) hl (by simp; omega)
  exact ⟨g, c', w', h1, by rw [nums_append]; exact h2, h3⟩





set_option maxRecDepth 100000 in
set_option maxHeartbeats 4000000 in
theorem refSmall_any (s : ByteArray) (hs : s.size ≤ 1048576) (w : World) :
    Calls Tryz.prog 63 #[.string s] w fun e w' => e = .returned (.string (tx (smallL s.data.toList))) ∧ Below w.heap.size w w' := by
  have hSL := sizeH_len s
  go_enter Tryz.func63, Tryz.ntmps63
  go_wp2
  go_loopw [3, 4] (fun b i wr => ∃ (aP : Option Addr) (cP k n : Nat), b = .slice aP n cP ∧ i = .int .i64 k ∧ k ≤ s.size ∧ n = k ∧ Hid (OwnB wr w.heap.size (.slice aP k cP) (nums (smallL (s.data.toList.take k))) ∧ Below w.heap.size w wr)) (fun _ i _ => s.size - (intOf i).toNat)
  case atStart => exact ⟨none, 0, 0, 0, rfl, rfl, Nat.zero_le _, rfl, OwnB.nil _ _, Below.refl _ _⟩
  case round =>
    obtain ⟨aP, cP, k, n, rfl, rfl, hk, hn, HO⟩ := hrel
    subst hn
    have hlen : (smallL (s.data.toList.take n)).length = n := by unfold smallL; rw [List.length_map, List.length_take, hSL]; omega
    by_cases hlt : n < s.size
    · have ltI : (n : Int) < (s.size : Int) := by omega
      have hl : n < s.data.toList.length := by rw [hSL]; exact hlt
      have hsm := small_num (s.data.toList[n]'hl)
      have ho : OwnB wr w.heap.size (.slice aP n cP) (nums (smallL (s.data.toList.take n))) := HO.out.1
      obtain ⟨g4, c4, w4, hrun, ho4, hg4⟩ := app_byteH ho (smallB (s.data.toList[n]'hl)) (by rw [hlen]; omega) HO.out.2.size
      rw [hlen] at hrun ho4
      have e1 : smallL (s.data.toList.take n) ++ [smallB (s.data.toList[n]'hl)] = smallL (s.data.toList.take (n + 1)) := by
        unfold smallL
        rw [List.take_succ_eq_append_getElem hl, List.map_append]
        rfl
      rw [e1] at ho4
      have H4 : Hid (OwnB w4 w.heap.size (.slice (some ⟨g4, 0, none⟩) (n + 1) c4) (nums (smallL (s.data.toList.take (n + 1)))) ∧ Below w.heap.size w w4) :=
        ⟨ho4, (HO.out.2.alloc HO.out.2.size _).grown hg4 (by have := HO.out.2.size; simp; omega) (fun j hj => (HO.out.1.lt j hj).1)⟩
      rw [hsm, getH_list s n hlt] at hrun
      have hX := (s[n]'hlt).toNat_lt
      clear hsm ho ho4 e1 hlen hg4
      by_cases hgr : (65 : Int) ≤ ((s[n]'hlt).toNat : Int) ∧ ((s[n]'hlt).toNat : Int) ≤ 90
      · rw [if_pos hgr] at hrun
        have q1 := hgr.1
        have q2 := hgr.2
        clear hgr
        go_wp2
        go_roundw
        case rel => exact ⟨_, _, n + 1, n + 1, by simp, by simp, by omega, rfl, H4⟩
        case measure => simp [intOf]; omega
      · rw [if_neg hgr] at hrun
        by_cases q1 : (65 : Int) ≤ ((s[n]'hlt).toNat : Int)
        · have q2 : ¬ ((s[n]'hlt).toNat : Int) ≤ 90 := fun h => hgr ⟨q1, h⟩
          clear hgr
          go_wp2
          go_roundw
          case rel => exact ⟨_, _, n + 1, n + 1, by simp, by simp, by omega, rfl, H4⟩
          case measure => simp [intOf]; omega
        · clear hgr
          go_wp2
          go_roundw
          case rel => exact ⟨_, _, n + 1, n + 1, by simp, by simp, by omega, rfl, H4⟩
          case measure => simp [intOf]; omega
    · obtain rfl : n = s.size := by omega
      have ltI : ¬ (s.size : Int) < (s.size : Int) := by omega
      have hall : s.data.toList.take s.size = s.data.toList := List.take_of_length_le (by omega)
      have ho := HO.out.1
      rw [hall] at ho
      have ht := (ho.toSrc (nums_bytes _)).text
      rw [nums_text] at ht
      clear ho
      go_wp2
      go_ret
      exact ⟨rfl, HO.out.2⟩

end Go.Proofs.YtklchpdpooikdaaGreatDoor
