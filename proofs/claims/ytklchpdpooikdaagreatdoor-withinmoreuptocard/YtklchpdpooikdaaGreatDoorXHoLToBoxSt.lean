/-
  host.Labels, and the function that it answers: it goes over the pieces of a text between its dots.
  The document's host: letters, digits, labels, host's names.
  The document's host: Labels as a row of texts.
  The memory of a function that ranges over a function: its variables' boxes, the marks for the rounds' deferred calls, the loop's record; how they move. No function of the program.
-/
import Derived.Test.YtklchpdpooikdaaGreatDoorXHoB
import Derived.Test.YtklchpdpooikdaaGreatDoorXNmEncNToTxR1
import Derived.RangeFuncNested
import Derived.RangeFuncBound
import Derived.RangeFuncCalls
import Derived.RangeFuncLeaves
import Derived.RangeFuncBox
import Derived.Shelf.Abstract
import Derived.Shelf.RegionOpen
import Derived.WalkKit
import Derived.OwnWalkIn
import Derived.Test.YtklchpdpooikdaaGreatDoorXOSizeToRangeP
import Derived.Test.YtklchpdpooikdaaGreatDoorXItsToNextS
namespace Go.Proofs.YtklchpdpooikdaaGreatDoor
open Go.RowKit Go.Shelf Go.IntWalk
attribute [local go_sem] Oper.semAt_some

theorem labels_in (n : Nat) (s : ByteArray) (w : World) :
    CallsIn Fence.wide n Tryz.prog 64 #[.string s] w fun e w' => e = .returned (.func (.func 96) #[] #[.pointer (some ⟨w.heap.size, 0, none⟩)]) ∧ w' = w.alloc (.cells #[.string s] 9) := by
  refine callsIn_of_wp Tryz.func64 rfl trivial ?_ rfl
  simp only [Tryz.ntmps64, List.size_toArray, List.length_cons, List.length_nil, Nat.reduceAdd, Nat.reduceSub, Array.replicate_succ, Array.replicate_zero, List.push_toArray, List.append_toArray, List.nil_append, List.cons_append]
  gi_wp2
  go_ret
  exact ⟨rfl, rfl⟩

theorem cloneH_any (s : ByteArray) (hs : s.size ≤ 140737488355328) (w : World) :
    Calls Tryz.prog 97 #[.string s] w fun e w' => e = .returned (.string s) ∧ Below w.heap.size w w' := by
  have hC := hide (fun W => Tryz.stringslite_Clone s W (by omega))
  go_enter Tryz.func97, Tryz.ntmps97
  go_wp2_with (go_at_call 134; refine (hC.out _).mono ?_; rintro e w2 ⟨rfl, h2⟩)
  go_ret
  exact ⟨rfl, h2⟩

/-- A row of bytes as a text. -/
def tx (l : List UInt8) : ByteArray := ⟨l.toArray⟩
theorem tx_list (l : List UInt8) : (tx l).data.toList = l := rfl
theorem tx_size (l : List UInt8) : (tx l).size = l.length := rfl
theorem tx_of (s : ByteArray) : tx s.data.toList = s := rfl

/-- The library's variable is laid. -/
def ML (w : World) (m : Int) : Prop := w.cell? ⟨5, 0, none⟩ = some (.int .i64 m)
theorem ML.below {w w' : World} {m : Int} (h : ML w m) (hb : Below w.heap.size w w') : ML w' m := (hb.cell (lt_of_cell h)).trans h

/-- strings.Cut at one byte. -/
theorem cut_any (l : List UInt8) (d : UInt8) (hs : l.length ≤ 1048576) (m : Int) (w : World) (hm : ML w m) :
    Calls Tryz.prog 82 #[.string (tx l), .string ⟨#[d]⟩] w fun e w' => e = .returned (.tuple #[.string (tx (cutD d l).1), .string (tx (cutD d l).2.1), .bool (cutD d l).2.2]) ∧ Below w.heap.size w w' := by
  refine (Tryz.strings_Cut (tx l) ⟨#[d]⟩ m w (by rw [tx_size]; omega) hm).mono ?_
  rintro e w' ⟨rfl, q, rfl⟩
  refine ⟨?_, ⟨rfl, rfl, rfl, Nat.le_refl _, fun _ _ => rfl⟩⟩
  have e1 : (⟨#[d]⟩ : ByteArray).data.toList = [d] := rfl
  rw [e1, tx_list, cut_one]
  rfl

/-- How much is left to go over. -/
def labM : Value → Value → Nat
  | .string s, .bool true => s.size + 1
  | _, _ => 0

set_option maxRecDepth 100000 in
set_option maxHeartbeats 4000000 in
theorem labels1_in (n : Nat) (hn : 1 ≤ n) (l Bs : Nat) (s : List UInt8) (hs : s.length ≤ 1048576) (m : Int) (J : List (List UInt8) → World → Prop) (Jx : World → Prop) (W : World)
    (hH : ∀ ws W1, J ws W1 → ML W1 m) (hB0 : W.cell? ⟨Bs, 0, none⟩ = some (.string (tx s))) (hK : ∀ ws W1 W2, J ws W1 → Below W1.heap.size W1 W2 → J ws W2)
    (hY : ∀ (u : List UInt8) (ws : List (List UInt8)) W1, J (u :: ws) W1 → u.length ≤ s.length → YieldAt Fence.wide (n - 1) Tryz.prog l #[.string (tx u)] W1 fun e W' =>
      (e = .returned (.bool true) ∧ J ws W') ∨ (e = .returned (.bool false) ∧ Jx W'))
    (h0 : J (labs s) W) :
    CallsIn Fence.wide n Tryz.prog 96 #[.func (.yield l) #[] #[], .pointer (some ⟨Bs, 0, none⟩)] W fun e W' => (∃ v, e = .returned v) ∧ (J [] W' ∨ Jx W') := by
  refine callsIn_of_wp Tryz.func96 rfl trivial ?_ rfl
  simp only [Tryz.ntmps96, List.size_toArray, List.length_cons, List.length_nil, Nat.reduceAdd, Nat.reduceSub, Array.replicate_succ, Array.replicate_zero, List.push_toArray, List.append_toArray, List.nil_append, List.cons_append]
  gi_wp2_with fail
  gi_loopw [3, 4] (fun rest more wr => ∃ (ys : List UInt8) (b : Bool), rest = .string (tx ys) ∧ more = .bool b ∧ ys.length ≤ s.length ∧ Hid (b = true → J (labs ys) wr) ∧ Hid (b = false → J [] wr)) (fun rest more _ => labM rest more)
  case atStart => exact ⟨s, true, rfl, rfl, Nat.le_refl _, fun _ => h0, fun h => by cases h⟩
  case round =>
    obtain ⟨ys, b, rfl, rfl, hys, hJ, hE⟩ := hrel
    cases b with
    | true =>
      have hJ1 := hide (hJ.out rfl)
      obtain ⟨c1, c2, c3⟩ := cutD_rest 46 ys
      have hcut := hide (cut_any ys 46 (by omega) m wr (hH _ wr hJ1.out))
      have hlab := labs_cut ys
      have hm := hide (fun W1 W2 (h : Below W1.heap.size W1 W2) (h2 : Below wr.heap.size wr W1) => hK _ _ _ (hK _ _ _ hJ1.out h2) h)
      rw [hlab] at hm
      have hcl := hide (fun W => cloneH_any (tx (cutD 46 ys).1) (by rw [tx_size]; omega) W)
      have HY := hide (fun W1 (h : J ((cutD 46 ys).1 :: (if (cutD 46 ys).2.2 = true then labs (cutD 46 ys).2.1 else [])) W1) => hY _ _ W1 h (by omega))
      have hsz := hide (tx_size ys)
      have hsz2 := hide (tx_size (cutD 46 ys).2.1)
      have hc3 := hide c3
      have hle : (cutD 46 ys).2.1.length ≤ s.length := by omega
      clear c1 c2 c3 hY hJ hE hlab
      generalize (cutD 46 ys).1 = A at hcut HY hm hcl
      generalize (cutD 46 ys).2.1 = R at hcut HY hsz2 hc3 hle hm
      generalize (cutD 46 ys).2.2 = fd at hcut HY hc3 hm
      gi_wp2_with (first | (refine ⟨trivial, ?_⟩; gi_at_call 82; refine (callsIn_wide.2 hcut.out).mono ?_; rintro e w1 ⟨rfl, D1⟩) | (refine ⟨trivial, ?_⟩; gi_at_call 97; refine (callsIn_wide.2 (hcl.out _)).mono ?_; rintro e w2 ⟨rfl, D2⟩; obtain ⟨fn, tmps, assign, body, hy, hR⟩ := HY.out w2 (hm.out _ _ D2 D1)))
      refine hR.mono ?_
      rintro e W3 (⟨rfl, hJ3⟩ | ⟨rfl, hx⟩)
      · have h3 := hide hJ3
        have hms : Hid (labM (.string (tx R)) (.bool fd) < labM (.string (tx ys)) (.bool true)) := by
          unfold Hid
          cases fd with
          | true => have := hc3.out rfl; simp only [labM, hsz.out, hsz2.out]; omega
          | false => simp [labM]
        clear hJ3
        gi_wp2
        exact ⟨⟨R, fd, rfl, rfl, hle, fun h => by have := h3.out; rwa [if_pos h] at this, fun h => by have := h3.out; rwa [if_neg (by rw [h]; decide)] at this⟩, hms.out⟩
      · gi_wp2
        refine bodyPost_ret (results_none rfl _ _ _) rfl ?_
        exact ⟨⟨_, rfl⟩, .inr hx⟩
    | false =>
      have hE1 := hide (hE.out rfl)
      clear hE hJ
      gi_wp2
      go_end0
      exact ⟨⟨_, rfl⟩, .inl hE1.out⟩

end Go.Proofs.YtklchpdpooikdaaGreatDoor

namespace Go.Proofs.YtklchpdpooikdaaGreatDoor
open Go.RowKit Go.IntWalk

def ltN (n : Nat) : Bool := decide (97 ≤ n ∧ n ≤ 122) || decide (65 ≤ n ∧ n ≤ 90)
theorem plN_split (n : Nat) : plN n = (ltN n || digN n) := by unfold plN ltN; cases digN n <;> simp [Bool.or_comm]


-- digit: the function; digN: what it answers; decide (48 ≤ b ∧ b ≤ 57): the same written out
set_option maxRecDepth 100000 in
set_option maxHeartbeats 1000000 in
theorem digit_any (b : Nat) (w : World) :
    Calls Tryz.prog 55 #[.int .u8 b] w fun e w' => e = .returned (.bool (digN b)) ∧ w' = w := by
  have hP : Hid (digN b = (decide (48 ≤ b ∧ b ≤ 57))) := rfl
  generalize digN b = R at hP ⊢
  go_enter Tryz.func55, Tryz.ntmps55
  go_wp2
  all_goals go_ret
  all_goals refine ⟨?_, rfl⟩
  all_goals rw [hP.out]
  all_goals show Ending.returned (Value.bool _) = Ending.returned (Value.bool _)
  all_goals congr 1
  all_goals congr 1
  all_goals rw [Bool.eq_iff_iff]
  all_goals simp
  all_goals omega

-- letter: the function; ltN: what it answers; decide (97 ≤ b ∧ b ≤ 122) || decide (65 ≤ b ∧ b ≤ 90): the same written out
set_option maxRecDepth 100000 in
set_option maxHeartbeats 1000000 in
theorem letter_any (b : Nat) (w : World) :
    Calls Tryz.prog 54 #[.int .u8 b] w fun e w' => e = .returned (.bool (ltN b)) ∧ w' = w := by
  have hP : Hid (ltN b = (decide (97 ≤ b ∧ b ≤ 122) || decide (65 ≤ b ∧ b ≤ 90))) := rfl
  generalize ltN b = R at hP ⊢
  go_enter Tryz.func54, Tryz.ntmps54
  go_wp2
  all_goals go_ret
  all_goals refine ⟨?_, rfl⟩
  all_goals rw [hP.out]
  all_goals show Ending.returned (Value.bool _) = Ending.returned (Value.bool _)
  all_goals congr 1
  all_goals congr 1
  all_goals rw [Bool.eq_iff_iff]
  all_goals simp
  all_goals omega

set_option maxRecDepth 100000 in
set_option maxHeartbeats 4000000 in
theorem refIsLabel_any (s : ByteArray) (hs : s.size ≤ 140737488355328) (w : World) :
    Calls Tryz.prog 56 #[.string s] w fun e w' => e = .returned (.bool (labL s.data.toList)) ∧ w' = w := by
  have hsl := sizeH_len s
  by_cases h0 : s.size = 0
  · have hP : Hid (labL s.data.toList = false) := by unfold Hid labL; rw [hsl, h0]; rfl
    have h0I : (s.size : Int) < 1 := by omega
    replace h0 := hide h0
    go_enter Tryz.func56, Tryz.ntmps56
    go_wp2
    go_ret
    exact ⟨by rw [hP.out]; rfl, rfl⟩
  have h0I : ¬ (s.size : Int) < 1 := by omega
  by_cases h1 : s.size ≤ 63
  · have h1I : ¬ (63 : Int) < (s.size : Int) := by omega
    have hR : Hid (labL s.data.toList = allP (labP s.size) 0 s.data.toList) := by unfold Hid labL; rw [hsl, decide_eq_true (by omega), decide_eq_true h1]; rfl
    have HE : Hid (∀ k : Nat, s.size ≤ k → allP (labP s.size) k (s.data.toList.drop k) = true) := fun k hk => by rw [List.drop_eq_nil_of_le (by rw [sizeH_len]; omega)]; rfl
    have HS : Hid (∀ (k : Nat) (hk : k < s.size), allP (labP s.size) k (s.data.toList.drop k) = (labP s.size k (s[k]'hk).toNat && allP (labP s.size) (k + 1) (s.data.toList.drop (k + 1)))) := fun k hk => by
      rw [allP_at _ _ k (by rw [sizeH_len]; exact hk), getH_list s k hk]
    clear hsl
    go_enter Tryz.func56, Tryz.ntmps56
    go_wp2
    go_loop [3] (fun i => ∃ k : Nat, i = .int .i64 k ∧ k ≤ s.size ∧ Hid (allP (labP s.size) 0 s.data.toList = allP (labP s.size) k (s.data.toList.drop k))) (fun i => s.size - (intOf i).toNat)
    case atStart => exact ⟨0, rfl, Nat.zero_le _, rfl⟩
    case round =>
      obtain ⟨k, rfl, hk, hE⟩ := hrel
      by_cases hlt : k < s.size
      · have hltI : (k : Int) < (s.size : Int) := by omega
        have hlt0 := hide (fun W => letter_any (s[k]'hlt).toNat W)
        have hdg := hide (fun W => digit_any (s[k]'hlt).toNat W)
        have hpl : labP s.size k (s[k]'hlt).toNat = ((ltN (s[k]'hlt).toNat || digN (s[k]'hlt).toNat) || (decide ((s[k]'hlt).toNat = 45) && (decide (0 < k) && decide (k + 1 < s.size)))) := by unfold labP; rw [plN_split]
        generalize ltN (s[k]'hlt).toNat = L at hlt0 hpl
        generalize digN (s[k]'hlt).toNat = G at hdg hpl
        cases L with
        | true =>
          have hq : Hid (labP s.size k (s[k]'hlt).toNat = true) := by unfold Hid; rw [hpl]; simp
          clear hpl
          have hF : Hid (allP (labP s.size) 0 s.data.toList = allP (labP s.size) (k + 1) (s.data.toList.drop (k + 1))) := by unfold Hid; rw [hE.out, HS.out k hlt, hq.out, Bool.true_and]
          replace hq := True.intro
          go_wp2_with (first | (go_at_call 54; refine (hlt0.out _).mono ?_; rintro e w1 ⟨rfl, hw1⟩; subst hw1) | (go_at_call 55; refine (hdg.out _).mono ?_; rintro e w2 ⟨rfl, hw2⟩; subst hw2))
          go_round
          case rel => exact ⟨k + 1, by simp, by omega, hF⟩
          case measure => simp [intOf]; omega
        | false =>
          cases G with
          | true =>
            have hq : Hid (labP s.size k (s[k]'hlt).toNat = true) := by unfold Hid; rw [hpl]; simp
            clear hpl
            have hF : Hid (allP (labP s.size) 0 s.data.toList = allP (labP s.size) (k + 1) (s.data.toList.drop (k + 1))) := by unfold Hid; rw [hE.out, HS.out k hlt, hq.out, Bool.true_and]
            replace hq := True.intro
            go_wp2_with (first | (go_at_call 54; refine (hlt0.out _).mono ?_; rintro e w1 ⟨rfl, hw1⟩; subst hw1) | (go_at_call 55; refine (hdg.out _).mono ?_; rintro e w2 ⟨rfl, hw2⟩; subst hw2))
            go_round
            case rel => exact ⟨k + 1, by simp, by omega, hF⟩
            case measure => simp [intOf]; omega
          | false =>
            by_cases h45 : (s[k]'hlt).toNat = 45
            · have h45' : (((s[k]'hlt).toNat : Int) != 45) = false := by simp; omega
              by_cases hk0 : k = 0
              · have hk0' : ((k : Int) == 0) = true := by simp; omega
                have hq : Hid (labP s.size k (s[k]'hlt).toNat = false) := by unfold Hid; rw [hpl, decide_eq_false (show ¬ 0 < k by omega)]; simp
                clear hpl h45 hk0
                have hF : Hid (allP (labP s.size) 0 s.data.toList = false) := by unfold Hid; rw [hE.out, HS.out k hlt, hq.out]; rfl
                replace hq := True.intro
                go_wp2_with (first | (go_at_call 54; refine (hlt0.out _).mono ?_; rintro e w1 ⟨rfl, hw1⟩; subst hw1) | (go_at_call 55; refine (hdg.out _).mono ?_; rintro e w2 ⟨rfl, hw2⟩; subst hw2))
                go_ret
                exact ⟨by rw [hR.out, hF.out]; rfl, rfl⟩
              · have hk0' : ((k : Int) == 0) = false := by simp; omega
                by_cases hk1 : k + 1 = s.size
                · have hk1' : ((k : Int) == (s.size : Int) - 1) = true := by simp; omega
                  have hq : Hid (labP s.size k (s[k]'hlt).toNat = false) := by unfold Hid; rw [hpl, decide_eq_false (show ¬ k + 1 < s.size by omega)]; simp
                  clear hpl h45 hk0
                  replace hk1 := hide hk1
                  have hF : Hid (allP (labP s.size) 0 s.data.toList = false) := by unfold Hid; rw [hE.out, HS.out k hlt, hq.out]; rfl
                  replace hq := True.intro
                  go_wp2_with (first | (go_at_call 54; refine (hlt0.out _).mono ?_; rintro e w1 ⟨rfl, hw1⟩; subst hw1) | (go_at_call 55; refine (hdg.out _).mono ?_; rintro e w2 ⟨rfl, hw2⟩; subst hw2))
                  go_ret
                  exact ⟨by rw [hR.out, hF.out]; rfl, rfl⟩
                · have hk1' : ((k : Int) == (s.size : Int) - 1) = false := by simp; omega
                  have hq : Hid (labP s.size k (s[k]'hlt).toNat = true) := by unfold Hid; rw [hpl, decide_eq_true (show k + 1 < s.size by omega), decide_eq_true (show 0 < k by omega), decide_eq_true h45]; rfl
                  clear hpl h45 hk0 hk1
                  have hF : Hid (allP (labP s.size) 0 s.data.toList = allP (labP s.size) (k + 1) (s.data.toList.drop (k + 1))) := by unfold Hid; rw [hE.out, HS.out k hlt, hq.out, Bool.true_and]
                  replace hq := True.intro
                  go_wp2_with (first | (go_at_call 54; refine (hlt0.out _).mono ?_; rintro e w1 ⟨rfl, hw1⟩; subst hw1) | (go_at_call 55; refine (hdg.out _).mono ?_; rintro e w2 ⟨rfl, hw2⟩; subst hw2))
                  go_round
                  case rel => exact ⟨k + 1, by simp, by omega, hF⟩
                  case measure => simp [intOf]; omega
            · have h45' : (((s[k]'hlt).toNat : Int) != 45) = true := by simp; omega
              have hq : Hid (labP s.size k (s[k]'hlt).toNat = false) := by unfold Hid; rw [hpl, decide_eq_false h45]; rfl
              clear hpl h45
              have hF : Hid (allP (labP s.size) 0 s.data.toList = false) := by unfold Hid; rw [hE.out, HS.out k hlt, hq.out]; rfl
              replace hq := True.intro
              go_wp2_with (first | (go_at_call 54; refine (hlt0.out _).mono ?_; rintro e w1 ⟨rfl, hw1⟩; subst hw1) | (go_at_call 55; refine (hdg.out _).mono ?_; rintro e w2 ⟨rfl, hw2⟩; subst hw2))
              go_ret
              exact ⟨by rw [hR.out, hF.out]; rfl, rfl⟩
      · have hltI : ¬ (k : Int) < (s.size : Int) := by omega
        have hF : Hid (allP (labP s.size) 0 s.data.toList = true) := by unfold Hid; rw [hE.out, HE.out k (by omega)]
        go_wp2
        go_ret
        exact ⟨by rw [hR.out, hF.out]; rfl, rfl⟩
  · have h1I : (63 : Int) < (s.size : Int) := by omega
    have hP : Hid (labL s.data.toList = false) := by unfold Hid labL; rw [hsl, decide_eq_false h1, Bool.false_and, Bool.and_false]
    go_enter Tryz.func56, Tryz.ntmps56
    go_wp2
    go_ret
    exact ⟨by rw [hP.out]; rfl, rfl⟩

end Go.Proofs.YtklchpdpooikdaaGreatDoor

namespace Go.Proofs.YtklchpdpooikdaaGreatDoor
open Go.RowKit Go.IntWalk

/-- Rows of bytes as texts. -/
def txs (ws : List (List UInt8)) : List ByteArray := ws.map tx
theorem txs_more (ws : List (List UInt8)) (u : List UInt8) : txs (ws ++ [u]) = txs ws ++ [tx u] := by simp [txs]
theorem txs_len (ws : List (List UInt8)) : (txs ws).length = ws.length := by simp [txs]

def cutH (l : List UInt8) (a b : Nat) : List UInt8 := (l.take b).drop a
theorem cutH_len (l : List UInt8) (a b : Nat) (hb : b ≤ l.length) : (cutH l a b).length = b - a := by unfold cutH; rw [List.length_drop, List.length_take]; omega
theorem cutH_more (l : List UInt8) (a k : Nat) (h : a ≤ k) (hk : k < l.length) : cutH l a (k + 1) = cutH l a k ++ [l[k]'hk] := by
  unfold cutH
  rw [List.take_succ_eq_append_getElem hk, List.drop_append_of_le_length (by rw [List.length_take]; omega)]
theorem cut_textH (s : ByteArray) (a b : Nat) : s.extract a b = tx (cutH s.data.toList a b) := by
  apply ByteArray.ext
  rw [ByteArray.data_extract]
  apply Array.ext'
  rw [Array.toList_extract]
  unfold cutH tx
  rw [List.drop_take]

/-- What has been told of the labels, and what is left. -/
def LRel (l : List UInt8) (ws : List (List UInt8)) (a k : Nat) : Prop := labs l = ws ++ labsG (cutH l a k) (l.drop k)
theorem lrel_start (l : List UInt8) : LRel l [] 0 0 := by unfold LRel labs cutH; simp
theorem lrel_dot (l : List UInt8) (ws : List (List UInt8)) (a k : Nat) (h : LRel l ws a k) (hk : k < l.length) (hd : l[k]'hk = 46) : LRel l (ws ++ [cutH l a k]) (k + 1) (k + 1) := by
  unfold LRel at h ⊢
  rw [h, List.drop_eq_getElem_cons hk, labsG, if_pos hd]
  have e : cutH l (k + 1) (k + 1) = [] := by unfold cutH; simp
  rw [e]
  simp
theorem lrel_byte (l : List UInt8) (ws : List (List UInt8)) (a k : Nat) (h : LRel l ws a k) (hak : a ≤ k) (hk : k < l.length) (hd : l[k]'hk ≠ 46) : LRel l ws a (k + 1) := by
  unfold LRel at h ⊢
  rw [h, List.drop_eq_getElem_cons hk, labsG, if_neg hd, cutH_more l a k hak hk]
theorem lrel_end (l : List UInt8) (ws : List (List UInt8)) (a : Nat) (h : LRel l ws a l.length) : labs l = ws ++ [cutH l a l.length] := by
  unfold LRel at h
  rw [h, List.drop_length, labsG]

set_option maxRecDepth 100000 in
set_option maxHeartbeats 2000000 in
theorem refLabels_any (s : ByteArray) (hs : s.size ≤ 1048576) (w : World) :
    Calls Tryz.prog 41 #[.string s] w fun e w' => ∃ ao c, e = .returned (.slice ao (labs s.data.toList).length c) ∧ OwnS w' w.heap.size (.slice ao (labs s.data.toList).length c) (txs (labs s.data.toList)) ∧ Below w.heap.size w w' := by
  have hSL := sizeH_len s
  go_enter Tryz.func41, Tryz.ntmps41
  go_wp2
  go_loopw [3, 4, 5] (fun l f i wr => ∃ (ws : List (List UInt8)) (ao : Option Addr) (c a k : Nat), l = .slice ao ws.length c ∧ f = .int .i64 a ∧ i = .int .i64 k ∧ a ≤ k ∧ k ≤ s.size ∧ ws.length ≤ k ∧ Hid (OwnS wr w.heap.size (.slice ao ws.length c) (txs ws) ∧ Below w.heap.size w wr) ∧ Hid (LRel s.data.toList ws a k)) (fun _ _ i _ => s.size - (intOf i).toNat)
  case atStart => exact ⟨[], none, 0, 0, 0, rfl, rfl, rfl, Nat.le_refl _, Nat.zero_le _, Nat.le_refl _, ⟨OwnS.nil _ _, Below.refl _ _⟩, lrel_start _⟩
  case round =>
    obtain ⟨ws, ao, c, a, k, rfl, rfl, rfl, hak, hk, hwk, HO, HW⟩ := hrel
    have htl := hide (txs_len ws)
    by_cases hlt : k < s.size
    · have ltI : (k : Int) < (s.size : Int) := by omega
      have hl : k < s.data.toList.length := by rw [sizeH_len]; exact hlt
      by_cases hd : (s[k]'hlt) = 46
      · have hd' : ((s[k]'hlt).toNat : Int) = 46 := by rw [hd]; rfl
        have hn := hide (lrel_dot s.data.toList ws a k HW.out hl (by rw [getH_list s k hlt]; exact hd))
        have sl : ∀ X, (Instr.slice 9 (.string s) (some (.int .i64 (a : Int))) (some (.int .i64 (k : Int))) none).run Tryz.prog X = .ok (.string (tx (cutH s.data.toList a k))) X := fun X => by
          have h := run_slice_string (P := Tryz.prog) (w := X) 9 s .i64 .i64 (a : Int) (k : Int) Tryz.underlying9 (by omega) (by omega) (by omega)
          rw [h, ← cut_textH]; simp
        generalize cutH s.data.toList a k = u at hn sl
        clear hd hl HW
        go_wp2_with (at_builtin; refine wpList_appS _ rfl (.tmp 16) (.tmp 21) rfl w.heap.size _ (txs ws) rfl (HO.out.1.alloc _) wr.heap.size (tx u) rfl (by simp) (ws.length + 1) (by rw [htl.out]) (by omega) (by have := HO.out.2.size; simp; omega) ?_; intro g c' w1 o1 bg lg hc1 hm1 gr1)
        have HO1 : Hid (OwnS w1 w.heap.size (.slice (some ⟨g, 0, none⟩) (ws ++ [u]).length c') (txs (ws ++ [u])) ∧ Below w.heap.size w w1) := by
          unfold Hid
          rw [txs_more]
          have e : (ws ++ [u]).length = ws.length + 1 := by simp
          rw [e]
          exact ⟨o1, (HO.out.2.alloc HO.out.2.size _).grown gr1 (by have := HO.out.2.size; simp; omega) (fun j hj => (HO.out.1.lt j hj).1)⟩
        go_roundw
        case rel => exact ⟨ws ++ [u], some ⟨g, 0, none⟩, c', k + 1, k + 1, by simp, by simp, by simp, Nat.le_refl _, by omega, by simp; omega, HO1, hn⟩
        case measure => simp [intOf] <;> omega
      · have hd' : (((s[k]'hlt).toNat : Int) == 46) = false := by
          rw [beq_eq_false_iff_ne]
          intro e
          apply hd
          apply UInt8.toNat_inj.1
          show (s[k]'hlt).toNat = 46
          omega
        have hn := hide (lrel_byte s.data.toList ws a k HW.out hak hl (by rw [getH_list s k hlt]; exact hd))
        clear hd hl HW
        go_wp2
        go_roundw
        case rel => exact ⟨ws, ao, c, a, k + 1, rfl, rfl, by simp, by omega, by omega, by omega, HO, hn⟩
        case measure => simp [intOf] <;> omega
    · obtain rfl : k = s.size := by omega
      have ltI : ¬ (s.size : Int) < (s.size : Int) := by omega
      have hr := HW.out
      rw [← hSL] at hr
      have he := hide (lrel_end s.data.toList ws a hr)
      clear hr
      have sl : ∀ X, (Instr.slice 9 (.string s) (some (.int .i64 (a : Int))) none none).run Tryz.prog X = .ok (.string (tx (cutH s.data.toList a s.data.toList.length))) X := fun X => by
        have h := run_slice_string_from_if (P := Tryz.prog) (w := X) 9 s .i64 (a : Int) Tryz.underlying9
        rw [h, if_pos (by omega), ← cut_textH, hSL]; simp
      generalize cutH s.data.toList a s.data.toList.length = u at he sl
      go_wp2_with (at_builtin; refine wpList_appS _ rfl (.tmp 25) (.tmp 29) rfl w.heap.size _ (txs ws) rfl (HO.out.1.alloc _) wr.heap.size (tx u) rfl (by simp) (ws.length + 1) (by rw [htl.out]) (by omega) (by have := HO.out.2.size; simp; omega) ?_; intro g c' w1 o1 bg lg hc1 hm1 gr1)
      go_ret
      have e : (labs s.data.toList).length = ws.length + 1 := by rw [he.out]; simp
      refine ⟨some ⟨g, 0, none⟩, c', by rw [e]; rfl, ?_, (HO.out.2.alloc HO.out.2.size _).grown gr1 (by have := HO.out.2.size; simp; omega) (fun j hj => (HO.out.1.lt j hj).1)⟩
      rw [e, he.out, txs_more]
      exact o1

end Go.Proofs.YtklchpdpooikdaaGreatDoor

namespace Go.Proofs.YtklchpdpooikdaaGreatDoor
open Go.RowKit Go.Shelf Go.IntWalk

/-- Boxes laid since w, marks laid since w; what lay in w lies as it lay. -/
structure BSt (w : World) (bx : List (Nat × TypeId × Value)) (ds : List Nat) (W : World) : Prop where
  box : ∀ (i : Nat) x, bx[i]? = some x → w.heap.size ≤ x.1 ∧ Boxed W x.1 x.2.1 x.2.2
  nd : ∀ (i j : Nat) x y, bx[i]? = some x → bx[j]? = some y → x.1 = y.1 → i = j
  dfr : ∀ D ∈ ds, w.heap.size ≤ D ∧ W.heap[D]? = some (.deferred (some []))
  bel : Below w.heap.size w W

theorem BSt.start (w : World) : BSt w [] [] w := ⟨fun _ _ h => by simp at h, fun _ _ _ _ h => by simp at h, fun _ h => by simp at h, Below.refl _ _⟩

theorem BSt.get {w W : World} {bx : List (Nat × TypeId × Value)} {ds : List Nat} (h : BSt w bx ds W) (i : Nat) {b : Nat} {t : TypeId} {v : Value} (hi : bx[i]? = some (b, t, v)) : Boxed W b t v := (h.box i _ hi).2

theorem BSt.new {w W : World} {bx : List (Nat × TypeId × Value)} {ds : List Nat} (h : BSt w bx ds W) (t : TypeId) (v : Value) : BSt w (bx ++ [(W.heap.size, t, v)]) ds (W.alloc (.cells #[v] t)) := by
  have hz := h.bel.size
  refine ⟨fun i x hx => ?_, fun i j x y hx hy he => ?_, fun D hD => ?_, h.bel.alloc hz _⟩
  · rw [List.getElem?_append] at hx
    split at hx
    · have := h.box i x hx; exact ⟨this.1, this.2.alloc _⟩
    · have e : x = (W.heap.size, t, v) := by
        cases hd : i - bx.length with
        | zero => rw [hd] at hx; simpa using hx.symm
        | succ k => rw [hd] at hx; simp at hx
      subst e
      exact ⟨hz, Boxed.new W t v⟩
  · have key : ∀ (i : Nat) x, (bx ++ [(W.heap.size, t, v)])[i]? = some x → (i < bx.length ∧ bx[i]? = some x ∧ x.1 < W.heap.size) ∨ (i = bx.length ∧ x.1 = W.heap.size) := by
      intro i x hx
      rw [List.getElem?_append] at hx
      split at hx
      · rename_i hl; exact .inl ⟨hl, hx, (h.box i x hx).2.lt⟩
      · rename_i hl
        cases hd : i - bx.length with
        | zero => rw [hd] at hx; simp at hx; subst hx; exact .inr ⟨by omega, rfl⟩
        | succ k => rw [hd] at hx; simp at hx
    rcases key i x hx with ⟨_, a2, a3⟩ | ⟨a1, a2⟩ <;> rcases key j y hy with ⟨_, b2, b3⟩ | ⟨b1, b2⟩
    · exact h.nd i j x y a2 b2 he
    · omega
    · omega
    · omega
  · have := h.dfr D hD
    exact ⟨this.1, (Below.heap_alloc W _ D (Array.getElem?_eq_some_iff.1 this.2).1).trans this.2⟩

theorem BSt.below {w W W' : World} {bx : List (Nat × TypeId × Value)} {ds : List Nat} (h : BSt w bx ds W) (hb : Below W.heap.size W W') : BSt w bx ds W' :=
  ⟨fun i x hx => ⟨(h.box i x hx).1, (hb.block _ (h.box i x hx).2.lt).trans (h.box i x hx).2⟩, h.nd, fun D hD => ⟨(h.dfr D hD).1, (hb.block _ (Array.getElem?_eq_some_iff.1 (h.dfr D hD).2).1).trans (h.dfr D hD).2⟩, h.bel.trans (hb.mono h.bel.size)⟩

theorem BSt.set {w W : World} {bx : List (Nat × TypeId × Value)} {ds : List Nat} (h : BSt w bx ds W) (i : Nat) {b : Nat} {t : TypeId} {v : Value} (hi : bx[i]? = some (b, t, v)) (v' : Value) : BSt w (bx.set i (b, t, v')) ds (W.setCell ⟨b, 0, none⟩ v') := by
  have hb := h.box i _ hi
  have hil : i < bx.length := (List.getElem?_eq_some_iff.1 hi).1
  refine ⟨fun j x hx => ?_, fun j k x y hx hy he => ?_, fun D hD => ?_, h.bel.setCell (p := ⟨b, 0, none⟩) hb.1 _⟩
  · by_cases hj : i = j
    · subst hj
      rw [List.getElem?_set_self hil] at hx
      cases hx
      exact ⟨hb.1, hb.2.set _⟩
    · rw [List.getElem?_set_ne hj] at hx
      have hx2 := h.box j x hx
      refine ⟨hx2.1, ?_⟩
      have hne : x.1 ≠ b := fun e => hj (h.nd j i x _ hx hi e).symm
      exact (Below.heap_setCell W ⟨b, 0, none⟩ v' x.1 hne).trans hx2.2
  · have key : ∀ (j : Nat) x, (bx.set i (b, t, v'))[j]? = some x → ∃ x', bx[j]? = some x' ∧ x'.1 = x.1 := by
      intro j x hx
      by_cases hj : i = j
      · subst hj
        rw [List.getElem?_set_self hil] at hx
        cases hx
        exact ⟨_, hi, rfl⟩
      · rw [List.getElem?_set_ne hj] at hx
        exact ⟨x, hx, rfl⟩
    obtain ⟨x', a1, a2⟩ := key j x hx
    obtain ⟨y', b1, b2⟩ := key k y hy
    exact h.nd j k x' y' a1 b1 (by omega)
  · have := h.dfr D hD
    refine ⟨this.1, (Below.heap_setCell W ⟨b, 0, none⟩ v' D ?_).trans this.2⟩
    rintro rfl
    have e := hb.2.symm.trans this.2
    cases e

theorem BSt.mark {w W : World} {bx : List (Nat × TypeId × Value)} {ds : List Nat} (h : BSt w bx ds W) : BSt w bx (W.heap.size :: ds) (W.alloc (.deferred (some []))) := by
  have hz := h.bel.size
  refine ⟨fun i x hx => ⟨(h.box i x hx).1, (h.box i x hx).2.alloc _⟩, h.nd, fun D hD => ?_, h.bel.alloc hz _⟩
  rcases List.mem_cons.1 hD with rfl | hD
  · exact ⟨hz, World.alloc_heap_new W _⟩
  · exact ⟨(h.dfr D hD).1, (Below.heap_alloc W _ D (Array.getElem?_eq_some_iff.1 (h.dfr D hD).2).1).trans (h.dfr D hD).2⟩

/-- A block that is no cells and no mark is turned. -/
theorem BSt.put {w W : World} {bx : List (Nat × TypeId × Value)} {ds : List Nat} (h : BSt w bx ds W) {l : Nat} {r : Loop} (hl : W.heap[l]? = some (.loop r)) (hlw : w.heap.size ≤ l) (o : Obj) : BSt w bx ds (W.putObj l o) := by
  refine ⟨fun i x hx => ⟨(h.box i x hx).1, ?_⟩, h.nd, fun D hD => ⟨(h.dfr D hD).1, ?_⟩, h.bel.grown (grownBy_putObj' W l o) h.bel.size (by intro k e; cases e; exact hlw)⟩
  · have hx2 := (h.box i x hx).2
    refine (World.putObj_heap_other ?_).trans hx2
    rintro e
    have e2 : W.heap[l]? = some (.cells #[x.2.2] x.2.1 (0, 0)) := by rw [← e]; exact hx2
    rw [hl] at e2; cases e2
  · have hd := (h.dfr D hD).2
    refine (World.putObj_heap_other ?_).trans hd
    rintro e
    rw [e, hl] at hd; cases hd

/-- The same while a loop runs: its record, too. -/
structure LSt (w : World) (bx : List (Nat × TypeId × Value)) (ds : List Nat) (l : Nat) (r : Loop) (W : World) : Prop where
  st : BSt w bx ds W
  loop : W.heap[l]? = some (.loop r)
  ol : w.heap.size ≤ l

theorem LSt.enter {w W : World} {bx : List (Nat × TypeId × Value)} {ds : List Nat} (h : BSt w bx ds W) (r : Loop) : LSt w bx (W.heap.size :: ds) (W.heap.size + 1) r ((W.alloc (.deferred (some []))).alloc (.loop r)) := by
  have h1 := h.mark
  have hz := h.bel.size
  refine ⟨h1.below ((Below.refl _ _).alloc (Nat.le_refl _) _), ?_, by omega⟩
  have := World.alloc_heap_new (W.alloc (.deferred (some []))) (.loop r)
  rwa [World.size_alloc] at this
theorem LSt.below {w W W' : World} {bx : List (Nat × TypeId × Value)} {ds : List Nat} {l : Nat} {r : Loop} (h : LSt w bx ds l r W) (hb : Below W.heap.size W W') : LSt w bx ds l r W' :=
  ⟨h.st.below hb, (hb.block _ (Array.getElem?_eq_some_iff.1 h.loop).1).trans h.loop, h.ol⟩
theorem LSt.put {w W : World} {bx : List (Nat × TypeId × Value)} {ds : List Nat} {l : Nat} {r : Loop} (h : LSt w bx ds l r W) (r' : Loop) : LSt w bx ds l r' (W.putObj l (.loop r')) :=
  ⟨h.st.put h.loop h.ol _, World.putObj_heap_same (Array.getElem?_eq_some_iff.1 h.loop).1, h.ol⟩
theorem LSt.set {w W : World} {bx : List (Nat × TypeId × Value)} {ds : List Nat} {l : Nat} {r : Loop} (h : LSt w bx ds l r W) (i : Nat) {b : Nat} {t : TypeId} {v : Value} (hi : bx[i]? = some (b, t, v)) (v' : Value) : LSt w (bx.set i (b, t, v')) ds l r (W.setCell ⟨b, 0, none⟩ v') := by
  refine ⟨h.st.set i hi v', (Below.heap_setCell W ⟨b, 0, none⟩ v' l ?_).trans h.loop, h.ol⟩
  rintro rfl
  have e := (h.st.get i hi).symm.trans h.loop
  cases e

/-- What stands behind the marks' taking. -/
theorem BSt.take {w W : World} {bx : List (Nat × TypeId × Value)} {D : Nat} {ds : List Nat} (h : BSt w bx (D :: ds) W) (hn : D ∉ ds) : BSt w bx ds (W.putObj D (.deferred none)) := by
  have hD := h.dfr D (by simp)
  refine ⟨fun i x hx => ⟨(h.box i x hx).1, ?_⟩, h.nd, fun E hE => ⟨(h.dfr E (by simp [hE])).1, ?_⟩, h.bel.grown (grownBy_putObj' W D _) h.bel.size (by intro k e; cases e; exact hD.1)⟩
  · have hx2 := (h.box i x hx).2
    refine (World.putObj_heap_other ?_).trans hx2
    rintro e
    have e2 : W.heap[D]? = some (.cells #[x.2.2] x.2.1 (0, 0)) := by rw [← e]; exact hx2
    rw [hD.2] at e2; cases e2
  · have hd := (h.dfr E (by simp [hE])).2
    exact (World.putObj_heap_other (by rintro rfl; exact hn hE)).trans hd

/-- The same where what lies from N on may have turned. -/
theorem LSt.belowN {w W W' : World} {bx : List (Nat × TypeId × Value)} {ds : List Nat} {l N : Nat} {r : Loop} (h : LSt w bx ds l r W) (hb : Below N W W') (hbx : ∀ x ∈ bx, x.1 < N) (hds : ∀ D ∈ ds, D < N) (hl : l < N) (hw : w.heap.size ≤ N) : LSt w bx ds l r W' :=
  ⟨⟨fun i x hx => ⟨(h.st.box i x hx).1, (hb.block _ (hbx x (List.mem_of_getElem? hx))).trans (h.st.box i x hx).2⟩, h.st.nd, fun D hD => ⟨(h.st.dfr D hD).1, (hb.block _ (hds D hD)).trans (h.st.dfr D hD).2⟩, h.st.bel.trans (hb.mono hw)⟩, (hb.block _ hl).trans h.loop, h.ol⟩

end Go.Proofs.YtklchpdpooikdaaGreatDoor
