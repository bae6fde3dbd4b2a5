/-
  host.inDigits, ofDigits, kindOf; the table of words.
  The document's host: letters, digits, labels, host's names.
  The document's host: Labels as a row of texts.
-/
import Derived.Deep.MidRow
import Derived.Test.YthnfhkmonfkceaaGreatDoorYHoNmToHoShM
import Derived.Test.YthnfhkmonfkceaaGreatDoorYNmLentToNmPar
import Derived.Test.YthnfhkmonfkceaaGreatDoorYHoBToHoD
import Derived.Test.YthnfhkmonfkceaaGreatDoorYNmTxtToNmRMay2
namespace Go.Proofs.YthnfhkmonfkceaaGreatDoor
open Go.RowKit Go.IntWalk Go.Shelf

/-- The table of words lies as it was laid. -/
def TabW (w : World) : Prop := ∀ k : Nat, k < 8 → w.cell? ⟨0, k, none⟩ = some (.string (tx (wordK (k : Int))))
theorem TabW.below {w w' : World} (h : TabW w) (hb : Below w.heap.size w w') : TabW w' := fun k hk => (hb.cell (lt_of_cell (h k hk))).trans (h k hk)
/-- What the calls read. -/
def Hw (w : World) (m : Int) : Prop := ML w m ∧ TabN w ∧ TabW w
theorem Hw.below {w w' : World} {m : Int} (h : Hw w m) (hb : Below w.heap.size w w') : Hw w' m := ⟨h.1.below hb, h.2.1.below hb, h.2.2.below hb⟩

def ldW (t : TypeId) (v : Value) : Sem Value := Instr.loadAt t v
theorem ld_word (v : Value) : Instr.loadAt 37 v = ldW 37 v := rfl
attribute [local go_sem ↓] ld_word
def wordV : List Value := [.string (tx []), .string (tx wMail), .string (tx wDns), .string (tx []), .string (tx wName), .string (tx []), .string (tx []), .string (tx wIp)]
theorem wordV_range {w : World} (h : TabW w) : w.rangeAt 0 0 wordV := by
  intro j v hj
  have hjl : j < 8 := (List.getElem?_eq_some_iff.1 hj).1
  have h1 := h j hjl
  rw [Nat.zero_add, h1, ← hj]
  match j, hjl with
  | 0, _ | 1, _ | 2, _ | 3, _ | 4, _ | 5, _ | 6, _ | 7, _ => rfl
theorem word_load {w : World} (h : TabW w) : (ldW 37 (.pointer (some ⟨0, 0, none⟩))).run Tryz.prog w = .ok (.agg wordV.toArray) w :=
  run_loadAt_mid w 0 0 37 wordV _ (wordV_range h) Tryz.underlying37 rfl (by kernel_rfl)
theorem kind_none (l : List UInt8) (h : ∀ j : Nat, j < 8 → wordK (j : Int) ≠ l) : kindU l = 0 := by
  have h1 := h 1 (by omega)
  have h2 := h 2 (by omega)
  have h4 := h 4 (by omega)
  have h7 := h 7 (by omega)
  have e1 : wordK ((1 : Nat) : Int) = wMail := rfl
  have e2 : wordK ((2 : Nat) : Int) = wDns := rfl
  have e4 : wordK ((4 : Nat) : Int) = wName := rfl
  have e7 : wordK ((7 : Nat) : Int) = wIp := rfl
  unfold kindU
  rw [if_neg (fun e => h1 (e1.trans e.symm)), if_neg (fun e => h2 (e2.trans e.symm)), if_neg (fun e => h4 (e4.trans e.symm)), if_neg (fun e => h7 (e7.trans e.symm))]
theorem kind_some (l : List UInt8) (k : Nat) (hk : k < 8) (h : ∀ j : Nat, j < k → wordK (j : Int) ≠ l) (he : wordK (k : Int) = l) : kindU l = (k : Int) := by
  have key : k = 0 ∨ wordK ((0 : Nat) : Int) ≠ l := by
    rcases Nat.eq_zero_or_pos k with h0 | h0
    · exact .inl h0
    · exact .inr (h 0 h0)
  match k, hk with
  | 0, _ => rw [← he]; rfl
  | 1, _ => rw [← he]; rfl
  | 2, _ => rw [← he]; rfl
  | 3, _ => exact absurd he (key.resolve_left (by omega))
  | 4, _ => rw [← he]; rfl
  | 5, _ => exact absurd he (key.resolve_left (by omega))
  | 6, _ => exact absurd he (key.resolve_left (by omega))
  | 7, _ => rw [← he]; rfl

def ixW (v u : Value) : Sem Value := Instr.index 37 v u
theorem ix_word (v u : Value) : Instr.index 37 v u = ixW v u := rfl
attribute [local go_sem ↓] ix_word
theorem wordV_at (k : Nat) (hk : k < 8) : wordV.toArray[k]? = some (.string (tx (wordK (k : Int)))) := by
  match k, hk with
  | 0, _ | 1, _ | 2, _ | 3, _ | 4, _ | 5, _ | 6, _ | 7, _ => rfl
theorem ixW_at (A : Array Value) (hA : A.size = 8) (k : Nat) (hk : k < 8) (v : Value) (hv : A[k]? = some v) (w : World) : (ixW (.agg A) (.int .i64 (k : Int))).run Tryz.prog w = .ok v w := by
  have hs : (sizeOf 9).run Tryz.prog w = .ok 1 w := by kernel_rfl
  have hv2 : A[k]'(by omega) = v := by
    rw [Array.getElem?_eq_getElem (by omega)] at hv
    exact Option.some.inj hv
  unfold ixW Instr.index
  simp only [Sem.run_bind, asIntOf, Sem.run_pure, Result.andThen_ok, run_underlying Tryz.underlying37]
  rw [if_pos (by omega)]
  simp [Sem.run_bind, hs, part, hA, hk, hv2]

set_option maxRecDepth 100000 in
set_option maxHeartbeats 4000000 in
theorem kindOf_any (l : List UInt8) (w : World) (hT : TabW w) :
    Calls Tryz.prog 29 #[.string (tx l)] w fun e w' => e = .returned (.int .i64 (kindU l)) ∧ w' = w := by
  have hld := word_load hT
  have hix := hide (fun (k : Nat) (hk : k < 8) => ixW_at wordV.toArray rfl k hk _ (wordV_at k hk) w)
  clear hT
  generalize wordV.toArray = A at hld hix
  go_enter Tryz.func29, Tryz.ntmps29
  go_wp2
  go_loopw [6] (fun i wr => ∃ k : Nat, i = .int .i64 k ∧ k ≤ 8 ∧ Hid (∀ j : Nat, j < k → wordK (j : Int) ≠ l) ∧ wr = w) (fun i _ => 8 - (intOf i).toNat)
  case atStart => exact ⟨0, rfl, by omega, fun j hj => absurd hj (by omega), rfl⟩
  case round =>
    obtain ⟨k, rfl, hk, hne, rfl⟩ := hrel
    by_cases hlt : k < 8
    · have ltI : (k : Int) < 8 := by omega
      have hx := hix.out k hlt
      have hb : ((tx (wordK (k : Int))).toList == (tx l).toList) = decide (wordK (k : Int) = l) := bs_beq (wordK (k : Int)) (tx l)
      by_cases he : wordK (k : Int) = l
      · have hT : Hid (kindU l = (k : Int)) := kind_some _ k hlt hne.out he
        rw [decide_eq_true he] at hb
        clear he
        go_wp2
        refine bodyPost_ret (v := .int .i64 (k : Int)) (by simp [results, Tryz.results29, go_sem]) rfl ⟨by rw [hT.out], rfl⟩
      · have hne2 : Hid (∀ j : Nat, j < k + 1 → wordK (j : Int) ≠ l) := fun j hj => by
          by_cases h : j < k
          · exact hne.out j h
          · obtain rfl : j = k := by omega
            exact he
        rw [decide_eq_false he] at hb
        clear he
        go_wp2
        go_roundw
        case rel => exact ⟨k + 1, by go_num, by omega, hne2, by trivial⟩
        case measure => simp [intOf]; omega
    · obtain rfl : k = 8 := by omega
      have hT : Hid (kindU l = 0) := kind_none _ hne.out
      go_wp2
      refine bodyPost_ret (v := .int .i64 0) (by simp [results, Tryz.results29, go_sem]) rfl ⟨by rw [hT.out], rfl⟩

end Go.Proofs.YthnfhkmonfkceaaGreatDoor

namespace Go.Proofs.YthnfhkmonfkceaaGreatDoor
open Go.RowKit Go.IntWalk

def ltN (n : Nat) : Bool := decide (97 ≤ n ∧ n ≤ 122) || decide (65 ≤ n ∧ n ≤ 90)
theorem plN_split (n : Nat) : plN n = (ltN n || digN n) := by unfold plN ltN; cases digN n <;> simp [Bool.or_comm]


-- digit: the function; digN: what it answers; decide (48 ≤ b ∧ b ≤ 57): the same written out
set_option maxRecDepth 100000 in
set_option maxHeartbeats 1000000 in
theorem digit_any (b : Nat) (w : World) :
    Calls Tryz.prog 43 #[.int .u8 b] w fun e w' => e = .returned (.bool (digN b)) ∧ w' = w := by
  have hP : Hid (digN b = (decide (48 ≤ b ∧ b ≤ 57))) := rfl
  generalize digN b = R at hP ⊢
  go_enter Tryz.func43, Tryz.ntmps43
  go_wp2
  all_goals go_ret
  all_goals refine ⟨?_, rfl⟩
  all_goals rw [hP.out]
  all_goals show Ending.returned (Value.bool _) = Ending.returned (Value.bool _)
  all_goals congr 1
  all_goals congr 1
  all_goals rw [Bool.eq_iff_iff]
  all_goals simp
  all_goals omega

-- letter: the function; ltN: what it answers; decide (97 ≤ b ∧ b ≤ 122) || decide (65 ≤ b ∧ b ≤ 90): the same written out
set_option maxRecDepth 100000 in
set_option maxHeartbeats 1000000 in
theorem letter_any (b : Nat) (w : World) :
    Calls Tryz.prog 42 #[.int .u8 b] w fun e w' => e = .returned (.bool (ltN b)) ∧ w' = w := by
  have hP : Hid (ltN b = (decide (97 ≤ b ∧ b ≤ 122) || decide (65 ≤ b ∧ b ≤ 90))) := rfl
  generalize ltN b = R at hP ⊢
  go_enter Tryz.func42, Tryz.ntmps42
  go_wp2
  all_goals go_ret
  all_goals refine ⟨?_, rfl⟩
  all_goals rw [hP.out]
  all_goals show Ending.returned (Value.bool _) = Ending.returned (Value.bool _)
  all_goals congr 1
  all_goals congr 1
  all_goals rw [Bool.eq_iff_iff]
  all_goals simp
  all_goals omega

set_option maxRecDepth 100000 in
set_option maxHeartbeats 4000000 in
theorem refIsLabel_any (s : ByteArray) (hs : s.size ≤ 140737488355328) (w : World) :
    Calls Tryz.prog 45 #[.string s] w fun e w' => e = .returned (.bool (labL s.data.toList)) ∧ w' = w := by
  have hsl := sizeH_len s
  by_cases h0 : s.size = 0
  · have hP : Hid (labL s.data.toList = false) := by unfold Hid labL; rw [hsl, h0]; rfl
    have h0I : (s.size : Int) < 1 := by omega
    replace h0 := hide h0
    go_enter Tryz.func45, Tryz.ntmps45
    go_wp2
    go_ret
    exact ⟨by rw [hP.out]; rfl, rfl⟩
  have h0I : ¬ (s.size : Int) < 1 := by omega
  by_cases h1 : s.size ≤ 63
  · have h1I : ¬ (63 : Int) < (s.size : Int) := by omega
    have hR : Hid (labL s.data.toList = allP (labP s.size) 0 s.data.toList) := by unfold Hid labL; rw [hsl, decide_eq_true (by omega), decide_eq_true h1]; rfl
    have HE : Hid (∀ k : Nat, s.size ≤ k → allP (labP s.size) k (s.data.toList.drop k) = true) := fun k hk => by rw [List.drop_eq_nil_of_le (by rw [sizeH_len]; omega)]; rfl
    have HS : Hid (∀ (k : Nat) (hk : k < s.size), allP (labP s.size) k (s.data.toList.drop k) = (labP s.size k (s[k]'hk).toNat && allP (labP s.size) (k + 1) (s.data.toList.drop (k + 1)))) := fun k hk => by
      rw [allP_at _ _ k (by rw [sizeH_len]; exact hk), getH_list s k hk]
    clear hsl
    go_enter Tryz.func45, Tryz.ntmps45
    go_wp2
    go_loop [3] (fun i => ∃ k : Nat, i = .int .i64 k ∧ k ≤ s.size ∧ Hid (allP (labP s.size) 0 s.data.toList = allP (labP s.size) k (s.data.toList.drop k))) (fun i => s.size - (intOf i).toNat)
    case atStart => exact ⟨0, rfl, Nat.zero_le _, rfl⟩
    case round =>
      obtain ⟨k, rfl, hk, hE⟩ := hrel
      by_cases hlt : k < s.size
      · have hltI : (k : Int) < (s.size : Int) := by omega
        have hlt0 := hide (fun W => letter_any (s[k]'hlt).toNat W)
        have hdg := hide (fun W => digit_any (s[k]'hlt).toNat W)
        have hpl : labP s.size k (s[k]'hlt).toNat = ((ltN (s[k]'hlt).toNat || digN (s[k]'hlt).toNat) || (decide ((s[k]'hlt).toNat = 45) && (decide (0 < k) && decide (k + 1 < s.size)))) := by unfold labP; rw [plN_split]
        generalize ltN (s[k]'hlt).toNat = L at hlt0 hpl
        generalize digN (s[k]'hlt).toNat = G at hdg hpl
        cases L with
        | true =>
          have hq : Hid (labP s.size k (s[k]'hlt).toNat = true) := by unfold Hid; rw [hpl]; simp
          clear hpl
          have hF : Hid (allP (labP s.size) 0 s.data.toList = allP (labP s.size) (k + 1) (s.data.toList.drop (k + 1))) := by unfold Hid; rw [hE.out, HS.out k hlt, hq.out, Bool.true_and]
          replace hq := True.intro
          go_wp2_with (first | (go_at_call 42; refine (hlt0.out _).mono ?_; rintro e w1 ⟨rfl, hw1⟩; subst hw1) | (go_at_call 43; refine (hdg.out _).mono ?_; rintro e w2 ⟨rfl, hw2⟩; subst hw2))
          go_round
          case rel => exact ⟨k + 1, by simp, by omega, hF⟩
          case measure => simp [intOf]; omega
        | false =>
          cases G with
          | true =>
            have hq : Hid (labP s.size k (s[k]'hlt).toNat = true) := by unfold Hid; rw [hpl]; simp
            clear hpl
            have hF : Hid (allP (labP s.size) 0 s.data.toList = allP (labP s.size) (k + 1) (s.data.toList.drop (k + 1))) := by unfold Hid; rw [hE.out, HS.out k hlt, hq.out, Bool.true_and]
            replace hq := True.intro
            go_wp2_with (first | (go_at_call 42; refine (hlt0.out _).mono ?_; rintro e w1 ⟨rfl, hw1⟩; subst hw1) | (go_at_call 43; refine (hdg.out _).mono ?_; rintro e w2 ⟨rfl, hw2⟩; subst hw2))
            go_round
            case rel => exact ⟨k + 1, by simp, by omega, hF⟩
            case measure => simp [intOf]; omega
          | false =>
            by_cases h45 : (s[k]'hlt).toNat = 45
            · have h45' : (((s[k]'hlt).toNat : Int) != 45) = false := by simp; omega
              by_cases hk0 : k = 0
              · have hk0' : ((k : Int) == 0) = true := by simp; omega
                have hq : Hid (labP s.size k (s[k]'hlt).toNat = false) := by unfold Hid; rw [hpl, decide_eq_false (show ¬ 0 < k by omega)]; simp
                clear hpl h45 hk0
                have hF : Hid (allP (labP s.size) 0 s.data.toList = false) := by unfold Hid; rw [hE.out, HS.out k hlt, hq.out]; rfl
                replace hq := True.intro
                go_wp2_with (first | (go_at_call 42; refine (hlt0.out _).mono ?_; rintro e w1 ⟨rfl, hw1⟩; subst hw1) | (go_at_call 43; refine (hdg.out _).mono ?_; rintro e w2 ⟨rfl, hw2⟩; subst hw2))
                go_ret
                exact ⟨by rw [hR.out, hF.out]; rfl, rfl⟩
              · have hk0' : ((k : Int) == 0) = false := by simp; omega
                by_cases hk1 : k + 1 = s.size
                · have hk1' : ((k : Int) == (s.size : Int) - 1) = true := by simp; omega
                  have hq : Hid (labP s.size k (s[k]'hlt).toNat = false) := by unfold Hid; rw [hpl, decide_eq_false (show ¬ k + 1 < s.size by omega)]; simp
                  clear hpl h45 hk0
                  replace hk1 := hide hk1
                  have hF : Hid (allP (labP s.size) 0 s.data.toList = false) := by unfold Hid; rw [hE.out, HS.out k hlt, hq.out]; rfl
                  replace hq := True.intro
                  go_wp2_with (first | (go_at_call 42; refine (hlt0.out _).mono ?_; rintro e w1 ⟨rfl, hw1⟩; subst hw1) | (go_at_call 43; refine (hdg.out _).mono ?_; rintro e w2 ⟨rfl, hw2⟩; subst hw2))
                  go_ret
                  exact ⟨by rw [hR.out, hF.out]; rfl, rfl⟩
                · have hk1' : ((k : Int) == (s.size : Int) - 1) = false := by simp; omega
                  have hq : Hid (labP s.size k (s[k]'hlt).toNat = true) := by unfold Hid; rw [hpl, decide_eq_true (show k + 1 < s.size by omega), decide_eq_true (show 0 < k by omega), decide_eq_true h45]; rfl
                  clear hpl h45 hk0 hk1
                  have hF : Hid (allP (labP s.size) 0 s.data.toList = allP (labP s.size) (k + 1) (s.data.toList.drop (k + 1))) := by unfold Hid; rw [hE.out, HS.out k hlt, hq.out, Bool.true_and]
                  replace hq := True.intro
                  go_wp2_with (first | (go_at_call 42; refine (hlt0.out _).mono ?_; rintro e w1 ⟨rfl, hw1⟩; subst hw1) | (go_at_call 43; refine (hdg.out _).mono ?_; rintro e w2 ⟨rfl, hw2⟩; subst hw2))
                  go_round
                  case rel => exact ⟨k + 1, by simp, by omega, hF⟩
                  case measure => simp [intOf]; omega
            · have h45' : (((s[k]'hlt).toNat : Int) != 45) = true := by simp; omega
              have hq : Hid (labP s.size k (s[k]'hlt).toNat = false) := by unfold Hid; rw [hpl, decide_eq_false h45]; rfl
              clear hpl h45
              have hF : Hid (allP (labP s.size) 0 s.data.toList = false) := by unfold Hid; rw [hE.out, HS.out k hlt, hq.out]; rfl
              replace hq := True.intro
              go_wp2_with (first | (go_at_call 42; refine (hlt0.out _).mono ?_; rintro e w1 ⟨rfl, hw1⟩; subst hw1) | (go_at_call 43; refine (hdg.out _).mono ?_; rintro e w2 ⟨rfl, hw2⟩; subst hw2))
              go_ret
              exact ⟨by rw [hR.out, hF.out]; rfl, rfl⟩
      · have hltI : ¬ (k : Int) < (s.size : Int) := by omega
        have hF : Hid (allP (labP s.size) 0 s.data.toList = true) := by unfold Hid; rw [hE.out, HE.out k (by omega)]
        go_wp2
        go_ret
        exact ⟨by rw [hR.out, hF.out]; rfl, rfl⟩
  · have h1I : (63 : Int) < (s.size : Int) := by omega
    have hP : Hid (labL s.data.toList = false) := by unfold Hid labL; rw [hsl, decide_eq_false h1, Bool.false_and, Bool.and_false]
    go_enter Tryz.func45, Tryz.ntmps45
    go_wp2
    go_ret
    exact ⟨by rw [hP.out]; rfl, rfl⟩

end Go.Proofs.YthnfhkmonfkceaaGreatDoor

namespace Go.Proofs.YthnfhkmonfkceaaGreatDoor
open Go.RowKit Go.IntWalk

/-- Rows of bytes as texts. -/
def txs (ws : List (List UInt8)) : List ByteArray := ws.map tx
theorem txs_more (ws : List (List UInt8)) (u : List UInt8) : txs (ws ++ [u]) = txs ws ++ [tx u] := by simp [txs]
theorem txs_len (ws : List (List UInt8)) : (txs ws).length = ws.length := by simp [txs]

def cutH (l : List UInt8) (a b : Nat) : List UInt8 := (l.take b).drop a
theorem cutH_len (l : List UInt8) (a b : Nat) (hb : b ≤ l.length) : (cutH l a b).length = b - a := by unfold cutH; rw [List.length_drop, List.length_take]; omega
theorem cutH_more (l : List UInt8) (a k : Nat) (h : a ≤ k) (hk : k < l.length) : cutH l a (k + 1) = cutH l a k ++ [l[k]'hk] := by
  unfold cutH
  rw [List.take_succ_eq_append_getElem hk, List.drop_append_of_le_length (by rw [List.length_take]; omega)]
theorem cut_textH (s : ByteArray) (a b : Nat) : s.extract a b = tx (cutH s.data.toList a b) := by
  apply ByteArray.ext
  rw [ByteArray.data_extract]
  apply Array.ext'
  rw [Array.toList_extract]
  unfold cutH tx
  rw [List.drop_take]

/-- What has been told of the labels, and what is left. -/
def LRel (l : List UInt8) (ws : List (List UInt8)) (a k : Nat) : Prop := labs l = ws ++ labsG (cutH l a k) (l.drop k)
theorem lrel_start (l : List UInt8) : LRel l [] 0 0 := by unfold LRel labs cutH; simp
theorem lrel_dot (l : List UInt8) (ws : List (List UInt8)) (a k : Nat) (h : LRel l ws a k) (hk : k < l.length) (hd : l[k]'hk = 46) : LRel l (ws ++ [cutH l a k]) (k + 1) (k + 1) := by
  unfold LRel at h ⊢
  rw [h, List.drop_eq_getElem_cons hk, labsG, if_pos hd]
  have e : cutH l (k + 1) (k + 1) = [] := by unfold cutH; simp
  rw [e]
  simp
theorem lrel_byte (l : List UInt8) (ws : List (List UInt8)) (a k : Nat) (h : LRel l ws a k) (hak : a ≤ k) (hk : k < l.length) (hd : l[k]'hk ≠ 46) : LRel l ws a (k + 1) := by
  unfold LRel at h ⊢
  rw [h, List.drop_eq_getElem_cons hk, labsG, if_neg hd, cutH_more l a k hak hk]
theorem lrel_end (l : List UInt8) (ws : List (List UInt8)) (a : Nat) (h : LRel l ws a l.length) : labs l = ws ++ [cutH l a l.length] := by
  unfold LRel at h
  rw [h, List.drop_length, labsG]

set_option maxRecDepth 100000 in
set_option maxHeartbeats 2000000 in
theorem refLabels_any (s : ByteArray) (hs : s.size ≤ 1048576) (w : World) :
    Calls Tryz.prog 44 #[.string s] w fun e w' => ∃ ao c, e = .returned (.slice ao (labs s.data.toList).length c) ∧ OwnS w' w.heap.size (.slice ao (labs s.data.toList).length c) (txs (labs s.data.toList)) ∧ Below w.heap.size w w' := by
  have hSL := sizeH_len s
  go_enter Tryz.func44, Tryz.ntmps44
  go_wp2
  go_loopw [3, 4, 5] (fun l f i wr => ∃ (ws : List (List UInt8)) (ao : Option Addr) (c a k : Nat), l = .slice ao ws.length c ∧ f = .int .i64 a ∧ i = .int .i64 k ∧ a ≤ k ∧ k ≤ s.size ∧ ws.length ≤ k ∧ Hid (OwnS wr w.heap.size (.slice ao ws.length c) (txs ws) ∧ Below w.heap.size w wr) ∧ Hid (LRel s.data.toList ws a k)) (fun _ _ i _ => s.size - (intOf i).toNat)
  case atStart => exact ⟨[], none, 0, 0, 0, rfl, rfl, rfl, Nat.le_refl _, Nat.zero_le _, Nat.le_refl _, ⟨OwnS.nil _ _, Below.refl _ _⟩, lrel_start _⟩
  case round =>
    obtain ⟨ws, ao, c, a, k, rfl, rfl, rfl, hak, hk, hwk, HO, HW⟩ := hrel
    have htl := hide (txs_len ws)
    by_cases hlt : k < s.size
    · have ltI : (k : Int) < (s.size : Int) := by omega
      have hl : k < s.data.toList.length := by rw [sizeH_len]; exact hlt
      by_cases hd : (s[k]'hlt) = 46
      · have hd' : ((s[k]'hlt).toNat : Int) = 46 := by rw [hd]; rfl
        have hn := hide (lrel_dot s.data.toList ws a k HW.out hl (by rw [getH_list s k hlt]; exact hd))
        have sl : ∀ X, (Instr.slice 9 (.string s) (some (.int .i64 (a : Int))) (some (.int .i64 (k : Int))) none).run Tryz.prog X = .ok (.string (tx (cutH s.data.toList a k))) X := fun X => by
          have h := run_slice_string (P := Tryz.prog) (w := X) 9 s .i64 .i64 (a : Int) (k : Int) Tryz.underlying9 (by omega) (by omega) (by omega)
          rw [h, ← cut_textH]; simp
        generalize cutH s.data.toList a k = u at hn sl
        clear hd hl HW
        go_wp2_with (at_builtin; refine wpList_appS _ rfl (.tmp 16) (.tmp 21) rfl w.heap.size _ (txs ws) rfl (HO.out.1.alloc _) wr.heap.size (tx u) rfl (by simp) (ws.length + 1) (by rw [htl.out]) (by omega) (by have := HO.out.2.size; simp; omega) ?_; intro g c' w1 o1 bg lg hc1 hm1 gr1)
        have HO1 : Hid (OwnS w1 w.heap.size (.slice (some ⟨g, 0, none⟩) (ws ++ [u]).length c') (txs (ws ++ [u])) ∧ Below w.heap.size w w1) := by
          unfold Hid
          rw [txs_more]
          have e : (ws ++ [u]).length = ws.length + 1 := by simp
          rw [e]
          exact ⟨o1, (HO.out.2.alloc HO.out.2.size _).grown gr1 (by have := HO.out.2.size; simp; omega) (fun j hj => (HO.out.1.lt j hj).1)⟩
        go_roundw
        case rel => exact ⟨ws ++ [u], some ⟨g, 0, none⟩, c', k + 1, k + 1, by simp, by simp, by simp, Nat.le_refl _, by omega, by simp; omega, HO1, hn⟩
        case measure => simp [intOf] <;> omega
      · have hd' : (((s[k]'hlt).toNat : Int) == 46) = false := by
          rw [beq_eq_false_iff_ne]
          intro e
          apply hd
          apply UInt8.toNat_inj.1
          show (s[k]'hlt).toNat = 46
          omega
        have hn := hide (lrel_byte s.data.toList ws a k HW.out hak hl (by rw [getH_list s k hlt]; exact hd))
        clear hd hl HW
        go_wp2
        go_roundw
        case rel => exact ⟨ws, ao, c, a, k + 1, rfl, rfl, by simp, by omega, by omega, by omega, HO, hn⟩
        case measure => simp [intOf] <;> omega
    · obtain rfl : k = s.size := by omega
      have ltI : ¬ (s.size : Int) < (s.size : Int) := by omega
      have hr := HW.out
      rw [← hSL] at hr
      have he := hide (lrel_end s.data.toList ws a hr)
      clear hr
      have sl : ∀ X, (Instr.slice 9 (.string s) (some (.int .i64 (a : Int))) none none).run Tryz.prog X = .ok (.string (tx (cutH s.data.toList a s.data.toList.length))) X := fun X => by
        have h := run_slice_string_from_if (P := Tryz.prog) (w := X) 9 s .i64 (a : Int) Tryz.underlying9
        rw [h, if_pos (by omega), ← cut_textH, hSL]; simp
      generalize cutH s.data.toList a s.data.toList.length = u at he sl
      go_wp2_with (at_builtin; refine wpList_appS _ rfl (.tmp 25) (.tmp 29) rfl w.heap.size _ (txs ws) rfl (HO.out.1.alloc _) wr.heap.size (tx u) rfl (by simp) (ws.length + 1) (by rw [htl.out]) (by omega) (by have := HO.out.2.size; simp; omega) ?_; intro g c' w1 o1 bg lg hc1 hm1 gr1)
      go_ret
      have e : (labs s.data.toList).length = ws.length + 1 := by rw [he.out]; simp
      refine ⟨some ⟨g, 0, none⟩, c', by rw [e]; rfl, ?_, (HO.out.2.alloc HO.out.2.size _).grown gr1 (by have := HO.out.2.size; simp; omega) (fun j hj => (HO.out.1.lt j hj).1)⟩
      rw [e, he.out, txs_more]
      exact o1

end Go.Proofs.YthnfhkmonfkceaaGreatDoor
