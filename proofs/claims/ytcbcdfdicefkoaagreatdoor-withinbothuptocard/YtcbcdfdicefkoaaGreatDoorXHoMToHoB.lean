/-
  Hosts' names, on lists of bytes: labels, what a host's name is, a wild name, a mail address, a network address.
  package host: digits, letters; a text each of whose bytes may stand at its place; labels, numbers.
-/
import Derived.Lib.IndexMore
import Derived.Lib.Index
import Derived.RangeFuncNested
import Derived.RangeFuncBound
import Derived.RangeFuncCalls
import Derived.RangeFuncLeaves
import Derived.RangeFuncBox
import Derived.Shelf.Abstract
import Derived.Shelf.RegionOpen
import Derived.WalkKit
import Derived.OwnWalkIn
import Derived.TacticsInMore
import Derived.LoopNIn
import Derived.LoopIn
import Derived.Test.YtcbcdfdicefkoaaGreatDoorXOSizeToRangeP
import Derived.Test.YtcbcdfdicefkoaaGreatDoorXShelfAll
import Derived.Test.YtcbcdfdicefkoaaGreatDoorXMoreToNextS
namespace Go.Proofs.YtcbcdfdicefkoaaGreatDoor

/-- The bytes ahead of the first byte d, those behind it, and whether there is one. -/
def cutD (d : UInt8) : List UInt8 → List UInt8 × List UInt8 × Bool
  | [] => ([], [], false)
  | c :: r => if c = d then ([], r, true) else (c :: (cutD d r).1, (cutD d r).2.1, (cutD d r).2.2)

theorem cutD_rest (d : UInt8) : ∀ l, (cutD d l).2.1.length ≤ l.length ∧ (cutD d l).1.length ≤ l.length ∧ ((cutD d l).2.2 = true → (cutD d l).2.1.length < l.length)
  | [] => by simp [cutD]
  | c :: r => by
    have ih := cutD_rest d r
    rw [cutD]
    split
    · simp
    · refine ⟨Nat.le_succ_of_le ih.1, by simp; exact ih.2.1, fun h => Nat.lt_succ_of_lt (ih.2.2 h)⟩

theorem cutD_no (d : UInt8) : ∀ l, (cutD d l).2.2 = false → (cutD d l).2.1 = []
  | [], _ => rfl
  | c :: r, h => by
    rw [cutD] at h ⊢
    split at h
    · cases h
    · rename_i hc; rw [if_neg hc]; exact cutD_no d r h

/-- The library's cut at one byte. -/
theorem cut_one (d : UInt8) : ∀ l : List UInt8, Lib.cut l [d] = cutD d l
  | [] => by simp [cutD, Lib.cut, Lib.index]
  | c :: r => by
    have ih := cut_one d r
    rw [cutD]
    by_cases hd : c = d
    · subst hd
      rw [if_pos rfl]
      simp [Lib.cut, Lib.index]
    · rw [if_neg hd]
      have hne : (d == c) = false := by rw [beq_eq_false_iff_ne]; exact fun e => hd e.symm
      have hx : Lib.index (c :: r) [d] = if Lib.index r [d] == -1 then -1 else Lib.index r [d] + 1 := by
        rw [Lib.index]
        simp [List.isPrefixOf, hne]
      have hge := Lib.index_ge r [d]
      unfold Lib.cut at ih ⊢
      rw [hx]
      by_cases h0 : 0 ≤ Lib.index r [d]
      · rw [if_pos h0] at ih
        have hb1 : (Lib.index r [d] == -1) = false := by rw [beq_eq_false_iff_ne]; omega
        rw [hb1]
        simp only [Bool.false_eq_true, if_false]
        rw [if_pos (by omega)]
        have e1 : (Lib.index r [d] + 1).toNat = (Lib.index r [d]).toNat + 1 := by omega
        rw [e1, ← ih]
        simp
      · rw [if_neg h0] at ih
        have hb1 : (Lib.index r [d] == -1) = true := by rw [beq_iff_eq]; omega
        rw [hb1]
        simp only [if_true]
        rw [if_neg (by omega), ← ih]

/-- The pieces between dots; acc: the bytes of the first one so far. -/
def labsG : List UInt8 → List UInt8 → List (List UInt8)
  | acc, [] => [acc]
  | acc, c :: r => if c = 46 then acc :: labsG [] r else labsG (acc ++ [c]) r
def labs (l : List UInt8) : List (List UInt8) := labsG [] l

theorem labsG_cut : ∀ (l acc : List UInt8), labsG acc l = (acc ++ (cutD 46 l).1) :: (if (cutD 46 l).2.2 = true then labs (cutD 46 l).2.1 else [])
  | [], acc => by simp [labsG, cutD]
  | c :: r, acc => by
    rw [labsG, cutD]
    by_cases hc : c = 46
    · rw [if_pos hc, if_pos hc]; simp [labs]
    · rw [if_neg hc, if_neg hc, labsG_cut r]; simp
theorem labs_cut (l : List UInt8) : labs l = (cutD 46 l).1 :: (if (cutD 46 l).2.2 = true then labs (cutD 46 l).2.1 else []) := labsG_cut l []
theorem labsG_len : ∀ (l acc : List UInt8), (labsG acc l).length ≤ l.length + 1
  | [], _ => by simp [labsG]
  | c :: r, acc => by
    rw [labsG]
    split
    · have := labsG_len r []; simp; omega
    · have := labsG_len r (acc ++ [c]); simp; omega
theorem labsG_ne : ∀ (l acc : List UInt8), labsG acc l ≠ []
  | [], _ => by simp [labsG]
  | c :: r, acc => by
    rw [labsG]
    split
    · simp
    · exact labsG_ne r _
theorem labsG_mem : ∀ (l acc : List UInt8), ∀ u ∈ labsG acc l, u.length ≤ acc.length + l.length
  | [], acc, u, h => by simp [labsG] at h; subst h; simp
  | c :: r, acc, u, h => by
    rw [labsG] at h
    split at h
    · rcases List.mem_cons.1 h with rfl | h
      · simp
      · have := labsG_mem r [] u h; simp at this ⊢; omega
    · have := labsG_mem r _ u h; simp at this ⊢; omega

/-- A digit, a letter or a digit. -/
def digN (n : Nat) : Bool := decide (48 ≤ n ∧ n ≤ 57)
def plN (n : Nat) : Bool := decide (65 ≤ n ∧ n ≤ 90) || decide (97 ≤ n ∧ n ≤ 122) || digN n
/-- Does each byte stand where it may? -/
def allP (f : Nat → Nat → Bool) : Nat → List UInt8 → Bool
  | _, [] => true
  | k, b :: r => f k b.toNat && allP f (k + 1) r
theorem allP_at (f : Nat → Nat → Bool) (l : List UInt8) (k : Nat) (h : k < l.length) : allP f k (l.drop k) = (f k (l[k]'h).toNat && allP f (k + 1) (l.drop (k + 1))) := by
  rw [List.drop_eq_getElem_cons h, allP]
theorem allP_all (g : Nat → Bool) : ∀ (l : List UInt8) (k : Nat), allP (fun _ n => g n) k l = l.all (fun b => g b.toNat)
  | [], _ => rfl
  | b :: r, k => by rw [allP, List.all_cons, allP_all g r]

/-- May a label's byte stand at its place? -/
def labP (n : Nat) (k b : Nat) : Bool := plN b || (decide (b = 45) && (decide (0 < k) && decide (k + 1 < n)))
/-- Is a text a label? is it digits alone? -/
def labL (l : List UInt8) : Bool := decide (0 < l.length) && (decide (l.length ≤ 63) && allP (labP l.length) 0 l)
def numL (l : List UInt8) : Bool := l.all (fun b => digN b.toNat)
/-- Are all labels, and the last one (or, of none, this one) not digits alone? -/
def dnsG : List UInt8 → List (List UInt8) → Bool
  | last, [] => !numL last
  | _, u :: ws => labL u && dnsG u ws
/-- Is a text a host's name? -/
def dnsL (l : List UInt8) : Bool := decide (l.length ≤ 253) && dnsG [] (labs l)
theorem dnsG_all : ∀ (ws : List (List UInt8)) (last : List UInt8), dnsG last ws = (ws.all labL && !numL (ws.getLast?.getD last))
  | [], last => by simp [dnsG]
  | u :: ws, last => by
    rw [dnsG, dnsG_all ws u, List.all_cons, Bool.and_assoc]
    congr 3
    cases ws with
    | nil => rfl
    | cons v ws => rw [List.getLast?_cons_cons]; cases h : (v :: ws).getLast? with
      | none => simp at h
      | some x => rfl
theorem dnsL_nil : dnsL [] = false := by decide
/-- Is a text a wild name? -/
def wildL : List UInt8 → Bool
  | a :: b :: r => decide (a = 42 ∧ b = 46) && (decide (r.length + 2 ≤ 253) && (dnsL r && r.contains 46))
  | _ => false

/-- May a byte stand in a local part, beside dots? -/
def locN (n : Nat) : Bool := plN n || (decide (n = 95) || (decide (n = 43) || decide (n = 45)))
/-- The pieces of a local part. -/
def locG (ws : List (List UInt8)) : Bool := ws.all (fun u => !u.isEmpty && u.all (fun b => locN b.toNat))
def locL (l : List UInt8) : Bool := decide (l.length ≤ 64) && locG (labs l)
/-- Is a text a mail address? -/
def mailL (l : List UInt8) : Bool := locL (cutD 64 l).1 && dnsL (cutD 64 l).2.1
/-- The same, byte by byte: p: does a dot, or nothing, stand ahead? -/
def locS : Bool → List UInt8 → Bool
  | p, [] => !p
  | p, c :: r => if c = 46 then !p && locS true r else locN c.toNat && locS false r
theorem locG_S : ∀ (l acc : List UInt8), locG (labsG acc l) = (acc.all (fun b => locN b.toNat) && locS acc.isEmpty l)
  | [], acc => by simp [labsG, locG, locS, Bool.and_comm]
  | c :: r, acc => by
    rw [labsG, locS]
    by_cases hc : c = 46
    · rw [if_pos hc, if_pos hc]
      show ((!acc.isEmpty && acc.all (fun b => locN b.toNat)) && locG (labsG [] r)) = _
      rw [locG_S r []]
      simp only [List.all_nil, Bool.true_and, List.isEmpty_nil]
      cases acc.isEmpty <;> cases acc.all (fun b => locN b.toNat) <;> simp
    · rw [if_neg hc, if_neg hc, locG_S r]
      have e : (acc ++ [c]).isEmpty = false := by cases acc <;> rfl
      rw [e, List.all_append]
      simp [Bool.and_assoc]
theorem locL_S (l : List UInt8) : locL l = (decide (l.length ≤ 64) && locS true l) := by
  unfold locL labs
  rw [locG_S]
  rfl

/-- Is a text a network address? -/
def ipL (l : List UInt8) : Bool := decide (l.length = 4) || decide (l.length = 16)

end Go.Proofs.YtcbcdfdicefkoaaGreatDoor

namespace Go.Proofs.YtcbcdfdicefkoaaGreatDoor
open Go.RowKit Go.Shelf Go.IntWalk
attribute [local go_sem] Oper.semAt_some

theorem sizeH_len (s : ByteArray) : s.data.toList.length = s.size := by rw [Array.length_toList]; rfl
theorem getH_list (s : ByteArray) (p : Nat) (hp : p < s.size) (hl : p < s.data.toList.length) : s.data.toList[p]'hl = s[p]'hp := by simp; rfl

set_option maxRecDepth 100000 in
set_option maxHeartbeats 1000000 in
theorem isDigit_any (b : Nat) (w : World) :
    Calls Tryz.prog 90 #[.int .u8 b] w fun e w' => e = .returned (.bool (digN b)) ∧ w' = w := by
  have hP : Hid (digN b = decide (48 ≤ b ∧ b ≤ 57)) := rfl
  generalize digN b = R at hP ⊢
  go_enter Tryz.func90, Tryz.ntmps90
  go_wp2
  all_goals go_ret
  all_goals refine ⟨?_, rfl⟩
  all_goals rw [hP.out]
  all_goals show Ending.returned (Value.bool _) = Ending.returned (Value.bool _)
  all_goals congr 1
  all_goals congr 1
  all_goals rw [Bool.eq_iff_iff]
  all_goals simp
  all_goals omega

set_option maxRecDepth 100000 in
set_option maxHeartbeats 1000000 in
theorem isPlain_any (b : Nat) (w : World) :
    Calls Tryz.prog 88 #[.int .u8 b] w fun e w' => e = .returned (.bool (plN b)) ∧ w' = w := by
  have hP : Hid (plN b = (decide (65 ≤ b ∧ b ≤ 90) || decide (97 ≤ b ∧ b ≤ 122) || digN b)) := rfl
  have hC := hide (isDigit_any b)
  generalize digN b = M at hC hP
  generalize plN b = R at hP ⊢
  go_enter Tryz.func88, Tryz.ntmps88
  go_wp2_with (first | (go_at_call 90; refine (hC.out _).mono ?_; rintro e w' ⟨rfl, rfl⟩) | go_in)
  all_goals go_ret
  all_goals refine ⟨?_, rfl⟩
  all_goals rw [hP.out]
  all_goals show Ending.returned (Value.bool _) = Ending.returned (Value.bool _)
  all_goals congr 2
  all_goals rw [Bool.eq_iff_iff]
  all_goals cases M <;> simp <;> omega

set_option maxRecDepth 100000 in
set_option maxHeartbeats 1000000 in
theorem isNumber1_any (k b : Nat) (w : World) :
    Calls Tryz.prog 89 #[.int .i64 k, .int .u8 b] w fun e w' => e = .returned (.bool (digN b)) ∧ w' = w := by
  have hC := hide (isDigit_any b)
  generalize digN b = M at hC
  go_enter Tryz.func89, Tryz.ntmps89
  go_wp2_with (go_at_call 90; refine (hC.out _).mono ?_; rintro e w' ⟨rfl, rfl⟩)
  go_ret
  exact ⟨rfl, rfl⟩

set_option maxRecDepth 100000 in
set_option maxHeartbeats 1000000 in
theorem isLabel1_any (n k b B : Nat) (w : World) (_hn : n ≤ 63) (hB : w.cell? ⟨B, 0, none⟩ = some (.int .i64 ((n : Int) - 1))) :
    Calls Tryz.prog 87 #[.int .i64 k, .int .u8 b, .pointer (some ⟨B, 0, none⟩)] w fun e w' => e = .returned (.bool (labP n k b)) ∧ w' = w := by
  have hP : Hid (labP n k b = (plN b || (decide (b = 45) && (decide (0 < k) && decide (k + 1 < n))))) := rfl
  have hC := hide (isPlain_any b)
  generalize plN b = M at hC hP
  generalize labP n k b = R at hP ⊢
  cases M
  · go_enter Tryz.func87, Tryz.ntmps87
    go_wp2_with (first | (go_at_call 88; refine (hC.out _).mono ?_; rintro e w' ⟨rfl, rfl⟩) | go_in)
    all_goals go_ret
    all_goals refine ⟨?_, rfl⟩
    all_goals rw [hP.out]
    all_goals show Ending.returned (Value.bool _) = Ending.returned (Value.bool _)
    all_goals congr 2
    all_goals rw [Bool.eq_iff_iff]
    all_goals simp
    all_goals omega
  · go_enter Tryz.func87, Tryz.ntmps87
    go_wp2_with (first | (go_at_call 88; refine (hC.out _).mono ?_; rintro e w' ⟨rfl, rfl⟩) | go_in)
    all_goals go_ret
    all_goals exact ⟨by rw [hP.out]; rfl, rfl⟩


set_option maxRecDepth 100000 in
theorem marks_loc : ∀ b : Nat, b < 256 → decide (0 ≤ Lib.indexByte [95, 43, 45] ((b : Int).toNat.toUInt8)) = (decide (b = 95) || (decide (b = 43) || decide (b = 45))) := by decide

set_option maxRecDepth 100000 in
set_option maxHeartbeats 1000000 in
theorem isLocal1_any (k b : Nat) (w : World) (hb : b < 256) :
    Calls Tryz.prog 141 #[.int .i64 k, .int .u8 b] w fun e w' => e = .returned (.bool (locN b)) ∧ w' = w := by
  have hP : Hid (locN b = (plN b || decide (0 ≤ Lib.indexByte [95, 43, 45] ((b : Int).toNat.toUInt8)))) := by unfold Hid locN; rw [marks_loc b hb]
  have hC := hide (isPlain_any b)
  have hI := hide (fun W => Tryz.strings_IndexByte ⟨#[95, 43, 45]⟩ b W)
  have e1 : (⟨#[95, 43, 45]⟩ : ByteArray).data.toList = [95, 43, 45] := rfl
  rw [e1] at hI
  clear e1
  generalize Lib.indexByte [95, 43, 45] ((b : Int).toNat.toUInt8) = x at hP hI
  generalize plN b = M at hC hP
  generalize locN b = R at hP ⊢
  by_cases hx : 0 ≤ x
  · cases M
    · go_enter Tryz.func141, Tryz.ntmps141
      go_wp2_with (first | (go_at_call 88; refine (hC.out _).mono ?_; rintro e w' ⟨rfl, hw⟩; subst hw) | (go_at_call 142; refine (hI.out _).mono ?_; rintro e w' ⟨rfl, hw⟩; subst hw))
      go_ret
      exact ⟨by rw [hP.out, decide_eq_true hx]; rfl, rfl⟩
    · go_enter Tryz.func141, Tryz.ntmps141
      go_wp2_with (first | (go_at_call 88; refine (hC.out _).mono ?_; rintro e w' ⟨rfl, hw⟩; subst hw) | (go_at_call 142; refine (hI.out _).mono ?_; rintro e w' ⟨rfl, hw⟩; subst hw))
      go_ret
      exact ⟨by rw [hP.out]; rfl, rfl⟩
  · have hx2 : x < 0 := by omega
    cases M
    · go_enter Tryz.func141, Tryz.ntmps141
      go_wp2_with (first | (go_at_call 88; refine (hC.out _).mono ?_; rintro e w' ⟨rfl, hw⟩; subst hw) | (go_at_call 142; refine (hI.out _).mono ?_; rintro e w' ⟨rfl, hw⟩; subst hw))
      go_ret
      exact ⟨by rw [hP.out, decide_eq_false (by omega)]; rfl, rfl⟩
    · go_enter Tryz.func141, Tryz.ntmps141
      go_wp2_with (first | (go_at_call 88; refine (hC.out _).mono ?_; rintro e w' ⟨rfl, hw⟩; subst hw) | (go_at_call 142; refine (hI.out _).mono ?_; rintro e w' ⟨rfl, hw⟩; subst hw))
      go_ret
      exact ⟨by rw [hP.out]; rfl, rfl⟩

-- number: the name; isNumber$1: the function; : what it has bound; : what stands ahead
set_option maxRecDepth 100000 in
set_option maxHeartbeats 1000000 in
theorem all_number (f : Nat → Nat → Bool)  (s : ByteArray) (hs : s.size ≤ 140737488355328) (w : World)
    (hC0 : ∀ k b : Nat, k < s.size → b < 256 → Calls Tryz.prog 89 (#[.int .i64 k, .int .u8 b] ++ #[]) w fun e w' => e = .returned (.bool (f k b)) ∧ w' = w) :
    Calls Tryz.prog 86 #[.string s, .func (.func 89) #[] #[]] w fun e w' => e = .returned (.bool (allP f 0 s.data.toList)) ∧ w' = w := by
  have hC := hide hC0
  have HE : Hid (∀ k : Nat, s.size ≤ k → allP f k (s.data.toList.drop k) = true) := fun k hk => by rw [List.drop_eq_nil_of_le (by rw [sizeH_len]; omega)]; rfl
  have HS : Hid (∀ (k : Nat) (hk : k < s.size), allP f k (s.data.toList.drop k) = (f k (s[k]'hk).toNat && allP f (k + 1) (s.data.toList.drop (k + 1)))) := fun k hk => by
    rw [allP_at _ _ k (by rw [sizeH_len]; exact hk), getH_list s k hk]
  clear hC0
  go_enter Tryz.func86, Tryz.ntmps86
  go_wp2
  go_loop [8] (fun i => ∃ k : Nat, i = .int .i64 k ∧ k ≤ s.size ∧ Hid (allP f 0 s.data.toList = allP f k (s.data.toList.drop k))) (fun i => s.size - (intOf i).toNat)
  case atStart => exact ⟨0, rfl, Nat.zero_le _, rfl⟩
  case round =>
    obtain ⟨k, rfl, hk, hE⟩ := hrel
    by_cases hlt : k < s.size
    · have hltI : (k : Int) < (s.size : Int) := by omega
      have hstep := hide (HS.out k hlt)
      have hc := hide (hC.out k (s[k]'hlt).toNat hlt (s[k]'hlt).toNat_lt)
      generalize hq : f k (s[k]'hlt).toNat = q at hstep hc
      clear hq
      cases q with
      | false =>
        have hF : Hid (allP f 0 s.data.toList = false) := by unfold Hid; rw [hE.out, hstep.out]; rfl
        go_wp2_with (go_at_call 89; refine (hc.out).mono ?_; rintro e w2 ⟨rfl, hw2⟩)
        subst hw2
        go_ret
        exact ⟨by rw [hF.out]; rfl, rfl⟩
      | true =>
        have hF : Hid (allP f 0 s.data.toList = allP f (k + 1) (s.data.toList.drop (k + 1))) := by unfold Hid; rw [hE.out, hstep.out, Bool.true_and]
        go_wp2_with (go_at_call 89; refine (hc.out).mono ?_; rintro e w2 ⟨rfl, hw2⟩)
        subst hw2
        go_round
        case rel => exact ⟨k + 1, by simp, by omega, hF⟩
        case measure => simp [intOf]; omega
    · have hltI : ¬ (k : Int) < (s.size : Int) := by omega
      have hF : Hid (allP f 0 s.data.toList = true) := by unfold Hid; rw [hE.out, HE.out k (by omega)]
      go_wp2
      go_ret
      exact ⟨by rw [hF.out]; rfl, rfl⟩

-- local: the name; isLocal$1: the function; : what it has bound; : what stands ahead
set_option maxRecDepth 100000 in
set_option maxHeartbeats 1000000 in
theorem all_local (f : Nat → Nat → Bool)  (s : ByteArray) (hs : s.size ≤ 140737488355328) (w : World)
    (hC0 : ∀ k b : Nat, k < s.size → b < 256 → Calls Tryz.prog 141 (#[.int .i64 k, .int .u8 b] ++ #[]) w fun e w' => e = .returned (.bool (f k b)) ∧ w' = w) :
    Calls Tryz.prog 86 #[.string s, .func (.func 141) #[] #[]] w fun e w' => e = .returned (.bool (allP f 0 s.data.toList)) ∧ w' = w := by
  have hC := hide hC0
  have HE : Hid (∀ k : Nat, s.size ≤ k → allP f k (s.data.toList.drop k) = true) := fun k hk => by rw [List.drop_eq_nil_of_le (by rw [sizeH_len]; omega)]; rfl
  have HS : Hid (∀ (k : Nat) (hk : k < s.size), allP f k (s.data.toList.drop k) = (f k (s[k]'hk).toNat && allP f (k + 1) (s.data.toList.drop (k + 1)))) := fun k hk => by
    rw [allP_at _ _ k (by rw [sizeH_len]; exact hk), getH_list s k hk]
  clear hC0
  go_enter Tryz.func86, Tryz.ntmps86
  go_wp2
  go_loop [8] (fun i => ∃ k : Nat, i = .int .i64 k ∧ k ≤ s.size ∧ Hid (allP f 0 s.data.toList = allP f k (s.data.toList.drop k))) (fun i => s.size - (intOf i).toNat)
  case atStart => exact ⟨0, rfl, Nat.zero_le _, rfl⟩
  case round =>
    obtain ⟨k, rfl, hk, hE⟩ := hrel
    by_cases hlt : k < s.size
    · have hltI : (k : Int) < (s.size : Int) := by omega
      have hstep := hide (HS.out k hlt)
      have hc := hide (hC.out k (s[k]'hlt).toNat hlt (s[k]'hlt).toNat_lt)
      generalize hq : f k (s[k]'hlt).toNat = q at hstep hc
      clear hq
      cases q with
      | false =>
        have hF : Hid (allP f 0 s.data.toList = false) := by unfold Hid; rw [hE.out, hstep.out]; rfl
        go_wp2_with (go_at_call 141; refine (hc.out).mono ?_; rintro e w2 ⟨rfl, hw2⟩)
        subst hw2
        go_ret
        exact ⟨by rw [hF.out]; rfl, rfl⟩
      | true =>
        have hF : Hid (allP f 0 s.data.toList = allP f (k + 1) (s.data.toList.drop (k + 1))) := by unfold Hid; rw [hE.out, hstep.out, Bool.true_and]
        go_wp2_with (go_at_call 141; refine (hc.out).mono ?_; rintro e w2 ⟨rfl, hw2⟩)
        subst hw2
        go_round
        case rel => exact ⟨k + 1, by simp, by omega, hF⟩
        case measure => simp [intOf]; omega
    · have hltI : ¬ (k : Int) < (s.size : Int) := by omega
      have hF : Hid (allP f 0 s.data.toList = true) := by unfold Hid; rw [hE.out, HE.out k (by omega)]
      go_wp2
      go_ret
      exact ⟨by rw [hF.out]; rfl, rfl⟩

-- label: the name; isLabel$1: the function; .pointer (some ⟨B, 0, none⟩): what it has bound; (B : Nat): what stands ahead
set_option maxRecDepth 100000 in
set_option maxHeartbeats 1000000 in
theorem all_label (f : Nat → Nat → Bool) (B : Nat) (s : ByteArray) (hs : s.size ≤ 140737488355328) (w : World)
    (hC0 : ∀ k b : Nat, k < s.size → b < 256 → Calls Tryz.prog 87 (#[.int .i64 k, .int .u8 b] ++ #[.pointer (some ⟨B, 0, none⟩)]) w fun e w' => e = .returned (.bool (f k b)) ∧ w' = w) :
    Calls Tryz.prog 86 #[.string s, .func (.func 87) #[] #[.pointer (some ⟨B, 0, none⟩)]] w fun e w' => e = .returned (.bool (allP f 0 s.data.toList)) ∧ w' = w := by
  have hC := hide hC0
  have HE : Hid (∀ k : Nat, s.size ≤ k → allP f k (s.data.toList.drop k) = true) := fun k hk => by rw [List.drop_eq_nil_of_le (by rw [sizeH_len]; omega)]; rfl
  have HS : Hid (∀ (k : Nat) (hk : k < s.size), allP f k (s.data.toList.drop k) = (f k (s[k]'hk).toNat && allP f (k + 1) (s.data.toList.drop (k + 1)))) := fun k hk => by
    rw [allP_at _ _ k (by rw [sizeH_len]; exact hk), getH_list s k hk]
  clear hC0
  go_enter Tryz.func86, Tryz.ntmps86
  go_wp2
  go_loop [8] (fun i => ∃ k : Nat, i = .int .i64 k ∧ k ≤ s.size ∧ Hid (allP f 0 s.data.toList = allP f k (s.data.toList.drop k))) (fun i => s.size - (intOf i).toNat)
  case atStart => exact ⟨0, rfl, Nat.zero_le _, rfl⟩
  case round =>
    obtain ⟨k, rfl, hk, hE⟩ := hrel
    by_cases hlt : k < s.size
    · have hltI : (k : Int) < (s.size : Int) := by omega
      have hstep := hide (HS.out k hlt)
      have hc := hide (hC.out k (s[k]'hlt).toNat hlt (s[k]'hlt).toNat_lt)
      generalize hq : f k (s[k]'hlt).toNat = q at hstep hc
      clear hq
      cases q with
      | false =>
        have hF : Hid (allP f 0 s.data.toList = false) := by unfold Hid; rw [hE.out, hstep.out]; rfl
        go_wp2_with (go_at_call 87; refine (hc.out).mono ?_; rintro e w2 ⟨rfl, hw2⟩)
        subst hw2
        go_ret
        exact ⟨by rw [hF.out]; rfl, rfl⟩
      | true =>
        have hF : Hid (allP f 0 s.data.toList = allP f (k + 1) (s.data.toList.drop (k + 1))) := by unfold Hid; rw [hE.out, hstep.out, Bool.true_and]
        go_wp2_with (go_at_call 87; refine (hc.out).mono ?_; rintro e w2 ⟨rfl, hw2⟩)
        subst hw2
        go_round
        case rel => exact ⟨k + 1, by simp, by omega, hF⟩
        case measure => simp [intOf]; omega
    · have hltI : ¬ (k : Int) < (s.size : Int) := by omega
      have hF : Hid (allP f 0 s.data.toList = true) := by unfold Hid; rw [hE.out, HE.out k (by omega)]
      go_wp2
      go_ret
      exact ⟨by rw [hF.out]; rfl, rfl⟩

set_option maxRecDepth 100000 in
set_option maxHeartbeats 1000000 in
theorem isNumber_any (s : ByteArray) (hs : s.size ≤ 140737488355328) (w : World) :
    Calls Tryz.prog 55 #[.string s] w fun e w' => e = .returned (.bool (numL s.data.toList)) ∧ w' = w := by
  have hC := hide (all_number (fun _ n => digN n) s hs w (fun k b _ _ => isNumber1_any k b w))
  rw [allP_all] at hC
  have hP : Hid (numL s.data.toList = s.data.toList.all (fun b => digN b.toNat)) := rfl
  generalize s.data.toList.all (fun b => digN b.toNat) = q at hC hP
  go_enter Tryz.func55, Tryz.ntmps55
  go_wp2_with (go_at_call 86; refine (hC.out).mono ?_; rintro e w2 ⟨rfl, rfl⟩)
  go_ret
  exact ⟨by rw [hP.out]; rfl, rfl⟩

set_option maxRecDepth 100000 in
set_option maxHeartbeats 1000000 in
theorem isLabel_any (s : ByteArray) (hs : s.size ≤ 140737488355328) (w : World) :
    Calls Tryz.prog 54 #[.string s] w fun e w' => e = .returned (.bool (labL s.data.toList)) ∧ Below w.heap.size w w' := by
  have hsl := sizeH_len s
  have hB : (w.alloc (.cells #[.int .i64 ((s.size : Int) - 1)] 3)).cell? ⟨w.heap.size, 0, none⟩ = some (.int .i64 ((s.size : Int) - 1)) := (Boxed.new w 3 _).cell
  have hL : Hid (Below w.heap.size w (w.alloc (.cells #[.int .i64 ((s.size : Int) - 1)] 3))) := (Below.refl _ _).alloc (Nat.le_refl _) _
  by_cases h0 : s.size = 0
  · have hP : Hid (labL s.data.toList = false) := by unfold Hid labL; rw [hsl, h0]; rfl
    have h0I : ¬ (0 : Int) < (s.size : Int) := by omega
    replace h0 := hide h0
    clear hB
    go_enter Tryz.func54, Tryz.ntmps54
    go_wp2
    go_ret
    exact ⟨by rw [hP.out]; rfl, hL.out⟩
  have h0I : (0 : Int) < (s.size : Int) := by omega
  by_cases h1 : s.size ≤ 63
  · have h1I : (s.size : Int) ≤ 63 := by omega
    have hC := hide (all_label (labP s.size) w.heap.size s hs _ (fun k b _ _ => isLabel1_any s.size k b w.heap.size _ h1 hB))
    have hP : Hid (labL s.data.toList = allP (labP s.size) 0 s.data.toList) := by unfold Hid labL; rw [hsl, decide_eq_true (by omega), decide_eq_true h1]; rfl
    generalize allP (labP s.size) 0 s.data.toList = q at hC hP
    clear hB
    go_enter Tryz.func54, Tryz.ntmps54
    go_wp2_with (go_at_call 86; refine (hC.out).mono ?_; rintro e w2 ⟨rfl, rfl⟩)
    go_ret
    exact ⟨by rw [hP.out]; rfl, hL.out⟩
  · have h1I : ¬ (s.size : Int) ≤ 63 := by omega
    have hP : Hid (labL s.data.toList = false) := by unfold Hid labL; rw [hsl, decide_eq_false h1, Bool.false_and, Bool.and_false]
    clear hB
    go_enter Tryz.func54, Tryz.ntmps54
    go_wp2
    go_ret
    exact ⟨by rw [hP.out]; rfl, hL.out⟩

end Go.Proofs.YtcbcdfdicefkoaaGreatDoor
