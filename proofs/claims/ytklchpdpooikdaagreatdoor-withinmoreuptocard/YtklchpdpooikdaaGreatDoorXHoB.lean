/-
  package host: digits, letters; a text each of whose bytes may stand at its place; labels, numbers.
-/
import Derived.RangeFuncNested
import Derived.RangeFuncBound
import Derived.RangeFuncCalls
import Derived.RangeFuncLeaves
import Derived.RangeFuncBox
import Derived.Shelf.Abstract
import Derived.Shelf.RegionOpen
import Derived.WalkKit
import Derived.OwnWalkIn
import Derived.TacticsInMore
import Derived.LoopNIn
import Derived.LoopIn
import Derived.Test.YtklchpdpooikdaaGreatDoorXOSizeToRangeP
import Derived.Test.YtklchpdpooikdaaGreatDoorXWiRowToHoM
import Derived.Test.YtklchpdpooikdaaGreatDoorXShelfAll
import Derived.Test.YtklchpdpooikdaaGreatDoorXItsToNextS
namespace Go.Proofs.YtklchpdpooikdaaGreatDoor
open Go.RowKit Go.Shelf Go.IntWalk
attribute [local go_sem] Oper.semAt_some

theorem sizeH_len (s : ByteArray) : s.data.toList.length = s.size := by rw [Array.length_toList]; rfl
theorem getH_list (s : ByteArray) (p : Nat) (hp : p < s.size) (hl : p < s.data.toList.length) : s.data.toList[p]'hl = s[p]'hp := by simp; rfl

set_option maxRecDepth 100000 in
set_option maxHeartbeats 1000000 in
theorem isDigit_any (b : Nat) (w : World) :
    Calls Tryz.prog 102 #[.int .u8 b] w fun e w' => e = .returned (.bool (digN b)) ∧ w' = w := by
  have hP : Hid (digN b = decide (48 ≤ b ∧ b ≤ 57)) := rfl
  generalize digN b = R at hP ⊢
  go_enter Tryz.func102, Tryz.ntmps102
  go_wp2
  all_goals go_ret
  all_goals refine ⟨?_, rfl⟩
  all_goals rw [hP.out]
  all_goals show Ending.returned (Value.bool _) = Ending.returned (Value.bool _)
  all_goals congr 1
  all_goals congr 1
  all_goals rw [Bool.eq_iff_iff]
  all_goals simp
  all_goals omega

set_option maxRecDepth 100000 in
set_option maxHeartbeats 1000000 in
theorem isPlain_any (b : Nat) (w : World) :
    Calls Tryz.prog 100 #[.int .u8 b] w fun e w' => e = .returned (.bool (plN b)) ∧ w' = w := by
  have hP : Hid (plN b = (decide (65 ≤ b ∧ b ≤ 90) || decide (97 ≤ b ∧ b ≤ 122) || digN b)) := rfl
  have hC := hide (isDigit_any b)
  generalize digN b = M at hC hP
  generalize plN b = R at hP ⊢
  go_enter Tryz.func100, Tryz.ntmps100
  go_wp2_with (first | (go_at_call 102; refine (hC.out _).mono ?_; rintro e w' ⟨rfl, rfl⟩) | go_in)
  all_goals go_ret
  all_goals refine ⟨?_, rfl⟩
  all_goals rw [hP.out]
  all_goals show Ending.returned (Value.bool _) = Ending.returned (Value.bool _)
  all_goals congr 2
  all_goals rw [Bool.eq_iff_iff]
  all_goals cases M <;> simp <;> omega

set_option maxRecDepth 100000 in
set_option maxHeartbeats 1000000 in
theorem isNumber1_any (k b : Nat) (w : World) :
    Calls Tryz.prog 101 #[.int .i64 k, .int .u8 b] w fun e w' => e = .returned (.bool (digN b)) ∧ w' = w := by
  have hC := hide (isDigit_any b)
  generalize digN b = M at hC
  go_enter Tryz.func101, Tryz.ntmps101
  go_wp2_with (go_at_call 102; refine (hC.out _).mono ?_; rintro e w' ⟨rfl, rfl⟩)
  go_ret
  exact ⟨rfl, rfl⟩

set_option maxRecDepth 100000 in
set_option maxHeartbeats 1000000 in
theorem isLabel1_any (n k b B : Nat) (w : World) (_hn : n ≤ 63) (hB : w.cell? ⟨B, 0, none⟩ = some (.int .i64 ((n : Int) - 1))) :
    Calls Tryz.prog 99 #[.int .i64 k, .int .u8 b, .pointer (some ⟨B, 0, none⟩)] w fun e w' => e = .returned (.bool (labP n k b)) ∧ w' = w := by
  have hP : Hid (labP n k b = (plN b || (decide (b = 45) && (decide (0 < k) && decide (k + 1 < n))))) := rfl
  have hC := hide (isPlain_any b)
  generalize plN b = M at hC hP
  generalize labP n k b = R at hP ⊢
  cases M
  · go_enter Tryz.func99, Tryz.ntmps99
    go_wp2_with (first | (go_at_call 100; refine (hC.out _).mono ?_; rintro e w' ⟨rfl, rfl⟩) | go_in)
    all_goals go_ret
    all_goals refine ⟨?_, rfl⟩
    all_goals rw [hP.out]
    all_goals show Ending.returned (Value.bool _) = Ending.returned (Value.bool _)
    all_goals congr 2
    all_goals rw [Bool.eq_iff_iff]
    all_goals simp
    all_goals omega
  · go_enter Tryz.func99, Tryz.ntmps99
    go_wp2_with (first | (go_at_call 100; refine (hC.out _).mono ?_; rintro e w' ⟨rfl, rfl⟩) | go_in)
    all_goals go_ret
    all_goals exact ⟨by rw [hP.out]; rfl, rfl⟩


set_option maxRecDepth 100000 in
theorem marks_loc : ∀ b : Nat, b < 256 → decide (0 ≤ Lib.indexByte [95, 43, 45] ((b : Int).toNat.toUInt8)) = (decide (b = 95) || (decide (b = 43) || decide (b = 45))) := by decide

set_option maxRecDepth 100000 in
set_option maxHeartbeats 1000000 in
theorem isLocal1_any (k b : Nat) (w : World) (hb : b < 256) :
    Calls Tryz.prog 114 #[.int .i64 k, .int .u8 b] w fun e w' => e = .returned (.bool (locN b)) ∧ w' = w := by
  have hP : Hid (locN b = (plN b || decide (0 ≤ Lib.indexByte [95, 43, 45] ((b : Int).toNat.toUInt8)))) := by unfold Hid locN; rw [marks_loc b hb]
  have hC := hide (isPlain_any b)
  have hI := hide (fun W => Tryz.strings_IndexByte ⟨#[95, 43, 45]⟩ b W)
  have e1 : (⟨#[95, 43, 45]⟩ : ByteArray).data.toList = [95, 43, 45] := rfl
  rw [e1] at hI
  clear e1
  generalize Lib.indexByte [95, 43, 45] ((b : Int).toNat.toUInt8) = x at hP hI
  generalize plN b = M at hC hP
  generalize locN b = R at hP ⊢
  by_cases hx : 0 ≤ x
  · cases M
    · go_enter Tryz.func114, Tryz.ntmps114
      go_wp2_with (first | (go_at_call 100; refine (hC.out _).mono ?_; rintro e w' ⟨rfl, hw⟩; subst hw) | (go_at_call 115; refine (hI.out _).mono ?_; rintro e w' ⟨rfl, hw⟩; subst hw))
      go_ret
      exact ⟨by rw [hP.out, decide_eq_true hx]; rfl, rfl⟩
    · go_enter Tryz.func114, Tryz.ntmps114
      go_wp2_with (first | (go_at_call 100; refine (hC.out _).mono ?_; rintro e w' ⟨rfl, hw⟩; subst hw) | (go_at_call 115; refine (hI.out _).mono ?_; rintro e w' ⟨rfl, hw⟩; subst hw))
      go_ret
      exact ⟨by rw [hP.out]; rfl, rfl⟩
  · have hx2 : x < 0 := by omega
    cases M
    · go_enter Tryz.func114, Tryz.ntmps114
      go_wp2_with (first | (go_at_call 100; refine (hC.out _).mono ?_; rintro e w' ⟨rfl, hw⟩; subst hw) | (go_at_call 115; refine (hI.out _).mono ?_; rintro e w' ⟨rfl, hw⟩; subst hw))
      go_ret
      exact ⟨by rw [hP.out, decide_eq_false (by omega)]; rfl, rfl⟩
    · go_enter Tryz.func114, Tryz.ntmps114
      go_wp2_with (first | (go_at_call 100; refine (hC.out _).mono ?_; rintro e w' ⟨rfl, hw⟩; subst hw) | (go_at_call 115; refine (hI.out _).mono ?_; rintro e w' ⟨rfl, hw⟩; subst hw))
      go_ret
      exact ⟨by rw [hP.out]; rfl, rfl⟩

-- number: the name; isNumber$1: the function; : what it has bound; : what stands ahead
set_option maxRecDepth 100000 in
set_option maxHeartbeats 1000000 in
theorem all_number (f : Nat → Nat → Bool)  (s : ByteArray) (hs : s.size ≤ 140737488355328) (w : World)
    (hC0 : ∀ k b : Nat, k < s.size → b < 256 → Calls Tryz.prog 101 (#[.int .i64 k, .int .u8 b] ++ #[]) w fun e w' => e = .returned (.bool (f k b)) ∧ w' = w) :
    Calls Tryz.prog 98 #[.string s, .func (.func 101) #[] #[]] w fun e w' => e = .returned (.bool (allP f 0 s.data.toList)) ∧ w' = w := by
  have hC := hide hC0
  have HE : Hid (∀ k : Nat, s.size ≤ k → allP f k (s.data.toList.drop k) = true) := fun k hk => by rw [List.drop_eq_nil_of_le (by rw [sizeH_len]; omega)]; rfl
  have HS : Hid (∀ (k : Nat) (hk : k < s.size), allP f k (s.data.toList.drop k) = (f k (s[k]'hk).toNat && allP f (k + 1) (s.data.toList.drop (k + 1)))) := fun k hk => by
    rw [allP_at _ _ k (by rw [sizeH_len]; exact hk), getH_list s k hk]
  clear hC0
  go_enter Tryz.func98, Tryz.ntmps98
  go_wp2
  go_loop [8] (fun i => ∃ k : Nat, i = .int .i64 k ∧ k ≤ s.size ∧ Hid (allP f 0 s.data.toList = allP f k (s.data.toList.drop k))) (fun i => s.size - (intOf i).toNat)
  case atStart => exact ⟨0, rfl, Nat.zero_le _, rfl⟩
  case round =>
    obtain ⟨k, rfl, hk, hE⟩ := hrel
    by_cases hlt : k < s.size
    · have hltI : (k : Int) < (s.size : Int) := by omega
      have hstep := hide (HS.out k hlt)
      have hc := hide (hC.out k (s[k]'hlt).toNat hlt (s[k]'hlt).toNat_lt)
      generalize hq : f k (s[k]'hlt).toNat = q at hstep hc
      clear hq
      cases q with
      | false =>
        have hF : Hid (allP f 0 s.data.toList = false) := by unfold Hid; rw [hE.out, hstep.out]; rfl
        go_wp2_with (go_at_call 101; refine (hc.out).mono ?_; rintro e w2 ⟨rfl, hw2⟩)
        subst hw2
        go_ret
        exact ⟨by rw [hF.out]; rfl, rfl⟩
      | true =>
        have hF : Hid (allP f 0 s.data.toList = allP f (k + 1) (s.data.toList.drop (k + 1))) := by unfold Hid; rw [hE.out, hstep.out, Bool.true_and]
        go_wp2_with (go_at_call 101; refine (hc.out).mono ?_; rintro e w2 ⟨rfl, hw2⟩)
        subst hw2
        go_round
        case rel => exact ⟨k + 1, by simp, by omega, hF⟩
        case measure => simp [intOf]; omega
    · have hltI : ¬ (k : Int) < (s.size : Int) := by omega
      have hF : Hid (allP f 0 s.data.toList = true) := by unfold Hid; rw [hE.out, HE.out k (by omega)]
      go_wp2
      go_ret
      exact ⟨by rw [hF.out]; rfl, rfl⟩

-- local: the name; isLocal$1: the function; : what it has bound; : what stands ahead
set_option maxRecDepth 100000 in
set_option maxHeartbeats 1000000 in
theorem all_local (f : Nat → Nat → Bool)  (s : ByteArray) (hs : s.size ≤ 140737488355328) (w : World)
    (hC0 : ∀ k b : Nat, k < s.size → b < 256 → Calls Tryz.prog 114 (#[.int .i64 k, .int .u8 b] ++ #[]) w fun e w' => e = .returned (.bool (f k b)) ∧ w' = w) :
    Calls Tryz.prog 98 #[.string s, .func (.func 114) #[] #[]] w fun e w' => e = .returned (.bool (allP f 0 s.data.toList)) ∧ w' = w := by
  have hC := hide hC0
  have HE : Hid (∀ k : Nat, s.size ≤ k → allP f k (s.data.toList.drop k) = true) := fun k hk => by rw [List.drop_eq_nil_of_le (by rw [sizeH_len]; omega)]; rfl
  have HS : Hid (∀ (k : Nat) (hk : k < s.size), allP f k (s.data.toList.drop k) = (f k (s[k]'hk).toNat && allP f (k + 1) (s.data.toList.drop (k + 1)))) := fun k hk => by
    rw [allP_at _ _ k (by rw [sizeH_len]; exact hk), getH_list s k hk]
  clear hC0
  go_enter Tryz.func98, Tryz.ntmps98
  go_wp2
  go_loop [8] (fun i => ∃ k : Nat, i = .int .i64 k ∧ k ≤ s.size ∧ Hid (allP f 0 s.data.toList = allP f k (s.data.toList.drop k))) (fun i => s.size - (intOf i).toNat)
  case atStart => exact ⟨0, rfl, Nat.zero_le _, rfl⟩
  case round =>
    obtain ⟨k, rfl, hk, hE⟩ := hrel
    by_cases hlt : k < s.size
    · have hltI : (k : Int) < (s.size : Int) := by omega
      have hstep := hide (HS.out k hlt)
      have hc := hide (hC.out k (s[k]'hlt).toNat hlt (s[k]'hlt).toNat_lt)
      generalize hq : f k (s[k]'hlt).toNat = q at hstep hc
      clear hq
      cases q with
      | false =>
        have hF : Hid (allP f 0 s.data.toList = false) := by unfold Hid; rw [hE.out, hstep.out]; rfl
        go_wp2_with (go_at_call 114; refine (hc.out).mono ?_; rintro e w2 ⟨rfl, hw2⟩)
        subst hw2
        go_ret
        exact ⟨by rw [hF.out]; rfl, rfl⟩
      | true =>
        have hF : Hid (allP f 0 s.data.toList = allP f (k + 1) (s.data.toList.drop (k + 1))) := by unfold Hid; rw [hE.out, hstep.out, Bool.true_and]
        go_wp2_with (go_at_call 114; refine (hc.out).mono ?_; rintro e w2 ⟨rfl, hw2⟩)
        subst hw2
        go_round
        case rel => exact ⟨k + 1, by simp, by omega, hF⟩
        case measure => simp [intOf]; omega
    · have hltI : ¬ (k : Int) < (s.size : Int) := by omega
      have hF : Hid (allP f 0 s.data.toList = true) := by unfold Hid; rw [hE.out, HE.out k (by omega)]
      go_wp2
      go_ret
      exact ⟨by rw [hF.out]; rfl, rfl⟩

-- label: the name; isLabel$1: the function; .pointer (some ⟨B, 0, none⟩): what it has bound; (B : Nat): what stands ahead
set_option maxRecDepth 100000 in
set_option maxHeartbeats 1000000 in
theorem all_label (f : Nat → Nat → Bool) (B : Nat) (s : ByteArray) (hs : s.size ≤ 140737488355328) (w : World)
    (hC0 : ∀ k b : Nat, k < s.size → b < 256 → Calls Tryz.prog 99 (#[.int .i64 k, .int .u8 b] ++ #[.pointer (some ⟨B, 0, none⟩)]) w fun e w' => e = .returned (.bool (f k b)) ∧ w' = w) :
    Calls Tryz.prog 98 #[.string s, .func (.func 99) #[] #[.pointer (some ⟨B, 0, none⟩)]] w fun e w' => e = .returned (.bool (allP f 0 s.data.toList)) ∧ w' = w := by
  have hC := hide hC0
  have HE : Hid (∀ k : Nat, s.size ≤ k → allP f k (s.data.toList.drop k) = true) := fun k hk => by rw [List.drop_eq_nil_of_le (by rw [sizeH_len]; omega)]; rfl
  have HS : Hid (∀ (k : Nat) (hk : k < s.size), allP f k (s.data.toList.drop k) = (f k (s[k]'hk).toNat && allP f (k + 1) (s.data.toList.drop (k + 1)))) := fun k hk => by
    rw [allP_at _ _ k (by rw [sizeH_len]; exact hk), getH_list s k hk]
  clear hC0
  go_enter Tryz.func98, Tryz.ntmps98
  go_wp2
  go_loop [8] (fun i => ∃ k : Nat, i = .int .i64 k ∧ k ≤ s.size ∧ Hid (allP f 0 s.data.toList = allP f k (s.data.toList.drop k))) (fun i => s.size - (intOf i).toNat)
  case atStart => exact ⟨0, rfl, Nat.zero_le _, rfl⟩
  case round =>
    obtain ⟨k, rfl, hk, hE⟩ := hrel
    by_cases hlt : k < s.size
    · have hltI : (k : Int) < (s.size : Int) := by omega
      have hstep := hide (HS.out k hlt)
      have hc := hide (hC.out k (s[k]'hlt).toNat hlt (s[k]'hlt).toNat_lt)
      generalize hq : f k (s[k]'hlt).toNat = q at hstep hc
      clear hq
      cases q with
      | false =>
        have hF : Hid (allP f 0 s.data.toList = false) := by unfold Hid; rw [hE.out, hstep.out]; rfl
        go_wp2_with (go_at_call 99; refine (hc.out).mono ?_; rintro e w2 ⟨rfl, hw2⟩)
        subst hw2
        go_ret
        exact ⟨by rw [hF.out]; rfl, rfl⟩
      | true =>
        have hF : Hid (allP f 0 s.data.toList = allP f (k + 1) (s.data.toList.drop (k + 1))) := by unfold Hid; rw [hE.out, hstep.out, Bool.true_and]
        go_wp2_with (go_at_call 99; refine (hc.out).mono ?_; rintro e w2 ⟨rfl, hw2⟩)
        subst hw2
        go_round
        case rel => exact ⟨k + 1, by simp, by omega, hF⟩
        case measure => simp [intOf]; omega
    · have hltI : ¬ (k : Int) < (s.size : Int) := by omega
      have hF : Hid (allP f 0 s.data.toList = true) := by unfold Hid; rw [hE.out, HE.out k (by omega)]
      go_wp2
      go_ret
      exact ⟨by rw [hF.out]; rfl, rfl⟩

set_option maxRecDepth 100000 in
set_option maxHeartbeats 1000000 in
theorem isNumber_any (s : ByteArray) (hs : s.size ≤ 140737488355328) (w : World) :
    Calls Tryz.prog 66 #[.string s] w fun e w' => e = .returned (.bool (numL s.data.toList)) ∧ w' = w := by
  have hC := hide (all_number (fun _ n => digN n) s hs w (fun k b _ _ => isNumber1_any k b w))
  rw [allP_all] at hC
  have hP : Hid (numL s.data.toList = s.data.toList.all (fun b => digN b.toNat)) := rfl
  generalize s.data.toList.all (fun b => digN b.toNat) = q at hC hP
  go_enter Tryz.func66, Tryz.ntmps66
  go_wp2_with (go_at_call 98; refine (hC.out).mono ?_; rintro e w2 ⟨rfl, rfl⟩)
  go_ret
  exact ⟨by rw [hP.out]; rfl, rfl⟩

set_option maxRecDepth 100000 in
set_option maxHeartbeats 1000000 in
theorem isLabel_any (s : ByteArray) (hs : s.size ≤ 140737488355328) (w : World) :
    Calls Tryz.prog 65 #[.string s] w fun e w' => e = .returned (.bool (labL s.data.toList)) ∧ Below w.heap.size w w' := by
  have hsl := sizeH_len s
  have hB : (w.alloc (.cells #[.int .i64 ((s.size : Int) - 1)] 3)).cell? ⟨w.heap.size, 0, none⟩ = some (.int .i64 ((s.size : Int) - 1)) := (Boxed.new w 3 _).cell
  have hL : Hid (Below w.heap.size w (w.alloc (.cells #[.int .i64 ((s.size : Int) - 1)] 3))) := (Below.refl _ _).alloc (Nat.le_refl _) _
  by_cases h0 : s.size = 0
  · have hP : Hid (labL s.data.toList = false) := by unfold Hid labL; rw [hsl, h0]; rfl
    have h0I : ¬ (0 : Int) < (s.size : Int) := by omega
    replace h0 := hide h0
    clear hB
    go_enter Tryz.func65, Tryz.ntmps65
    go_wp2
    go_ret
    exact ⟨by rw [hP.out]; rfl, hL.out⟩
  have h0I : (0 : Int) < (s.size : Int) := by omega
  by_cases h1 : s.size ≤ 63
  · have h1I : (s.size : Int) ≤ 63 := by omega
    have hC := hide (all_label (labP s.size) w.heap.size s hs _ (fun k b _ _ => isLabel1_any s.size k b w.heap.size _ h1 hB))
    have hP : Hid (labL s.data.toList = allP (labP s.size) 0 s.data.toList) := by unfold Hid labL; rw [hsl, decide_eq_true (by omega), decide_eq_true h1]; rfl
    generalize allP (labP s.size) 0 s.data.toList = q at hC hP
    clear hB
    go_enter Tryz.func65, Tryz.ntmps65
    go_wp2_with (go_at_call 98; refine (hC.out).mono ?_; rintro e w2 ⟨rfl, rfl⟩)
    go_ret
    exact ⟨by rw [hP.out]; rfl, hL.out⟩
  · have h1I : ¬ (s.size : Int) ≤ 63 := by omega
    have hP : Hid (labL s.data.toList = false) := by unfold Hid labL; rw [hsl, decide_eq_false h1, Bool.false_and, Bool.and_false]
    clear hB
    go_enter Tryz.func65, Tryz.ntmps65
    go_wp2
    go_ret
    exact ⟨by rw [hP.out]; rfl, hL.out⟩

end Go.Proofs.YtklchpdpooikdaaGreatDoor
