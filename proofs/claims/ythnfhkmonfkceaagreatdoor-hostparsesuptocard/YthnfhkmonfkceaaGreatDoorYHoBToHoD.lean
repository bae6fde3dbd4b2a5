/-
  package host: digits, letters; a text each of whose bytes may stand at its place; labels, numbers.
  host.Labels, and the function that it answers: it goes over the pieces of a text between its dots.
  The memory of a function that ranges over a function lies with BoxSt; host's parts import it here.
  host.DNS: is a text a host's name?
-/
import Derived.RangeFuncNested
import Derived.RangeFuncBound
import Derived.RangeFuncCalls
import Derived.RangeFuncLeaves
import Derived.RangeFuncBox
import Derived.Shelf.Abstract
import Derived.Shelf.RegionOpen
import Derived.WalkKit
import Derived.OwnWalkIn
import Derived.TacticsInMore
import Derived.LoopNIn
import Derived.LoopIn
import Derived.Test.YthnfhkmonfkceaaGreatDoorYOSizeToRangeP
import Derived.Test.YthnfhkmonfkceaaGreatDoorYHoMToNmRef
import Derived.Test.YthnfhkmonfkceaaGreatDoorYShelfAll
import Derived.Test.YthnfhkmonfkceaaGreatDoorYItsToNextS
import Derived.Test.YthnfhkmonfkceaaGreatDoorYNmRDcToNmDec
namespace Go.Proofs.YthnfhkmonfkceaaGreatDoor
open Go.RowKit Go.Shelf Go.IntWalk
attribute [local go_sem] Oper.semAt_some

theorem sizeH_len (s : ByteArray) : s.data.toList.length = s.size := by rw [Array.length_toList]; rfl
theorem getH_list (s : ByteArray) (p : Nat) (hp : p < s.size) (hl : p < s.data.toList.length) : s.data.toList[p]'hl = s[p]'hp := by simp; rfl

set_option maxRecDepth 100000 in
set_option maxHeartbeats 1000000 in
theorem isDigit_any (b : Nat) (w : World) :
    Calls Tryz.prog 70 #[.int .u8 b] w fun e w' => e = .returned (.bool (digN b)) ∧ w' = w := by
  have hP : Hid (digN b = decide (48 ≤ b ∧ b ≤ 57)) := rfl
  generalize digN b = R at hP ⊢
  go_enter Tryz.func70, Tryz.ntmps70
  go_wp2
  all_goals go_ret
  all_goals refine ⟨?_, rfl⟩
  all_goals rw [hP.out]
  all_goals show Ending.returned (Value.bool _) = Ending.returned (Value.bool _)
  all_goals congr 1
  all_goals congr 1
  all_goals rw [Bool.eq_iff_iff]
  all_goals simp
  all_goals omega

set_option maxRecDepth 100000 in
set_option maxHeartbeats 1000000 in
theorem isPlain_any (b : Nat) (w : World) :
    Calls Tryz.prog 68 #[.int .u8 b] w fun e w' => e = .returned (.bool (plN b)) ∧ w' = w := by
  have hP : Hid (plN b = (decide (65 ≤ b ∧ b ≤ 90) || decide (97 ≤ b ∧ b ≤ 122) || digN b)) := rfl
  have hC := hide (isDigit_any b)
  generalize digN b = M at hC hP
  generalize plN b = R at hP ⊢
  go_enter Tryz.func68, Tryz.ntmps68
  go_wp2_with (first | (go_at_call 70; refine (hC.out _).mono ?_; rintro e w' ⟨rfl, rfl⟩) | go_in)
  all_goals go_ret
  all_goals refine ⟨?_, rfl⟩
  all_goals rw [hP.out]
  all_goals show Ending.returned (Value.bool _) = Ending.returned (Value.bool _)
  all_goals congr 2
  all_goals rw [Bool.eq_iff_iff]
  all_goals cases M <;> simp <;> omega

set_option maxRecDepth 100000 in
set_option maxHeartbeats 1000000 in
theorem isNumber1_any (k b : Nat) (w : World) :
    Calls Tryz.prog 69 #[.int .i64 k, .int .u8 b] w fun e w' => e = .returned (.bool (digN b)) ∧ w' = w := by
  have hC := hide (isDigit_any b)
  generalize digN b = M at hC
  go_enter Tryz.func69, Tryz.ntmps69
  go_wp2_with (go_at_call 70; refine (hC.out _).mono ?_; rintro e w' ⟨rfl, rfl⟩)
  go_ret
  exact ⟨rfl, rfl⟩

set_option maxRecDepth 100000 in
set_option maxHeartbeats 1000000 in
theorem isLabel1_any (n k b B : Nat) (w : World) (_hn : n ≤ 63) (hB : w.cell? ⟨B, 0, none⟩ = some (.int .i64 ((n : Int) - 1))) :
    Calls Tryz.prog 67 #[.int .i64 k, .int .u8 b, .pointer (some ⟨B, 0, none⟩)] w fun e w' => e = .returned (.bool (labP n k b)) ∧ w' = w := by
  have hP : Hid (labP n k b = (plN b || (decide (b = 45) && (decide (0 < k) && decide (k + 1 < n))))) := rfl
  have hC := hide (isPlain_any b)
  generalize plN b = M at hC hP
  generalize labP n k b = R at hP ⊢
  cases M
  · go_enter Tryz.func67, Tryz.ntmps67
    go_wp2_with (first | (go_at_call 68; refine (hC.out _).mono ?_; rintro e w' ⟨rfl, rfl⟩) | go_in)
    all_goals go_ret
    all_goals refine ⟨?_, rfl⟩
    all_goals rw [hP.out]
    all_goals show Ending.returned (Value.bool _) = Ending.returned (Value.bool _)
    all_goals congr 2
    all_goals rw [Bool.eq_iff_iff]
    all_goals simp
    all_goals omega
  · go_enter Tryz.func67, Tryz.ntmps67
    go_wp2_with (first | (go_at_call 68; refine (hC.out _).mono ?_; rintro e w' ⟨rfl, rfl⟩) | go_in)
    all_goals go_ret
    all_goals exact ⟨by rw [hP.out]; rfl, rfl⟩


set_option maxRecDepth 100000 in
theorem marks_loc : ∀ b : Nat, b < 256 → decide (0 ≤ Lib.indexByte [95, 43, 45] ((b : Int).toNat.toUInt8)) = (decide (b = 95) || (decide (b = 43) || decide (b = 45))) := by decide

set_option maxRecDepth 100000 in
set_option maxHeartbeats 1000000 in
theorem isLocal1_any (k b : Nat) (w : World) (hb : b < 256) :
    Calls Tryz.prog 73 #[.int .i64 k, .int .u8 b] w fun e w' => e = .returned (.bool (locN b)) ∧ w' = w := by
  have hP : Hid (locN b = (plN b || decide (0 ≤ Lib.indexByte [95, 43, 45] ((b : Int).toNat.toUInt8)))) := by unfold Hid locN; rw [marks_loc b hb]
  have hC := hide (isPlain_any b)
  have hI := hide (fun W => Tryz.strings_IndexByte ⟨#[95, 43, 45]⟩ b W)
  have e1 : (⟨#[95, 43, 45]⟩ : ByteArray).data.toList = [95, 43, 45] := rfl
  rw [e1] at hI
  clear e1
  generalize Lib.indexByte [95, 43, 45] ((b : Int).toNat.toUInt8) = x at hP hI
  generalize plN b = M at hC hP
  generalize locN b = R at hP ⊢
  by_cases hx : 0 ≤ x
  · cases M
    · go_enter Tryz.func73, Tryz.ntmps73
      go_wp2_with (first | (go_at_call 68; refine (hC.out _).mono ?_; rintro e w' ⟨rfl, hw⟩; subst hw) | (go_at_call 74; refine (hI.out _).mono ?_; rintro e w' ⟨rfl, hw⟩; subst hw))
      go_ret
      exact ⟨by rw [hP.out, decide_eq_true hx]; rfl, rfl⟩
    · go_enter Tryz.func73, Tryz.ntmps73
      go_wp2_with (first | (go_at_call 68; refine (hC.out _).mono ?_; rintro e w' ⟨rfl, hw⟩; subst hw) | (go_at_call 74; refine (hI.out _).mono ?_; rintro e w' ⟨rfl, hw⟩; subst hw))
      go_ret
      exact ⟨by rw [hP.out]; rfl, rfl⟩
  · have hx2 : x < 0 := by omega
    cases M
    · go_enter Tryz.func73, Tryz.ntmps73
      go_wp2_with (first | (go_at_call 68; refine (hC.out _).mono ?_; rintro e w' ⟨rfl, hw⟩; subst hw) | (go_at_call 74; refine (hI.out _).mono ?_; rintro e w' ⟨rfl, hw⟩; subst hw))
      go_ret
      exact ⟨by rw [hP.out, decide_eq_false (by omega)]; rfl, rfl⟩
    · go_enter Tryz.func73, Tryz.ntmps73
      go_wp2_with (first | (go_at_call 68; refine (hC.out _).mono ?_; rintro e w' ⟨rfl, hw⟩; subst hw) | (go_at_call 74; refine (hI.out _).mono ?_; rintro e w' ⟨rfl, hw⟩; subst hw))
      go_ret
      exact ⟨by rw [hP.out]; rfl, rfl⟩

-- number: the name; isNumber$1: the function; : what it has bound; : what stands ahead
set_option maxRecDepth 100000 in
set_option maxHeartbeats 1000000 in
theorem all_number (f : Nat → Nat → Bool)  (s : ByteArray) (hs : s.size ≤ 140737488355328) (w : World)
    (hC0 : ∀ k b : Nat, k < s.size → b < 256 → Calls Tryz.prog 69 (#[.int .i64 k, .int .u8 b] ++ #[]) w fun e w' => e = .returned (.bool (f k b)) ∧ w' = w) :
    Calls Tryz.prog 66 #[.string s, .func (.func 69) #[] #[]] w fun e w' => e = .returned (.bool (allP f 0 s.data.toList)) ∧ w' = w := by
  have hC := hide hC0
  have HE : Hid (∀ k : Nat, s.size ≤ k → allP f k (s.data.toList.drop k) = true) := fun k hk => by rw [List.drop_eq_nil_of_le (by rw [sizeH_len]; omega)]; rfl
  have HS : Hid (∀ (k : Nat) (hk : k < s.size), allP f k (s.data.toList.drop k) = (f k (s[k]'hk).toNat && allP f (k + 1) (s.data.toList.drop (k + 1)))) := fun k hk => by
    rw [allP_at _ _ k (by rw [sizeH_len]; exact hk), getH_list s k hk]
  clear hC0
  go_enter Tryz.func66, Tryz.ntmps66
  go_wp2
  go_loop [8] (fun i => ∃ k : Nat, i = .int .i64 k ∧ k ≤ s.size ∧ Hid (allP f 0 s.data.toList = allP f k (s.data.toList.drop k))) (fun i => s.size - (intOf i).toNat)
  case atStart => exact ⟨0, rfl, Nat.zero_le _, rfl⟩
  case round =>
    obtain ⟨k, rfl, hk, hE⟩ := hrel
    by_cases hlt : k < s.size
    · have hltI : (k : Int) < (s.size : Int) := by omega
      have hstep := hide (HS.out k hlt)
      have hc := hide (hC.out k (s[k]'hlt).toNat hlt (s[k]'hlt).toNat_lt)
      generalize hq : f k (s[k]'hlt).toNat = q at hstep hc
      clear hq
      cases q with
      | false =>
        have hF : Hid (allP f 0 s.data.toList = false) := by unfold Hid; rw [hE.out, hstep.out]; rfl
        go_wp2_with (go_at_call 69; refine (hc.out).mono ?_; rintro e w2 ⟨rfl, hw2⟩)
        subst hw2
        go_ret
        exact ⟨by rw [hF.out]; rfl, rfl⟩
      | true =>
        have hF : Hid (allP f 0 s.data.toList = allP f (k + 1) (s.data.toList.drop (k + 1))) := by unfold Hid; rw [hE.out, hstep.out, Bool.true_and]
        go_wp2_with (go_at_call 69; refine (hc.out).mono ?_; rintro e w2 ⟨rfl, hw2⟩)
        subst hw2
        go_round
        case rel => exact ⟨k + 1, by simp, by omega, hF⟩
        case measure => simp [intOf]; omega
    · have hltI : ¬ (k : Int) < (s.size : Int) := by omega
      have hF : Hid (allP f 0 s.data.toList = true) := by unfold Hid; rw [hE.out, HE.out k (by omega)]
      go_wp2
      go_ret
      exact ⟨by rw [hF.out]; rfl, rfl⟩

-- local: the name; isLocal$1: the function; : what it has bound; : what stands ahead
set_option maxRecDepth 100000 in
set_option maxHeartbeats 1000000 in
theorem all_local (f : Nat → Nat → Bool)  (s : ByteArray) (hs : s.size ≤ 140737488355328) (w : World)
    (hC0 : ∀ k b : Nat, k < s.size → b < 256 → Calls Tryz.prog 73 (#[.int .i64 k, .int .u8 b] ++ #[]) w fun e w' => e = .returned (.bool (f k b)) ∧ w' = w) :
    Calls Tryz.prog 66 #[.string s, .func (.func 73) #[] #[]] w fun e w' => e = .returned (.bool (allP f 0 s.data.toList)) ∧ w' = w := by
  have hC := hide hC0
  have HE : Hid (∀ k : Nat, s.size ≤ k → allP f k (s.data.toList.drop k) = true) := fun k hk => by rw [List.drop_eq_nil_of_le (by rw [sizeH_len]; omega)]; rfl
  have HS : Hid (∀ (k : Nat) (hk : k < s.size), allP f k (s.data.toList.drop k) = (f k (s[k]'hk).toNat && allP f (k + 1) (s.data.toList.drop (k + 1)))) := fun k hk => by
    rw [allP_at _ _ k (by rw [sizeH_len]; exact hk), getH_list s k hk]
  clear hC0
  go_enter Tryz.func66, Tryz.ntmps66
  go_wp2
  go_loop [8] (fun i => ∃ k : Nat, i = .int .i64 k ∧ k ≤ s.size ∧ Hid (allP f 0 s.data.toList = allP f k (s.data.toList.drop k))) (fun i => s.size - (intOf i).toNat)
  case atStart => exact ⟨0, rfl, Nat.zero_le _, rfl⟩
  case round =>
    obtain ⟨k, rfl, hk, hE⟩ := hrel
    by_cases hlt : k < s.size
    · have hltI : (k : Int) < (s.size : Int) := by omega
      have hstep := hide (HS.out k hlt)
      have hc := hide (hC.out k (s[k]'hlt).toNat hlt (s[k]'hlt).toNat_lt)
      generalize hq : f k (s[k]'hlt).toNat = q at hstep hc
      clear hq
      cases q with
      | false =>
        have hF : Hid (allP f 0 s.data.toList = false) := by unfold Hid; rw [hE.out, hstep.out]; rfl
        go_wp2_with (go_at_call 73; refine (hc.out).mono ?_; rintro e w2 ⟨rfl, hw2⟩)
        subst hw2
        go_ret
        exact ⟨by rw [hF.out]; rfl, rfl⟩
      | true =>
        have hF : Hid (allP f 0 s.data.toList = allP f (k + 1) (s.data.toList.drop (k + 1))) := by unfold Hid; rw [hE.out, hstep.out, Bool.true_and]
        go_wp2_with (go_at_call 73; refine (hc.out).mono ?_; rintro e w2 ⟨rfl, hw2⟩)
        subst hw2
        go_round
        case rel => exact ⟨k + 1, by simp, by omega, hF⟩
        case measure => simp [intOf]; omega
    · have hltI : ¬ (k : Int) < (s.size : Int) := by omega
      have hF : Hid (allP f 0 s.data.toList = true) := by unfold Hid; rw [hE.out, HE.out k (by omega)]
      go_wp2
      go_ret
      exact ⟨by rw [hF.out]; rfl, rfl⟩

-- label: the name; isLabel$1: the function; .pointer (some ⟨B, 0, none⟩): what it has bound; (B : Nat): what stands ahead
set_option maxRecDepth 100000 in
set_option maxHeartbeats 1000000 in
theorem all_label (f : Nat → Nat → Bool) (B : Nat) (s : ByteArray) (hs : s.size ≤ 140737488355328) (w : World)
    (hC0 : ∀ k b : Nat, k < s.size → b < 256 → Calls Tryz.prog 67 (#[.int .i64 k, .int .u8 b] ++ #[.pointer (some ⟨B, 0, none⟩)]) w fun e w' => e = .returned (.bool (f k b)) ∧ w' = w) :
    Calls Tryz.prog 66 #[.string s, .func (.func 67) #[] #[.pointer (some ⟨B, 0, none⟩)]] w fun e w' => e = .returned (.bool (allP f 0 s.data.toList)) ∧ w' = w := by
  have hC := hide hC0
  have HE : Hid (∀ k : Nat, s.size ≤ k → allP f k (s.data.toList.drop k) = true) := fun k hk => by rw [List.drop_eq_nil_of_le (by rw [sizeH_len]; omega)]; rfl
  have HS : Hid (∀ (k : Nat) (hk : k < s.size), allP f k (s.data.toList.drop k) = (f k (s[k]'hk).toNat && allP f (k + 1) (s.data.toList.drop (k + 1)))) := fun k hk => by
    rw [allP_at _ _ k (by rw [sizeH_len]; exact hk), getH_list s k hk]
  clear hC0
  go_enter Tryz.func66, Tryz.ntmps66
  go_wp2
  go_loop [8] (fun i => ∃ k : Nat, i = .int .i64 k ∧ k ≤ s.size ∧ Hid (allP f 0 s.data.toList = allP f k (s.data.toList.drop k))) (fun i => s.size - (intOf i).toNat)
  case atStart => exact ⟨0, rfl, Nat.zero_le _, rfl⟩
  case round =>
    obtain ⟨k, rfl, hk, hE⟩ := hrel
    by_cases hlt : k < s.size
    · have hltI : (k : Int) < (s.size : Int) := by omega
      have hstep := hide (HS.out k hlt)
      have hc := hide (hC.out k (s[k]'hlt).toNat hlt (s[k]'hlt).toNat_lt)
      generalize hq : f k (s[k]'hlt).toNat = q at hstep hc
      clear hq
      cases q with
      | false =>
        have hF : Hid (allP f 0 s.data.toList = false) := by unfold Hid; rw [hE.out, hstep.out]; rfl
        go_wp2_with (go_at_call 67; refine (hc.out).mono ?_; rintro e w2 ⟨rfl, hw2⟩)
        subst hw2
        go_ret
        exact ⟨by rw [hF.out]; rfl, rfl⟩
      | true =>
        have hF : Hid (allP f 0 s.data.toList = allP f (k + 1) (s.data.toList.drop (k + 1))) := by unfold Hid; rw [hE.out, hstep.out, Bool.true_and]
        go_wp2_with (go_at_call 67; refine (hc.out).mono ?_; rintro e w2 ⟨rfl, hw2⟩)
        subst hw2
        go_round
        case rel => exact ⟨k + 1, by simp, by omega, hF⟩
        case measure => simp [intOf]; omega
    · have hltI : ¬ (k : Int) < (s.size : Int) := by omega
      have hF : Hid (allP f 0 s.data.toList = true) := by unfold Hid; rw [hE.out, HE.out k (by omega)]
      go_wp2
      go_ret
      exact ⟨by rw [hF.out]; rfl, rfl⟩

set_option maxRecDepth 100000 in
set_option maxHeartbeats 1000000 in
theorem isNumber_any (s : ByteArray) (hs : s.size ≤ 140737488355328) (w : World) :
    Calls Tryz.prog 48 #[.string s] w fun e w' => e = .returned (.bool (numL s.data.toList)) ∧ w' = w := by
  have hC := hide (all_number (fun _ n => digN n) s hs w (fun k b _ _ => isNumber1_any k b w))
  rw [allP_all] at hC
  have hP : Hid (numL s.data.toList = s.data.toList.all (fun b => digN b.toNat)) := rfl
  generalize s.data.toList.all (fun b => digN b.toNat) = q at hC hP
  go_enter Tryz.func48, Tryz.ntmps48
  go_wp2_with (go_at_call 66; refine (hC.out).mono ?_; rintro e w2 ⟨rfl, rfl⟩)
  go_ret
  exact ⟨by rw [hP.out]; rfl, rfl⟩

set_option maxRecDepth 100000 in
set_option maxHeartbeats 1000000 in
theorem isLabel_any (s : ByteArray) (hs : s.size ≤ 140737488355328) (w : World) :
    Calls Tryz.prog 47 #[.string s] w fun e w' => e = .returned (.bool (labL s.data.toList)) ∧ Below w.heap.size w w' := by
  have hsl := sizeH_len s
  have hB : (w.alloc (.cells #[.int .i64 ((s.size : Int) - 1)] 3)).cell? ⟨w.heap.size, 0, none⟩ = some (.int .i64 ((s.size : Int) - 1)) := (Boxed.new w 3 _).cell
  have hL : Hid (Below w.heap.size w (w.alloc (.cells #[.int .i64 ((s.size : Int) - 1)] 3))) := (Below.refl _ _).alloc (Nat.le_refl _) _
  by_cases h0 : s.size = 0
  · have hP : Hid (labL s.data.toList = false) := by unfold Hid labL; rw [hsl, h0]; rfl
    have h0I : ¬ (0 : Int) < (s.size : Int) := by omega
    replace h0 := hide h0
    clear hB
    go_enter Tryz.func47, Tryz.ntmps47
    go_wp2
    go_ret
    exact ⟨by rw [hP.out]; rfl, hL.out⟩
  have h0I : (0 : Int) < (s.size : Int) := by omega
  by_cases h1 : s.size ≤ 63
  · have h1I : (s.size : Int) ≤ 63 := by omega
    have hC := hide (all_label (labP s.size) w.heap.size s hs _ (fun k b _ _ => isLabel1_any s.size k b w.heap.size _ h1 hB))
    have hP : Hid (labL s.data.toList = allP (labP s.size) 0 s.data.toList) := by unfold Hid labL; rw [hsl, decide_eq_true (by omega), decide_eq_true h1]; rfl
    generalize allP (labP s.size) 0 s.data.toList = q at hC hP
    clear hB
    go_enter Tryz.func47, Tryz.ntmps47
    go_wp2_with (go_at_call 66; refine (hC.out).mono ?_; rintro e w2 ⟨rfl, rfl⟩)
    go_ret
    exact ⟨by rw [hP.out]; rfl, hL.out⟩
  · have h1I : ¬ (s.size : Int) ≤ 63 := by omega
    have hP : Hid (labL s.data.toList = false) := by unfold Hid labL; rw [hsl, decide_eq_false h1, Bool.false_and, Bool.and_false]
    clear hB
    go_enter Tryz.func47, Tryz.ntmps47
    go_wp2
    go_ret
    exact ⟨by rw [hP.out]; rfl, hL.out⟩

end Go.Proofs.YthnfhkmonfkceaaGreatDoor

namespace Go.Proofs.YthnfhkmonfkceaaGreatDoor
open Go.RowKit Go.Shelf Go.IntWalk
attribute [local go_sem] Oper.semAt_some

theorem labels_in (n : Nat) (s : ByteArray) (w : World) :
    CallsIn Fence.wide n Tryz.prog 46 #[.string s] w fun e w' => e = .returned (.func (.func 65) #[] #[.pointer (some ⟨w.heap.size, 0, none⟩)]) ∧ w' = w.alloc (.cells #[.string s] 9) := by
  refine callsIn_of_wp Tryz.func46 rfl trivial ?_ rfl
  simp only [Tryz.ntmps46, List.size_toArray, List.length_cons, List.length_nil, Nat.reduceAdd, Nat.reduceSub, Array.replicate_succ, Array.replicate_zero, List.push_toArray, List.append_toArray, List.nil_append, List.cons_append]
  gi_wp2
  go_ret
  exact ⟨rfl, rfl⟩

theorem cloneH_any (s : ByteArray) (hs : s.size ≤ 140737488355328) (w : World) :
    Calls Tryz.prog 53 #[.string s] w fun e w' => e = .returned (.string s) ∧ Below w.heap.size w w' := by
  have hC := hide (fun W => Tryz.stringslite_Clone s W (by omega))
  go_enter Tryz.func53, Tryz.ntmps53
  go_wp2_with (go_at_call 76; refine (hC.out _).mono ?_; rintro e w2 ⟨rfl, h2⟩)
  go_ret
  exact ⟨rfl, h2⟩

/-- A row of bytes as a text. -/
def tx (l : List UInt8) : ByteArray := ⟨l.toArray⟩
theorem tx_list (l : List UInt8) : (tx l).data.toList = l := rfl
theorem tx_size (l : List UInt8) : (tx l).size = l.length := rfl
theorem tx_of (s : ByteArray) : tx s.data.toList = s := rfl

/-- The library's variable is laid. -/
def ML (w : World) (m : Int) : Prop := w.cell? ⟨1, 0, none⟩ = some (.int .i64 m)
theorem ML.below {w w' : World} {m : Int} (h : ML w m) (hb : Below w.heap.size w w') : ML w' m := (hb.cell (lt_of_cell h)).trans h

/-- strings.Cut at one byte. -/
theorem cut_any (l : List UInt8) (d : UInt8) (hs : l.length ≤ 1048576) (m : Int) (w : World) (hm : ML w m) :
    Calls Tryz.prog 27 #[.string (tx l), .string ⟨#[d]⟩] w fun e w' => e = .returned (.tuple #[.string (tx (cutD d l).1), .string (tx (cutD d l).2.1), .bool (cutD d l).2.2]) ∧ Below w.heap.size w w' := by
  refine (Tryz.strings_Cut (tx l) ⟨#[d]⟩ m w (by rw [tx_size]; omega) hm).mono ?_
  rintro e w' ⟨rfl, q, rfl⟩
  refine ⟨?_, ⟨rfl, rfl, rfl, Nat.le_refl _, fun _ _ => rfl⟩⟩
  have e1 : (⟨#[d]⟩ : ByteArray).data.toList = [d] := rfl
  rw [e1, tx_list, cut_one]
  rfl

/-- How much is left to go over. -/
def labM : Value → Value → Nat
  | .string s, .bool true => s.size + 1
  | _, _ => 0

set_option maxRecDepth 100000 in
set_option maxHeartbeats 4000000 in
theorem labels1_in (n : Nat) (hn : 1 ≤ n) (l Bs : Nat) (s : List UInt8) (hs : s.length ≤ 1048576) (m : Int) (J : List (List UInt8) → World → Prop) (Jx : World → Prop) (W : World)
    (hH : ∀ ws W1, J ws W1 → ML W1 m) (hB0 : W.cell? ⟨Bs, 0, none⟩ = some (.string (tx s))) (hK : ∀ ws W1 W2, J ws W1 → Below W1.heap.size W1 W2 → J ws W2)
    (hY : ∀ (u : List UInt8) (ws : List (List UInt8)) W1, J (u :: ws) W1 → u.length ≤ s.length → YieldAt Fence.wide (n - 1) Tryz.prog l #[.string (tx u)] W1 fun e W' =>
      (e = .returned (.bool true) ∧ J ws W') ∨ (e = .returned (.bool false) ∧ Jx W'))
    (h0 : J (labs s) W) :
    CallsIn Fence.wide n Tryz.prog 65 #[.func (.yield l) #[] #[], .pointer (some ⟨Bs, 0, none⟩)] W fun e W' => (∃ v, e = .returned v) ∧ (J [] W' ∨ Jx W') := by
  refine callsIn_of_wp Tryz.func65 rfl trivial ?_ rfl
  simp only [Tryz.ntmps65, List.size_toArray, List.length_cons, List.length_nil, Nat.reduceAdd, Nat.reduceSub, Array.replicate_succ, Array.replicate_zero, List.push_toArray, List.append_toArray, List.nil_append, List.cons_append]
  gi_wp2_with fail
  gi_loopw [3, 4] (fun rest more wr => ∃ (ys : List UInt8) (b : Bool), rest = .string (tx ys) ∧ more = .bool b ∧ ys.length ≤ s.length ∧ Hid (b = true → J (labs ys) wr) ∧ Hid (b = false → J [] wr)) (fun rest more _ => labM rest more)
  case atStart => exact ⟨s, true, rfl, rfl, Nat.le_refl _, fun _ => h0, fun h => by cases h⟩
  case round =>
    obtain ⟨ys, b, rfl, rfl, hys, hJ, hE⟩ := hrel
    cases b with
    | true =>
      have hJ1 := hide (hJ.out rfl)
      obtain ⟨c1, c2, c3⟩ := cutD_rest 46 ys
      have hcut := hide (cut_any ys 46 (by omega) m wr (hH _ wr hJ1.out))
      have hlab := labs_cut ys
      have hm := hide (fun W1 W2 (h : Below W1.heap.size W1 W2) (h2 : Below wr.heap.size wr W1) => hK _ _ _ (hK _ _ _ hJ1.out h2) h)
      rw [hlab] at hm
      have hcl := hide (fun W => cloneH_any (tx (cutD 46 ys).1) (by rw [tx_size]; omega) W)
      have HY := hide (fun W1 (h : J ((cutD 46 ys).1 :: (if (cutD 46 ys).2.2 = true then labs (cutD 46 ys).2.1 else [])) W1) => hY _ _ W1 h (by omega))
      have hsz := hide (tx_size ys)
      have hsz2 := hide (tx_size (cutD 46 ys).2.1)
      have hc3 := hide c3
      have hle : (cutD 46 ys).2.1.length ≤ s.length := by omega
      clear c1 c2 c3 hY hJ hE hlab
      generalize (cutD 46 ys).1 = A at hcut HY hm hcl
      generalize (cutD 46 ys).2.1 = R at hcut HY hsz2 hc3 hle hm
      generalize (cutD 46 ys).2.2 = fd at hcut HY hc3 hm
      gi_wp2_with (first | (refine ⟨trivial, ?_⟩; gi_at_call 27; refine (callsIn_wide.2 hcut.out).mono ?_; rintro e w1 ⟨rfl, D1⟩) | (refine ⟨trivial, ?_⟩; gi_at_call 53; refine (callsIn_wide.2 (hcl.out _)).mono ?_; rintro e w2 ⟨rfl, D2⟩; obtain ⟨fn, tmps, assign, body, hy, hR⟩ := HY.out w2 (hm.out _ _ D2 D1)))
      refine hR.mono ?_
      rintro e W3 (⟨rfl, hJ3⟩ | ⟨rfl, hx⟩)
      · have h3 := hide hJ3
        have hms : Hid (labM (.string (tx R)) (.bool fd) < labM (.string (tx ys)) (.bool true)) := by
          unfold Hid
          cases fd with
          | true => have := hc3.out rfl; simp only [labM, hsz.out, hsz2.out]; omega
          | false => simp [labM]
        clear hJ3
        gi_wp2
        exact ⟨⟨R, fd, rfl, rfl, hle, fun h => by have := h3.out; rwa [if_pos h] at this, fun h => by have := h3.out; rwa [if_neg (by rw [h]; decide)] at this⟩, hms.out⟩
      · gi_wp2
        refine bodyPost_ret (results_none rfl _ _ _) rfl ?_
        exact ⟨⟨_, rfl⟩, .inr hx⟩
    | false =>
      have hE1 := hide (hE.out rfl)
      clear hE hJ
      gi_wp2
      go_end0
      exact ⟨⟨_, rfl⟩, .inl hE1.out⟩

end Go.Proofs.YthnfhkmonfkceaaGreatDoor

namespace Go.Proofs.YthnfhkmonfkceaaGreatDoor
end Go.Proofs.YthnfhkmonfkceaaGreatDoor

namespace Go.Proofs.YthnfhkmonfkceaaGreatDoor
open Go.RowKit Go.Shelf Go.IntWalk
attribute [local go_sem] Oper.semAt_some

set_option maxRecDepth 100000 in
theorem dns_leave (w W : World) (tmps : Array Value) (R : Bool) (D : Nat) (bx : List (Nat × TypeId × Value)) (h : BSt w bx [D] W) (h0 : bx[0]? = some (w.heap.size, 4, .bool R)) (ht : tmps[2]? = some (.pointer (some ⟨w.heap.size, 0, none⟩))) :
    LeavesInM Fence.wide 6 Tryz.prog Tryz.f22 tmps (fun e w' => e = .returned (.bool R) ∧ Below w.heap.size w w') [{ target := .collected D, args := #[] }] .returning W := by
  have h1 := (h.dfr D (by simp)).2
  have h2 := h.take (by simp)
  have c1 := (h2.get 0 h0).cell
  refine ⟨by simp, .inl ⟨_, _, rfl, run_takeDeferred h1, ?_⟩⟩
  exact ⟨.bool R, by simp [results, Tryz.results22, go_sem, ht, c1, Array.getD_eq_getD_getElem?], rfl, h2.bel⟩

set_option maxRecDepth 100000 in
set_option maxHeartbeats 4000000 in
theorem dns_in (s : List UInt8) (hs : s.length ≤ 1048576) (m : Int) (w : World) (hm : ML w m) :
    CallsIn Fence.wide 6 Tryz.prog 22 #[.string (tx s)] w fun e w' => e = .returned (.bool (dnsL s)) ∧ Below w.heap.size w w' := by
  refine callsIn_of_wp_marks Tryz.func22 rfl trivial ?_ rfl
  simp only [Tryz.ntmps22, List.size_toArray, List.length_cons, List.length_nil, Nat.reduceAdd, Nat.reduceSub, Array.replicate_succ, Array.replicate_zero, List.push_toArray, List.append_toArray, List.nil_append, List.cons_append]
  have hsz := tx_size s
  by_cases hlen : s.length ≤ 253
  · have hgt : ¬ (253 : Int) < ((tx s).size : Int) := by rw [hsz]; omega
    gi_wp2_with (refine ⟨trivial, ?_⟩; gi_at_call 46; refine (labels_in _ _ _).mono ?_; rintro e w' ⟨rfl, rfl⟩)
    rename_i K hK
    have b0 := (((BSt.start w).new 4 (.bool false)).new 9 (.string ⟨#[]⟩)).new 9 (.string (tx s))
    simp only [World.size_alloc, List.nil_append, List.cons_append] at b0
    generalize ((w.alloc (.cells #[.bool false] 4)).alloc (.cells #[.string ⟨#[]⟩] 9)).alloc (.cells #[.string (tx s)] 9) = W0 at b0 ⊢
    have HR : Hid (dnsG [] (labs s) = dnsL s) := by unfold Hid dnsL; rw [decide_eq_true hlen, Bool.true_and]
    obtain ⟨R, hRd⟩ : ∃ R, dnsL s = R := ⟨_, rfl⟩
    rw [hRd] at HR
    replace hRd := hide hRd
    generalize hA : Act.mk _ _ = A
    refine range_enter rfl (by decide) (gf := 65) (lb := #[.pointer (some ⟨w.heap.size + 1 + 1, 0, none⟩)]) (by subst hA; rfl) trivial (enters_of Tryz.func65 (by kernel_rfl) rfl) ?_
    intro fn hfn
    generalize hrec : recOf fn _ _ _ _ _ = r
    have i0 := LSt.enter b0 (r .ready none)
    have hDl : W0.heap.size + 1 ≠ W0.heap.size := by omega
    generalize hW1 : (W0.alloc (.deferred (some []))).alloc (.loop (r .ready none)) = W1 at i0 ⊢
    generalize W0.heap.size + 1 = l at i0 hDl ⊢
    generalize W0.heap.size = D at i0 hDl hrec ⊢
    clear hW1
    refine (labels1_in 5 (by decide) l (w.heap.size + 1 + 1) s hs m (fun ws W => ∃ last : List UInt8, last.length ≤ s.length ∧ LSt w [(w.heap.size, 4, .bool false), (w.heap.size + 1, 9, .string (tx last)), (w.heap.size + 1 + 1, 9, .string (tx s))] [D] l (r .ready none) W ∧ dnsG last ws = R)
      (fun W => ∃ last : List UInt8, LSt w [(w.heap.size, 4, .bool false), (w.heap.size + 1, 9, .string (tx last)), (w.heap.size + 1 + 1, 9, .string (tx s))] [D] l (r (.done) (some .ret)) W ∧ R = false) W1 ?_ (i0.st.get 2 rfl).cell ?_ ?_ ⟨[], Nat.zero_le _, i0, HR.out⟩).mono ?_
    · rintro ws W2 ⟨last, _, hst, _⟩
      exact hm.below hst.st.bel
    · rintro ws W2 W3 ⟨last, hl, hst, hr⟩ hb
      exact ⟨last, hl, hst.below hb, hr⟩
    · rintro u ws W2 ⟨last, hl, hst, hr⟩ hu
      have hlp := hst.loop
      rw [← hrec] at hlp
      subst hA
      refine range_round (a₁ := ?A1) hfn hlp rfl ?_ ?_
      rotate_left
      · intro K hK
        gi_wp2
        exact hK
      · rw [hrec]
        have HI := hide (hst.put (r .busy none))
        generalize W2.putObj l (.loop (r .busy none)) = W3 at HI ⊢
        have hC := hide (fun W => isLabel_any (tx u) (by rw [tx_size]; omega) W)
        rw [tx_list] at hC
        have hG : Hid (labL u = true → dnsG u ws = R) := fun e => by rw [dnsG, e, Bool.true_and] at hr; exact hr
        have hG2 : Hid (labL u = false → R = false) := fun e => by rw [dnsG, e, Bool.false_and] at hr; exact hr.symm
        clear hr hst hlp hrec i0 hK b0 HR
        generalize labL u = q at hC hG hG2
        cases q with
        | true =>
          gi_wp2_with (refine ⟨trivial, ?_⟩; gi_at_call 47; refine (CallsIn.inRound l (callsIn_wide.2 (hC.out _))).mono ?_; rintro e w2 ⟨rfl, B2⟩; have HI2 := hide (HI.out.below B2); have cl := (HI2.out.st.get 1 rfl).cell; have fl := (HI2.out.st.get 1 rfl).frozen)
          have HI3 := HI2.out.set 1 rfl (.string (tx u))
          exact ⟨HI3.loop, .inl ⟨rfl, u, hu, HI3.put _, hG.out trivial⟩⟩
        | false =>
          gi_wp2_with (refine ⟨trivial, ?_⟩; gi_at_call 47; refine (CallsIn.inRound l (callsIn_wide.2 (hC.out _))).mono ?_; rintro e w2 ⟨rfl, B2⟩; have HI2 := hide (HI.out.below B2); have cl := (HI2.out.st.get 0 rfl).cell; have fl := (HI2.out.st.get 0 rfl).frozen)
          have HI3 := HI2.out.set 0 rfl (.bool false)
          exact ⟨HI3.loop, .inr ⟨rfl, last, HI3.put _, hG2.out trivial⟩⟩
    · rintro e W' ⟨⟨v, rfl⟩, ⟨last, hl, hst, hr⟩ | ⟨last, hst, hr⟩⟩
      · have hlp := hst.loop
        rw [← hrec] at hlp
        refine range_done hlp ?_
        rw [hrec]
        have HI := hide (hst.put (r .exhausted none))
        generalize W'.putObj l (.loop (r .exhausted none)) = W3 at HI ⊢
        subst hA
        refine hK _ _ ?_
        have cl := (HI.out.st.get 1 rfl).cell
        have hC := hide (fun W => isNumber_any (tx last) (by rw [tx_size]; omega) W)
        rw [tx_list] at hC
        have hr2 : Hid ((!numL last) = R) := hr
        clear hr hst hlp hrec i0 hK b0 HR
        have c0 := (HI.out.st.get 0 rfl).cell
        have f0 := (HI.out.st.get 0 rfl).frozen
        generalize numL last = q at hC hr2
        gi_wp2_with (refine ⟨trivial, ?_⟩; gi_at_call 48; refine (callsIn_wide.2 (hC.out _)).mono ?_; rintro e w2 ⟨rfl, rfl⟩)
        rw [hRd.out, ← hr2.out]
        exact dns_leave w _ _ _ D _ (HI.out.st.set 0 rfl _) rfl rfl
      · have hlp := hst.loop
        rw [← hrec] at hlp
        refine range_left hlp ?_
        rw [hrec]
        have HI := hide (hst.put (r .exhausted (some .ret)))
        generalize W'.putObj l (.loop (r .exhausted (some .ret))) = W3 at HI ⊢
        subst hA
        clear hst hlp hrec i0 hK b0 HR
        gi_wp2
        rw [hRd.out, hr]
        exact dns_leave w _ _ _ D _ HI.out.st rfl rfl
  · have hgt : (253 : Int) < ((tx s).size : Int) := by rw [hsz]; omega
    have hF : Hid (dnsL s = false) := by unfold Hid dnsL; rw [decide_eq_false hlen]; rfl
    have b0 := hide ((BSt.start w).new 4 (.bool false))
    gi_wp2
    have c1 := (b0.out.get 0 rfl).cell
    rw [hF.out]
    refine ⟨.bool false, by simp [results, Tryz.results22, go_sem, c1, Array.getD_eq_getD_getElem?], rfl, b0.out.bel⟩

theorem dns_any (s : List UInt8) (hs : s.length ≤ 1048576) (m : Int) (w : World) (hm : ML w m) :
    Calls Tryz.prog 22 #[.string (tx s)] w fun e w' => e = .returned (.bool (dnsL s)) ∧ Below w.heap.size w w' := callsIn_wide.1 (dns_in s hs m w hm)

end Go.Proofs.YthnfhkmonfkceaaGreatDoor
