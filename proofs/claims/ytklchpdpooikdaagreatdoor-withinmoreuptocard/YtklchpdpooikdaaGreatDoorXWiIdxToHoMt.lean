/-
  slices.IndexFunc and ContainsFunc of subtrees, at each of within.Check's functions; slices.Concat.
  slices.Concat of two rows of subtrees.
  host.Match: does a pattern stand for a host?
-/
import Derived.Test.YtklchpdpooikdaaGreatDoorXWiRowToHoM
import Derived.Test.YtklchpdpooikdaaGreatDoorXHoR3ToHoSm
import Derived.Test.YtklchpdpooikdaaGreatDoorXHoSToHoE
namespace Go.Proofs.YtklchpdpooikdaaGreatDoor
open Go.RowKit Go.IntWalk Go.Shelf

/-- The first that is so, told from k on; else -1. -/
def idxF (p : Int × ByteArray → Bool) : Nat → List (Int × ByteArray) → Int
  | _, [] => -1
  | k, x :: r => if p x then (k : Int) else idxF p (k + 1) r
def idxT (p : Int × ByteArray → Bool) (xs : List (Int × ByteArray)) : Int := idxF p 0 xs
theorem idxF_at (p : Int × ByteArray → Bool) (xs : List (Int × ByteArray)) (k : Nat) (h : k < xs.length) : idxF p k (xs.drop k) = if p (xs.getD k (0, ByteArray.empty)) then (k : Int) else idxF p (k + 1) (xs.drop (k + 1)) := by
  rw [List.drop_eq_getElem_cons h, idxF]
  simp [List.getD, List.getElem?_eq_getElem h]


set_option maxRecDepth 100000 in
set_option maxHeartbeats 1000000 in
theorem idx_not  (p : Int × ByteArray → Bool) (I : World → Prop) (ao : Option Addr) (n c : Nat) (xs : List (Int × ByteArray)) (w : World) (hw : I w) (hA0 : ∀ W, I W → Ats W ao n c xs)
    (hC0 : ∀ x ∈ xs, ∀ W, I W → Calls Tryz.prog 15 (#[.agg #[.int .i64 x.1, .string x.2]] ++ #[]) W fun e w' => e = .returned (.bool (p x)) ∧ I w') :
    Calls Tryz.prog 16 #[.slice ao n c, .func (.func 15) #[] #[]] w fun e w' => e = .returned (.int .i64 (idxT p xs)) ∧ I w' := by
  have hA := hide hA0
  have hC := hide hC0
  have HI := hide hw
  have hl := (hA0 w hw).hl
  have hcap := (hA0 w hw).hcap
  have hmax := (hA0 w hw).hmax
  unfold maxLen at hmax
  have HS : Hid (∀ k : Nat, k < n → idxF p k (xs.drop k) = if p (xs.getD k (0, ByteArray.empty)) then (k : Int) else idxF p (k + 1) (xs.drop (k + 1))) := fun k hk => idxF_at p xs k (by omega)
  have HE : Hid (idxF p n (xs.drop n) = -1) := by unfold Hid; rw [List.drop_eq_nil_of_le (by omega)]; rfl
  have hmem : Hid (∀ k, k < n → xs.getD k (0, ByteArray.empty) ∈ xs) := fun k hk => getD_mem (by omega)
  clear hA0 hC0 hw hl
  go_enter Tryz.func16, Tryz.ntmps16
  go_wp2
  go_loopw [8] (fun i wr => ∃ k : Nat, i = .int .i64 k ∧ k ≤ n ∧ Hid (idxT p xs = idxF p k (xs.drop k)) ∧ Hid (I wr)) (fun i _ => n - (intOf i).toNat)
  case atStart => exact ⟨0, rfl, Nat.zero_le _, rfl, HI⟩
  case round =>
    obtain ⟨k, rfl, hk, hE, hI⟩ := hrel
    by_cases hlt : k < n
    · have hltI : (k : Int) < (n : Int) := by omega
      have hstep := hide (HS.out k hlt)
      have hm := hmem.out k hlt
      obtain ⟨b, off, rfl, hcl⟩ := (hA.out wr hI.out).hrd (by omega)
      obtain ⟨c0, c1⟩ := hcl k hlt
      have hc := hide (hC.out _ hm wr hI.out)
      clear hm hcl
      generalize xs.getD k (0, ByteArray.empty) = x at *
      obtain ⟨t, s⟩ := x
      simp only [] at c0 c1 hc
      generalize hq : p (t, s) = q at hstep hc
      clear hq
      cases q with
      | true =>
        have hF : Hid (idxT p xs = (k : Int)) := by unfold Hid; rw [hE.out, hstep.out, if_pos rfl]
        go_wp2_with (go_at_call 15; refine (hc.out).mono ?_; rintro e w2 ⟨rfl, hw2⟩)
        go_ret
        exact ⟨by rw [hF.out]; rfl, hw2⟩
      | false =>
        have hF : Hid (idxT p xs = idxF p (k + 1) (xs.drop (k + 1))) := by unfold Hid; rw [hE.out, hstep.out]; simp
        go_wp2_with (go_at_call 15; refine (hc.out).mono ?_; rintro e w2 ⟨rfl, hw2⟩)
        go_roundw
        case rel => exact ⟨k + 1, by simp, by omega, hF, hw2⟩
        case measure => simp [intOf]; omega
    · obtain rfl : k = n := by omega
      have nI : ¬ ((k : Int) < (k : Int)) := by omega
      have hF : Hid (idxT p xs = -1) := by unfold Hid; rw [hE.out, HE.out]
      go_wp2
      go_ret
      exact ⟨by rw [hF.out]; rfl, hI.out⟩

set_option maxRecDepth 100000 in
theorem ctn_not  (p : Int × ByteArray → Bool) (I : World → Prop) (ao : Option Addr) (n c : Nat) (xs : List (Int × ByteArray)) (w : World) (hw : I w) (hA0 : ∀ W, I W → Ats W ao n c xs)
    (hC0 : ∀ x ∈ xs, ∀ W, I W → Calls Tryz.prog 15 (#[.agg #[.int .i64 x.1, .string x.2]] ++ #[]) W fun e w' => e = .returned (.bool (p x)) ∧ I w') :
    Calls Tryz.prog 21 #[.slice ao n c, .func (.func 15) #[] #[]] w fun e w' => e = .returned (.bool (decide (0 ≤ idxT p xs))) ∧ I w' := by
  have h := hide (idx_not  p I ao n c xs w hw hA0 hC0)
  clear hA0 hC0 hw
  generalize idxT p xs = X at *
  go_enter Tryz.func21, Tryz.ntmps21
  go_wp2_with fail
  refine h.out.mono ?_
  rintro e w1 ⟨rfl, h1⟩
  go_wp2
  go_ret
  exact ⟨rfl, h1⟩


set_option maxRecDepth 100000 in
set_option maxHeartbeats 1000000 in
theorem idx_kind (B : Nat) (p : Int × ByteArray → Bool) (I : World → Prop) (ao : Option Addr) (n c : Nat) (xs : List (Int × ByteArray)) (w : World) (hw : I w) (hA0 : ∀ W, I W → Ats W ao n c xs)
    (hC0 : ∀ x ∈ xs, ∀ W, I W → Calls Tryz.prog 18 (#[.agg #[.int .i64 x.1, .string x.2]] ++ #[.pointer (some ⟨B, 0, none⟩)]) W fun e w' => e = .returned (.bool (p x)) ∧ I w') :
    Calls Tryz.prog 16 #[.slice ao n c, .func (.func 18) #[] #[.pointer (some ⟨B, 0, none⟩)]] w fun e w' => e = .returned (.int .i64 (idxT p xs)) ∧ I w' := by
  have hA := hide hA0
  have hC := hide hC0
  have HI := hide hw
  have hl := (hA0 w hw).hl
  have hcap := (hA0 w hw).hcap
  have hmax := (hA0 w hw).hmax
  unfold maxLen at hmax
  have HS : Hid (∀ k : Nat, k < n → idxF p k (xs.drop k) = if p (xs.getD k (0, ByteArray.empty)) then (k : Int) else idxF p (k + 1) (xs.drop (k + 1))) := fun k hk => idxF_at p xs k (by omega)
  have HE : Hid (idxF p n (xs.drop n) = -1) := by unfold Hid; rw [List.drop_eq_nil_of_le (by omega)]; rfl
  have hmem : Hid (∀ k, k < n → xs.getD k (0, ByteArray.empty) ∈ xs) := fun k hk => getD_mem (by omega)
  clear hA0 hC0 hw hl
  go_enter Tryz.func16, Tryz.ntmps16
  go_wp2
  go_loopw [8] (fun i wr => ∃ k : Nat, i = .int .i64 k ∧ k ≤ n ∧ Hid (idxT p xs = idxF p k (xs.drop k)) ∧ Hid (I wr)) (fun i _ => n - (intOf i).toNat)
  case atStart => exact ⟨0, rfl, Nat.zero_le _, rfl, HI⟩
  case round =>
    obtain ⟨k, rfl, hk, hE, hI⟩ := hrel
    by_cases hlt : k < n
    · have hltI : (k : Int) < (n : Int) := by omega
      have hstep := hide (HS.out k hlt)
      have hm := hmem.out k hlt
      obtain ⟨b, off, rfl, hcl⟩ := (hA.out wr hI.out).hrd (by omega)
      obtain ⟨c0, c1⟩ := hcl k hlt
      have hc := hide (hC.out _ hm wr hI.out)
      clear hm hcl
      generalize xs.getD k (0, ByteArray.empty) = x at *
      obtain ⟨t, s⟩ := x
      simp only [] at c0 c1 hc
      generalize hq : p (t, s) = q at hstep hc
      clear hq
      cases q with
      | true =>
        have hF : Hid (idxT p xs = (k : Int)) := by unfold Hid; rw [hE.out, hstep.out, if_pos rfl]
        go_wp2_with (go_at_call 18; refine (hc.out).mono ?_; rintro e w2 ⟨rfl, hw2⟩)
        go_ret
        exact ⟨by rw [hF.out]; rfl, hw2⟩
      | false =>
        have hF : Hid (idxT p xs = idxF p (k + 1) (xs.drop (k + 1))) := by unfold Hid; rw [hE.out, hstep.out]; simp
        go_wp2_with (go_at_call 18; refine (hc.out).mono ?_; rintro e w2 ⟨rfl, hw2⟩)
        go_roundw
        case rel => exact ⟨k + 1, by simp, by omega, hF, hw2⟩
        case measure => simp [intOf]; omega
    · obtain rfl : k = n := by omega
      have nI : ¬ ((k : Int) < (k : Int)) := by omega
      have hF : Hid (idxT p xs = -1) := by unfold Hid; rw [hE.out, HE.out]
      go_wp2
      go_ret
      exact ⟨by rw [hF.out]; rfl, hI.out⟩

set_option maxRecDepth 100000 in
theorem ctn_kind (B : Nat) (p : Int × ByteArray → Bool) (I : World → Prop) (ao : Option Addr) (n c : Nat) (xs : List (Int × ByteArray)) (w : World) (hw : I w) (hA0 : ∀ W, I W → Ats W ao n c xs)
    (hC0 : ∀ x ∈ xs, ∀ W, I W → Calls Tryz.prog 18 (#[.agg #[.int .i64 x.1, .string x.2]] ++ #[.pointer (some ⟨B, 0, none⟩)]) W fun e w' => e = .returned (.bool (p x)) ∧ I w') :
    Calls Tryz.prog 21 #[.slice ao n c, .func (.func 18) #[] #[.pointer (some ⟨B, 0, none⟩)]] w fun e w' => e = .returned (.bool (decide (0 ≤ idxT p xs))) ∧ I w' := by
  have h := hide (idx_kind B p I ao n c xs w hw hA0 hC0)
  clear hA0 hC0 hw
  generalize idxT p xs = X at *
  go_enter Tryz.func21, Tryz.ntmps21
  go_wp2_with fail
  refine h.out.mono ?_
  rintro e w1 ⟨rfl, h1⟩
  go_wp2
  go_ret
  exact ⟨rfl, h1⟩


set_option maxRecDepth 100000 in
set_option maxHeartbeats 1000000 in
theorem idx_takes (B : Nat) (p : Int × ByteArray → Bool) (I : World → Prop) (ao : Option Addr) (n c : Nat) (xs : List (Int × ByteArray)) (w : World) (hw : I w) (hA0 : ∀ W, I W → Ats W ao n c xs)
    (hC0 : ∀ x ∈ xs, ∀ W, I W → Calls Tryz.prog 19 (#[.agg #[.int .i64 x.1, .string x.2]] ++ #[.pointer (some ⟨B, 0, none⟩)]) W fun e w' => e = .returned (.bool (p x)) ∧ I w') :
    Calls Tryz.prog 16 #[.slice ao n c, .func (.func 19) #[] #[.pointer (some ⟨B, 0, none⟩)]] w fun e w' => e = .returned (.int .i64 (idxT p xs)) ∧ I w' := by
  have hA := hide hA0
  have hC := hide hC0
  have HI := hide hw
  have hl := (hA0 w hw).hl
  have hcap := (hA0 w hw).hcap
  have hmax := (hA0 w hw).hmax
  unfold maxLen at hmax
  have HS : Hid (∀ k : Nat, k < n → idxF p k (xs.drop k) = if p (xs.getD k (0, ByteArray.empty)) then (k : Int) else idxF p (k + 1) (xs.drop (k + 1))) := fun k hk => idxF_at p xs k (by omega)
  have HE : Hid (idxF p n (xs.drop n) = -1) := by unfold Hid; rw [List.drop_eq_nil_of_le (by omega)]; rfl
  have hmem : Hid (∀ k, k < n → xs.getD k (0, ByteArray.empty) ∈ xs) := fun k hk => getD_mem (by omega)
  clear hA0 hC0 hw hl
  go_enter Tryz.func16, Tryz.ntmps16
  go_wp2
  go_loopw [8] (fun i wr => ∃ k : Nat, i = .int .i64 k ∧ k ≤ n ∧ Hid (idxT p xs = idxF p k (xs.drop k)) ∧ Hid (I wr)) (fun i _ => n - (intOf i).toNat)
  case atStart => exact ⟨0, rfl, Nat.zero_le _, rfl, HI⟩
  case round =>
    obtain ⟨k, rfl, hk, hE, hI⟩ := hrel
    by_cases hlt : k < n
    · have hltI : (k : Int) < (n : Int) := by omega
      have hstep := hide (HS.out k hlt)
      have hm := hmem.out k hlt
      obtain ⟨b, off, rfl, hcl⟩ := (hA.out wr hI.out).hrd (by omega)
      obtain ⟨c0, c1⟩ := hcl k hlt
      have hc := hide (hC.out _ hm wr hI.out)
      clear hm hcl
      generalize xs.getD k (0, ByteArray.empty) = x at *
      obtain ⟨t, s⟩ := x
      simp only [] at c0 c1 hc
      generalize hq : p (t, s) = q at hstep hc
      clear hq
      cases q with
      | true =>
        have hF : Hid (idxT p xs = (k : Int)) := by unfold Hid; rw [hE.out, hstep.out, if_pos rfl]
        go_wp2_with (go_at_call 19; refine (hc.out).mono ?_; rintro e w2 ⟨rfl, hw2⟩)
        go_ret
        exact ⟨by rw [hF.out]; rfl, hw2⟩
      | false =>
        have hF : Hid (idxT p xs = idxF p (k + 1) (xs.drop (k + 1))) := by unfold Hid; rw [hE.out, hstep.out]; simp
        go_wp2_with (go_at_call 19; refine (hc.out).mono ?_; rintro e w2 ⟨rfl, hw2⟩)
        go_roundw
        case rel => exact ⟨k + 1, by simp, by omega, hF, hw2⟩
        case measure => simp [intOf]; omega
    · obtain rfl : k = n := by omega
      have nI : ¬ ((k : Int) < (k : Int)) := by omega
      have hF : Hid (idxT p xs = -1) := by unfold Hid; rw [hE.out, HE.out]
      go_wp2
      go_ret
      exact ⟨by rw [hF.out]; rfl, hI.out⟩

set_option maxRecDepth 100000 in
theorem ctn_takes (B : Nat) (p : Int × ByteArray → Bool) (I : World → Prop) (ao : Option Addr) (n c : Nat) (xs : List (Int × ByteArray)) (w : World) (hw : I w) (hA0 : ∀ W, I W → Ats W ao n c xs)
    (hC0 : ∀ x ∈ xs, ∀ W, I W → Calls Tryz.prog 19 (#[.agg #[.int .i64 x.1, .string x.2]] ++ #[.pointer (some ⟨B, 0, none⟩)]) W fun e w' => e = .returned (.bool (p x)) ∧ I w') :
    Calls Tryz.prog 21 #[.slice ao n c, .func (.func 19) #[] #[.pointer (some ⟨B, 0, none⟩)]] w fun e w' => e = .returned (.bool (decide (0 ≤ idxT p xs))) ∧ I w' := by
  have h := hide (idx_takes B p I ao n c xs w hw hA0 hC0)
  clear hA0 hC0 hw
  generalize idxT p xs = X at *
  go_enter Tryz.func21, Tryz.ntmps21
  go_wp2_with fail
  refine h.out.mono ?_
  rintro e w1 ⟨rfl, h1⟩
  go_wp2
  go_ret
  exact ⟨rfl, h1⟩


set_option maxRecDepth 100000 in
set_option maxHeartbeats 1000000 in
theorem idx_meet (B : Nat) (p : Int × ByteArray → Bool) (I : World → Prop) (ao : Option Addr) (n c : Nat) (xs : List (Int × ByteArray)) (w : World) (hw : I w) (hA0 : ∀ W, I W → Ats W ao n c xs)
    (hC0 : ∀ x ∈ xs, ∀ W, I W → Calls Tryz.prog 22 (#[.agg #[.int .i64 x.1, .string x.2]] ++ #[.pointer (some ⟨B, 0, none⟩)]) W fun e w' => e = .returned (.bool (p x)) ∧ I w') :
    Calls Tryz.prog 16 #[.slice ao n c, .func (.func 22) #[] #[.pointer (some ⟨B, 0, none⟩)]] w fun e w' => e = .returned (.int .i64 (idxT p xs)) ∧ I w' := by
  have hA := hide hA0
  have hC := hide hC0
  have HI := hide hw
  have hl := (hA0 w hw).hl
  have hcap := (hA0 w hw).hcap
  have hmax := (hA0 w hw).hmax
  unfold maxLen at hmax
  have HS : Hid (∀ k : Nat, k < n → idxF p k (xs.drop k) = if p (xs.getD k (0, ByteArray.empty)) then (k : Int) else idxF p (k + 1) (xs.drop (k + 1))) := fun k hk => idxF_at p xs k (by omega)
  have HE : Hid (idxF p n (xs.drop n) = -1) := by unfold Hid; rw [List.drop_eq_nil_of_le (by omega)]; rfl
  have hmem : Hid (∀ k, k < n → xs.getD k (0, ByteArray.empty) ∈ xs) := fun k hk => getD_mem (by omega)
  clear hA0 hC0 hw hl
  go_enter Tryz.func16, Tryz.ntmps16
  go_wp2
  go_loopw [8] (fun i wr => ∃ k : Nat, i = .int .i64 k ∧ k ≤ n ∧ Hid (idxT p xs = idxF p k (xs.drop k)) ∧ Hid (I wr)) (fun i _ => n - (intOf i).toNat)
  case atStart => exact ⟨0, rfl, Nat.zero_le _, rfl, HI⟩
  case round =>
    obtain ⟨k, rfl, hk, hE, hI⟩ := hrel
    by_cases hlt : k < n
    · have hltI : (k : Int) < (n : Int) := by omega
      have hstep := hide (HS.out k hlt)
      have hm := hmem.out k hlt
      obtain ⟨b, off, rfl, hcl⟩ := (hA.out wr hI.out).hrd (by omega)
      obtain ⟨c0, c1⟩ := hcl k hlt
      have hc := hide (hC.out _ hm wr hI.out)
      clear hm hcl
      generalize xs.getD k (0, ByteArray.empty) = x at *
      obtain ⟨t, s⟩ := x
      simp only [] at c0 c1 hc
      generalize hq : p (t, s) = q at hstep hc
      clear hq
      cases q with
      | true =>
        have hF : Hid (idxT p xs = (k : Int)) := by unfold Hid; rw [hE.out, hstep.out, if_pos rfl]
        go_wp2_with (go_at_call 22; refine (hc.out).mono ?_; rintro e w2 ⟨rfl, hw2⟩)
        go_ret
        exact ⟨by rw [hF.out]; rfl, hw2⟩
      | false =>
        have hF : Hid (idxT p xs = idxF p (k + 1) (xs.drop (k + 1))) := by unfold Hid; rw [hE.out, hstep.out]; simp
        go_wp2_with (go_at_call 22; refine (hc.out).mono ?_; rintro e w2 ⟨rfl, hw2⟩)
        go_roundw
        case rel => exact ⟨k + 1, by simp, by omega, hF, hw2⟩
        case measure => simp [intOf]; omega
    · obtain rfl : k = n := by omega
      have nI : ¬ ((k : Int) < (k : Int)) := by omega
      have hF : Hid (idxT p xs = -1) := by unfold Hid; rw [hE.out, HE.out]
      go_wp2
      go_ret
      exact ⟨by rw [hF.out]; rfl, hI.out⟩

set_option maxRecDepth 100000 in
theorem ctn_meet (B : Nat) (p : Int × ByteArray → Bool) (I : World → Prop) (ao : Option Addr) (n c : Nat) (xs : List (Int × ByteArray)) (w : World) (hw : I w) (hA0 : ∀ W, I W → Ats W ao n c xs)
    (hC0 : ∀ x ∈ xs, ∀ W, I W → Calls Tryz.prog 22 (#[.agg #[.int .i64 x.1, .string x.2]] ++ #[.pointer (some ⟨B, 0, none⟩)]) W fun e w' => e = .returned (.bool (p x)) ∧ I w') :
    Calls Tryz.prog 21 #[.slice ao n c, .func (.func 22) #[] #[.pointer (some ⟨B, 0, none⟩)]] w fun e w' => e = .returned (.bool (decide (0 ≤ idxT p xs))) ∧ I w' := by
  have h := hide (idx_meet B p I ao n c xs w hw hA0 hC0)
  clear hA0 hC0 hw
  generalize idxT p xs = X at *
  go_enter Tryz.func21, Tryz.ntmps21
  go_wp2_with fail
  refine h.out.mono ?_
  rintro e w1 ⟨rfl, h1⟩
  go_wp2
  go_ret
  exact ⟨rfl, h1⟩

end Go.Proofs.YtklchpdpooikdaaGreatDoor

namespace Go.Proofs.YtklchpdpooikdaaGreatDoor
open Go.RowKit Go.IntWalk Go.Shelf
attribute [local go_sem ↓] appOfH_of

theorem OwnT.len2 {w : World} {base : Nat} {a : Option Addr} {n c : Nat} {xs : List (Int × ByteArray)} (h : OwnT w base (.slice a n c) xs) : xs.length = n := by
  obtain ⟨hh, ⟨h2, h3⟩ | ⟨g, cap, cur, h2, _⟩⟩ := h
  · cases h2; exact h3
  · have e := Value.slice.inj h2; exact e.2.1.symm

set_option maxRecDepth 100000 in
set_option maxHeartbeats 2000000 in
theorem concat_any (B : Nat) (a1 : Option Addr) (n1 c1 : Nat) (xs : List (Int × ByteArray)) (a2 : Option Addr) (n2 c2 : Nat) (ys : List (Int × ByteArray)) (w : World) (h0 : w.cell? ⟨B, 0, none⟩ = some (.slice a1 n1 c1)) (h1 : w.cell? ⟨B, 1, none⟩ = some (.slice a2 n2 c2))
    (hA : Ats w a1 n1 c1 xs) (hB : Ats w a2 n2 c2 ys) (z1 : a1 = none → n1 = 0 ∧ c1 = 0) (z2 : a2 = none → n2 = 0 ∧ c2 = 0) (l1 : n1 ≤ 2097152) (l2 : n2 ≤ 2097152) :
    Calls Tryz.prog 17 #[.slice (some ⟨B, 0, none⟩) 2 2] w fun e w' => ∃ a c, e = .returned (.slice a (n1 + n2) c) ∧ OwnT w' w.heap.size (.slice a (n1 + n2) c) (xs ++ ys) ∧ Below w.heap.size w w' := by
  have HA := hide hA
  have HB := hide hB
  have HZ1 := hide z1
  have HZ2 := hide z2
  have n1I : (n1 : Int) ≤ 2097152 := by omega
  have n2I : (n2 : Int) ≤ 2097152 := by omega
  have hG := hide (grow_any (n1 + n2) (by omega) w)
  have hcast : ((n1 + n2 : Nat) : Int) = (n1 : Int) + (n2 : Int) := by omega
  rw [hcast] at hG
  clear hA hB z1 z2 hcast
  go_enter Tryz.func17, Tryz.ntmps17
  go_wp2
  go_loopw [3, 11] (fun v i wr => wr = w ∧ ((v = .int .i64 0 ∧ i = .int .i64 0) ∨ (v = .int .i64 n1 ∧ i = .int .i64 1) ∨ (v = .int .i64 ((n1 : Int) + (n2 : Int)) ∧ i = .int .i64 2))) (fun _ i _ => 2 - (intOf i).toNat)
  case atStart => exact ⟨rfl, .inl ⟨rfl, rfl⟩⟩
  case round =>
    obtain ⟨rfl, ⟨rfl, rfl⟩ | ⟨rfl, rfl⟩ | ⟨rfl, rfl⟩⟩ := hrel
    · go_wp2
      go_roundw
      case rel => exact ⟨by trivial, .inr (.inl ⟨by simp, by simp⟩)⟩
      case measure => simp [intOf]
    · go_wp2
      go_roundw
      case rel => exact ⟨by trivial, .inr (.inr ⟨by simp, by simp⟩)⟩
      case measure => simp [intOf]
    · obtain ⟨wo, rfl⟩ : ∃ wo : World, wo = wr := ⟨_, rfl⟩
      go_wp2_with fail
      refine hG.out.mono ?_
      rintro e w1 ⟨ag, cg, rfl, og, bg⟩
      have HO1 := hide og
      have HB1 := hide bg
      clear og bg hG
      go_wp2
      go_loopw [6, 27] (fun v i wr => Below wo.heap.size wo wr ∧ ∃ (a : Option Addr) (c : Nat), (v = .slice a 0 c ∧ i = .int .i64 0 ∧ Hid (OwnT wr wo.heap.size (.slice a 0 c) [])) ∨ (v = .slice a n1 c ∧ i = .int .i64 1 ∧ Hid (OwnT wr wo.heap.size (.slice a n1 c) xs)) ∨ (v = .slice a (n1 + n2) c ∧ i = .int .i64 2 ∧ Hid (OwnT wr wo.heap.size (.slice a (n1 + n2) c) (xs ++ ys)))) (fun _ i _ => 2 - (intOf i).toNat)
      case atStart => exact ⟨HB1.out, ag, cg, .inl ⟨rfl, rfl, HO1⟩⟩
      case round =>
        obtain ⟨hBq, a, c, ⟨rfl, rfl, hO⟩ | ⟨rfl, rfl, hO⟩ | ⟨rfl, rfl, hO⟩⟩ := hrel
        · have k0 := (hBq.cell (lt_of_cell h0)).trans h0
          obtain ⟨a4, c4, w4, hrun, ho4, hg4⟩ := run_appT wr 22 wo.heap.size (.slice a 0 c) [] hO.out a1 n1 c1 xs (HA.out.below hBq) HZ1.out n1 (by simp) (by omega) hBq.size
          rw [appOfH_of] at hrun
          have hB4 := hBq.grown hg4 hBq.size (fun j hj => (World.ownsRow.lt hO.out j hj).1)
          have HO4 := hide ho4
          clear hg4 ho4 hO
          go_wp2
          go_roundw
          case rel => exact ⟨hB4, a4, c4, .inr (.inl ⟨rfl, by simp, HO4⟩)⟩
          case measure => simp [intOf]
        · have k1 := (hBq.cell (lt_of_cell h1)).trans h1
          obtain ⟨a4, c4, w4, hrun, ho4, hg4⟩ := run_appT wr 22 wo.heap.size (.slice a n1 c) xs hO.out a2 n2 c2 ys (HB.out.below hBq) HZ2.out (n1 + n2) (by rw [hO.out.len2]) (by omega) hBq.size
          rw [appOfH_of] at hrun
          have hB4 := hBq.grown hg4 hBq.size (fun j hj => (World.ownsRow.lt hO.out j hj).1)
          have HO4 := hide ho4
          clear hg4 ho4 hO
          go_wp2
          go_roundw
          case rel => exact ⟨hB4, a4, c4, .inr (.inr ⟨rfl, by simp, HO4⟩)⟩
          case measure => simp [intOf]
        · go_wp2
          go_ret
          exact ⟨a, c, rfl, hO.out, hBq⟩

end Go.Proofs.YtklchpdpooikdaaGreatDoor

namespace Go.Proofs.YtklchpdpooikdaaGreatDoor
open Go.RowKit Go.Shelf Go.IntWalk

set_option maxRecDepth 100000 in
set_option maxHeartbeats 1000000 in
theorem behind_any (s : List UInt8) (hs : s.length ≤ 1048576) (m : Int) (w : World) (hm : ML w m) :
    Calls Tryz.prog 53 #[.string (tx s)] w fun e w' => e = .returned (.string (tx (behL s))) ∧ Below w.heap.size w w' := by
  have hC := hide (cut_any s 46 hs m w hm)
  have hb : Hid ((cutD 46 s).2.1 = behL s) := rfl
  generalize (cutD 46 s).1 = a at hC
  generalize (cutD 46 s).2.1 = b at hC hb
  generalize (cutD 46 s).2.2 = c at hC
  go_enter Tryz.func53, Tryz.ntmps53
  go_wp2_with (go_at_call 82; refine (hC.out).mono ?_; rintro e w1 ⟨rfl, B1⟩)
  go_ret
  exact ⟨by rw [← hb.out]; rfl, B1⟩

theorem foldH_any (a b : List UInt8) (ha : a.length ≤ 1048576) (xa : ∀ x ∈ a, x.toNat < 128) (xb : ∀ x ∈ b, x.toNat < 128) (w : World) :
    Calls Tryz.prog 52 #[.string (tx a), .string (tx b)] w fun e w' => e = .returned (.bool (Lib.equalFold a b)) ∧ w' = w :=
  Tryz.strings_EqualFold (tx a) (tx b) w (by rw [tx_size]; omega) (fun _ x hx => xa x (List.mem_of_getElem? hx)) (fun _ x hx => xb x (List.mem_of_getElem? hx))

set_option maxRecDepth 100000 in
set_option maxHeartbeats 2000000 in
theorem match_any (p s : List UInt8) (hp : p.length ≤ 1048576) (hs : s.length ≤ 1048576) (m : Int) (w : World) (hm : ML w m) :
    Calls Tryz.prog 33 #[.string (tx p), .string (tx s)] w fun e w' => e = .returned (.bool (matchL p s)) ∧ Below w.heap.size w w' := by
  have hM : Hid (matchL p s = (dnsL s && (if dnsL p = true then Lib.equalFold p s else wildL p && Lib.equalFold (behL p) (behL s)))) := rfl
  have d1 := hide (fun W h => dns_any s hs m W h)
  have d2 := hide (fun W h => dns_any p hp m W h)
  have d3 := hide (fun W h => wild_any p hp m W h)
  have d4 := hide (fun W h => behind_any p hp m W h)
  have d5 := hide (fun W h => behind_any s hs m W h)
  have bl : (behL p).length ≤ 1048576 := Nat.le_trans (cutD_rest 46 p).1 hp
  have f1 : Hid (dnsL s = true → dnsL p = true → ∀ W, Calls Tryz.prog 52 #[.string (tx p), .string (tx s)] W fun e w' => e = .returned (.bool (Lib.equalFold p s)) ∧ w' = W) := fun h1 h2 W => foldH_any p s hp (dns_ascii h2) (dns_ascii h1) W
  have f2 : Hid (dnsL s = true → wildL p = true → ∀ W, Calls Tryz.prog 52 #[.string (tx (behL p)), .string (tx (behL s))] W fun e w' => e = .returned (.bool (Lib.equalFold (behL p) (behL s))) ∧ w' = W) := fun h1 h2 W => by
    obtain ⟨r, rfl, hr, hb, _, _⟩ := wild_split h2
    exact foldH_any _ _ bl (by rw [hb]; exact dns_ascii hr) (beh_ascii h1) W
  have HM := hide hm
  have hne : Hid (wildL p = true → tx p ≠ tx s → True) := fun _ _ => trivial
  clear hm bl hne
  generalize Lib.equalFold p s = x1 at *
  generalize Lib.equalFold (behL p) (behL s) = x2 at *
  generalize dnsL s = b1 at *
  generalize dnsL p = b2 at *
  generalize wildL p = b3 at *
  generalize matchL p s = R at *
  generalize behL p = pb at *
  generalize behL s = sb at *
  generalize tx s = S at *
  generalize tx p = Q at *
  generalize tx sb = SB at *
  generalize tx pb = PB at *
  cases b1 with
  | false =>
    have hR : Hid (R = false) := hM.out
    go_enter Tryz.func33, Tryz.ntmps33
    go_wp2_with (go_at_call 43; refine (d1.out _ HM.out).mono ?_; rintro e w1 ⟨rfl, B1⟩)
    go_ret
    exact ⟨by rw [hR.out]; rfl, B1⟩
  | true =>
    cases b2 with
    | true =>
      have hR : Hid (R = x1) := hM.out
      have F := hide (f1.out rfl rfl)
      go_enter Tryz.func33, Tryz.ntmps33
      go_wp2_with (first | (go_at_call 43; refine (d2.out _ hm1.out).mono ?_; rintro e w2 ⟨rfl, B2⟩) | (go_at_call 43; refine (d1.out _ HM.out).mono ?_; rintro e w1 ⟨rfl, B1⟩; have hm1 := hide (HM.out.below B1)) | (go_at_call 52; refine (F.out _).mono ?_; rintro e w3 ⟨rfl, h3⟩; subst h3))
      go_ret
      exact ⟨by rw [hR.out]; rfl, B1.trans (B2.mono B1.size)⟩
    | false =>
      cases b3 with
      | false =>
        have hR : Hid (R = false) := hM.out
        go_enter Tryz.func33, Tryz.ntmps33
        go_wp2_with (first | (go_at_call 43; refine (d2.out _ hm1.out).mono ?_; rintro e w2 ⟨rfl, B2⟩; have hm2 := hide (hm1.out.below B2)) | (go_at_call 43; refine (d1.out _ HM.out).mono ?_; rintro e w1 ⟨rfl, B1⟩; have hm1 := hide (HM.out.below B1)) | (go_at_call 49; refine (d3.out _ hm2.out).mono ?_; rintro e w3 ⟨rfl, B3⟩))
        go_ret
        exact ⟨by rw [hR.out]; rfl, (B1.trans (B2.mono B1.size)).trans (B3.mono (Nat.le_trans B1.size B2.size))⟩
      | true =>
        have hR : Hid (R = x2) := hM.out
        have F := hide (f2.out rfl rfl)
        go_enter Tryz.func33, Tryz.ntmps33
        go_wp2_with (first | (go_at_call 43; refine (d2.out _ hm1.out).mono ?_; rintro e w2 ⟨rfl, B2⟩; have hm2 := hide (hm1.out.below B2)) | (go_at_call 43; refine (d1.out _ HM.out).mono ?_; rintro e w1 ⟨rfl, B1⟩; have hm1 := hide (HM.out.below B1)) | (go_at_call 49; refine (d3.out _ hm2.out).mono ?_; rintro e w3 ⟨rfl, B3⟩; have hm3 := hide (hm2.out.below B3)) | (go_at_call 53; refine (d5.out _ hm4.out).mono ?_; rintro e w5 ⟨rfl, B5⟩) | (go_at_call 53; refine (d4.out _ hm3.out).mono ?_; rintro e w4 ⟨rfl, B4⟩; have hm4 := hide (hm3.out.below B4)) | (go_at_call 52; refine (F.out _).mono ?_; rintro e w6 ⟨rfl, h6⟩; subst h6))
        go_ret
        exact ⟨by rw [hR.out]; rfl, ((((B1.trans (B2.mono B1.size)).trans (B3.mono (Nat.le_trans B1.size B2.size))).trans (B4.mono (Nat.le_trans (Nat.le_trans B1.size B2.size) B3.size))).trans (B5.mono (Nat.le_trans (Nat.le_trans (Nat.le_trans B1.size B2.size) B3.size) B4.size)))⟩

end Go.Proofs.YtklchpdpooikdaaGreatDoor
