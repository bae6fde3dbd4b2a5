/-
  clock.fields, clock.fullYear.
-/
import Derived.Test.YtnpimjfdidbdfabDoorTForm
import Derived.Test.YtnpimjfdidbdfabDoorCSix
import Derived.Deep.RegionHeld3
namespace Go.Proofs.YtnpimjfdidbdfabDoor
open Go.RowKit

/-- The bytes of a content from one place to another. -/
def seg (xs : List Int) (a c : Nat) : List Int := (xs.take c).drop a

theorem seg_dig {xs : List Int} {n : Nat} (hd : ∀ x ∈ xs.take n, 48 ≤ x ∧ x ≤ 57) (a c : Nat) (h : c ≤ n) : ∀ x ∈ seg xs a c, 48 ≤ x ∧ x ≤ 57 := by
  intro x hx
  have h1 := List.mem_of_mem_drop hx
  refine hd x ?_
  rw [show xs.take c = (xs.take n).take c by rw [List.take_take, Nat.min_eq_left h]] at h1
  exact List.mem_of_mem_take h1

set_option maxRecDepth 100000 in
set_option maxHeartbeats 8000000 in
theorem fields_2 (b off cap : Nat) (xs : List Int) (w : World) (hs : Src w (some ⟨b, off, none⟩) 13 cap xs) (hf : formB 2 xs = true) :
    Calls Tryd.prog 15 #[.slice (some ⟨b, off, none⟩) 13 cap, .int .i64 2] w fun e w' => e = .returned (agg6 (numB (seg xs 0 2)) (numB (seg xs 2 4)) (numB (seg xs 4 6)) (numB (seg xs 6 8)) (numB (seg xs 8 10)) (numB (seg xs 10 12))) ∧ Below w.heap.size w w' := by
  obtain ⟨hl, _, hd⟩ := formB_parts hf
  have hcap := hs.hcap
  have hmax := hs.hmax
  unfold maxLen at hmax
  have N0 : Hid (∀ W, Below w.heap.size w W → Calls Tryd.prog 24 #[.slice (cutA (some ⟨b, off, none⟩) cap 0) 2 (cap - 0)] W fun e w' => e = .returned (.int .i64 (numB (seg xs 0 2))) ∧ w' = W) := fun W hW => number_any _ 2 _ (seg xs 0 2) W ((hs.cut 0 2 (by omega) (by omega)).below hW) (by omega) (seg_dig hd 0 2 (by omega))
  have b0 := numB_4 (seg xs 0 2) (by unfold seg; simp; omega) (seg_dig hd 0 2 (by omega))
  have s0 : ∀ W, (Instr.slice 22 (.slice (some ⟨b, off, none⟩) 13 cap) none (some (.int .i64 2)) none).run Tryd.prog W = .ok (.slice (cutA (some ⟨b, off, none⟩) cap 0) 2 (cap - 0)) W := fun W => by have := slice_hi W (some ⟨b, off, none⟩) 13 cap 2 2 rfl (by omega); exact this
  have N1 : Hid (∀ W, Below w.heap.size w W → Calls Tryd.prog 24 #[.slice (cutA (some ⟨b, off, none⟩) cap 2) 2 (cap - 2)] W fun e w' => e = .returned (.int .i64 (numB (seg xs 2 4))) ∧ w' = W) := fun W hW => number_any _ 2 _ (seg xs 2 4) W ((hs.cut 2 4 (by omega) (by omega)).below hW) (by omega) (seg_dig hd 2 4 (by omega))
  have b1 := numB_4 (seg xs 2 4) (by unfold seg; simp; omega) (seg_dig hd 2 4 (by omega))
  have s1 : ∀ W, (Instr.slice 22 (.slice (some ⟨b, off, none⟩) 13 cap) (some (.int .i64 2)) (some (.int .i64 4)) none).run Tryd.prog W = .ok (.slice (cutA (some ⟨b, off, none⟩) cap 2) 2 (cap - 2)) W := fun W => slice_lh W _ 13 cap 2 4 2 4 rfl rfl (by omega) (by omega)
  have N2 : Hid (∀ W, Below w.heap.size w W → Calls Tryd.prog 24 #[.slice (cutA (some ⟨b, off, none⟩) cap 4) 2 (cap - 4)] W fun e w' => e = .returned (.int .i64 (numB (seg xs 4 6))) ∧ w' = W) := fun W hW => number_any _ 2 _ (seg xs 4 6) W ((hs.cut 4 6 (by omega) (by omega)).below hW) (by omega) (seg_dig hd 4 6 (by omega))
  have b2 := numB_4 (seg xs 4 6) (by unfold seg; simp; omega) (seg_dig hd 4 6 (by omega))
  have s2 : ∀ W, (Instr.slice 22 (.slice (some ⟨b, off, none⟩) 13 cap) (some (.int .i64 4)) (some (.int .i64 6)) none).run Tryd.prog W = .ok (.slice (cutA (some ⟨b, off, none⟩) cap 4) 2 (cap - 4)) W := fun W => slice_lh W _ 13 cap 4 6 4 6 rfl rfl (by omega) (by omega)
  have N3 : Hid (∀ W, Below w.heap.size w W → Calls Tryd.prog 24 #[.slice (cutA (some ⟨b, off, none⟩) cap 6) 2 (cap - 6)] W fun e w' => e = .returned (.int .i64 (numB (seg xs 6 8))) ∧ w' = W) := fun W hW => number_any _ 2 _ (seg xs 6 8) W ((hs.cut 6 8 (by omega) (by omega)).below hW) (by omega) (seg_dig hd 6 8 (by omega))
  have b3 := numB_4 (seg xs 6 8) (by unfold seg; simp; omega) (seg_dig hd 6 8 (by omega))
  have s3 : ∀ W, (Instr.slice 22 (.slice (some ⟨b, off, none⟩) 13 cap) (some (.int .i64 6)) (some (.int .i64 8)) none).run Tryd.prog W = .ok (.slice (cutA (some ⟨b, off, none⟩) cap 6) 2 (cap - 6)) W := fun W => slice_lh W _ 13 cap 6 8 6 8 rfl rfl (by omega) (by omega)
  have N4 : Hid (∀ W, Below w.heap.size w W → Calls Tryd.prog 24 #[.slice (cutA (some ⟨b, off, none⟩) cap 8) 2 (cap - 8)] W fun e w' => e = .returned (.int .i64 (numB (seg xs 8 10))) ∧ w' = W) := fun W hW => number_any _ 2 _ (seg xs 8 10) W ((hs.cut 8 10 (by omega) (by omega)).below hW) (by omega) (seg_dig hd 8 10 (by omega))
  have b4 := numB_4 (seg xs 8 10) (by unfold seg; simp; omega) (seg_dig hd 8 10 (by omega))
  have s4 : ∀ W, (Instr.slice 22 (.slice (some ⟨b, off, none⟩) 13 cap) (some (.int .i64 8)) (some (.int .i64 10)) none).run Tryd.prog W = .ok (.slice (cutA (some ⟨b, off, none⟩) cap 8) 2 (cap - 8)) W := fun W => slice_lh W _ 13 cap 8 10 8 10 rfl rfl (by omega) (by omega)
  have N5 : Hid (∀ W, Below w.heap.size w W → Calls Tryd.prog 24 #[.slice (cutA (some ⟨b, off, none⟩) cap 10) 2 (cap - 10)] W fun e w' => e = .returned (.int .i64 (numB (seg xs 10 12))) ∧ w' = W) := fun W hW => number_any _ 2 _ (seg xs 10 12) W ((hs.cut 10 12 (by omega) (by omega)).below hW) (by omega) (seg_dig hd 10 12 (by omega))
  have b5 := numB_4 (seg xs 10 12) (by unfold seg; simp; omega) (seg_dig hd 10 12 (by omega))
  have s5 : ∀ W, (Instr.slice 22 (.slice (some ⟨b, off, none⟩) 13 cap) (some (.int .i64 10)) (some (.int .i64 12)) none).run Tryd.prog W = .ok (.slice (cutA (some ⟨b, off, none⟩) cap 10) 2 (cap - 10)) W := fun W => slice_lh W _ 13 cap 10 12 10 12 rfl rfl (by omega) (by omega)
  generalize numB (seg xs 0 2) = F0 at *
  obtain ⟨C0, hC0⟩ : ∃ C, cap - 0 = C := ⟨_, rfl⟩
  rw [hC0] at N0 s0
  clear hC0
  generalize cutA (some ⟨b, off, none⟩) cap 0 = A0 at *
  generalize numB (seg xs 2 4) = F1 at *
  obtain ⟨C1, hC1⟩ : ∃ C, cap - 2 = C := ⟨_, rfl⟩
  rw [hC1] at N1 s1
  clear hC1
  generalize cutA (some ⟨b, off, none⟩) cap 2 = A1 at *
  generalize numB (seg xs 4 6) = F2 at *
  obtain ⟨C2, hC2⟩ : ∃ C, cap - 4 = C := ⟨_, rfl⟩
  rw [hC2] at N2 s2
  clear hC2
  generalize cutA (some ⟨b, off, none⟩) cap 4 = A2 at *
  generalize numB (seg xs 6 8) = F3 at *
  obtain ⟨C3, hC3⟩ : ∃ C, cap - 6 = C := ⟨_, rfl⟩
  rw [hC3] at N3 s3
  clear hC3
  generalize cutA (some ⟨b, off, none⟩) cap 6 = A3 at *
  generalize numB (seg xs 8 10) = F4 at *
  obtain ⟨C4, hC4⟩ : ∃ C, cap - 8 = C := ⟨_, rfl⟩
  rw [hC4] at N4 s4
  clear hC4
  generalize cutA (some ⟨b, off, none⟩) cap 8 = A4 at *
  generalize numB (seg xs 10 12) = F5 at *
  obtain ⟨C5, hC5⟩ : ∃ C, cap - 10 = C := ⟨_, rfl⟩
  rw [hC5] at N5 s5
  clear hC5
  generalize cutA (some ⟨b, off, none⟩) cap 10 = A5 at *
  clear hs hf hl hd
  unfold agg6
  go_enter Tryd.func15, Tryd.ntmps15
  go_wp2
  have BB : Hid (∀ o o', Below w.heap.size w ((w.alloc o).alloc o')) := fun o o' => ((Below.refl _ _).alloc (Nat.le_refl _) _).alloc (by simp) _
  go_loopw [8] (fun i wr => (i = .int .i64 0 ∧ wr = (w.alloc (.cells #[.int .i64 0, .int .i64 0, .int .i64 0, .int .i64 0, .int .i64 0, .int .i64 0] 34)).alloc (.cells #[.int .i64 0, .int .i64 0, .int .i64 0, .int .i64 0, .int .i64 0] 48)) ∨ (i = .int .i64 1 ∧ wr = (w.alloc (.cells #[.int .i64 0, .int .i64 0, .int .i64 0, .int .i64 0, .int .i64 0, .int .i64 0] 34)).alloc (.cells #[.int .i64 F1, .int .i64 0, .int .i64 0, .int .i64 0, .int .i64 0] 48)) ∨ (i = .int .i64 2 ∧ wr = (w.alloc (.cells #[.int .i64 0, .int .i64 0, .int .i64 0, .int .i64 0, .int .i64 0, .int .i64 0] 34)).alloc (.cells #[.int .i64 F1, .int .i64 F2, .int .i64 0, .int .i64 0, .int .i64 0] 48)) ∨ (i = .int .i64 3 ∧ wr = (w.alloc (.cells #[.int .i64 0, .int .i64 0, .int .i64 0, .int .i64 0, .int .i64 0, .int .i64 0] 34)).alloc (.cells #[.int .i64 F1, .int .i64 F2, .int .i64 F3, .int .i64 0, .int .i64 0] 48)) ∨ (i = .int .i64 4 ∧ wr = (w.alloc (.cells #[.int .i64 0, .int .i64 0, .int .i64 0, .int .i64 0, .int .i64 0, .int .i64 0] 34)).alloc (.cells #[.int .i64 F1, .int .i64 F2, .int .i64 F3, .int .i64 F4, .int .i64 0] 48)) ∨ (i = .int .i64 5 ∧ wr = (w.alloc (.cells #[.int .i64 0, .int .i64 0, .int .i64 0, .int .i64 0, .int .i64 0, .int .i64 0] 34)).alloc (.cells #[.int .i64 F1, .int .i64 F2, .int .i64 F3, .int .i64 F4, .int .i64 F5] 48))) (fun i _ => 5 - (intOf i).toNat)
  case atStart => exact .inl ⟨rfl, rfl⟩
  case round =>
    rcases hrel with ⟨rfl, rfl⟩ | ⟨rfl, rfl⟩ | ⟨rfl, rfl⟩ | ⟨rfl, rfl⟩ | ⟨rfl, rfl⟩ | ⟨rfl, rfl⟩
    · go_wp2_with (go_at_call 24; refine (N1.out _ (BB.out _ _)).mono ?_; rintro e w2 ⟨rfl, rfl⟩)
      go_roundw
      case rel => exact .inr (.inl ⟨by go_num, by first | rfl | trivial⟩)
      case measure => simp [intOf]
    · go_wp2_with (go_at_call 24; refine (N2.out _ (BB.out _ _)).mono ?_; rintro e w2 ⟨rfl, rfl⟩)
      go_roundw
      case rel => exact .inr (.inr (.inl ⟨by go_num, by first | rfl | trivial⟩))
      case measure => simp [intOf]
    · go_wp2_with (go_at_call 24; refine (N3.out _ (BB.out _ _)).mono ?_; rintro e w2 ⟨rfl, rfl⟩)
      go_roundw
      case rel => exact .inr (.inr (.inr (.inl ⟨by go_num, by first | rfl | trivial⟩)))
      case measure => simp [intOf]
    · go_wp2_with (go_at_call 24; refine (N4.out _ (BB.out _ _)).mono ?_; rintro e w2 ⟨rfl, rfl⟩)
      go_roundw
      case rel => exact .inr (.inr (.inr (.inr (.inl ⟨by go_num, by first | rfl | trivial⟩))))
      case measure => simp [intOf]
    · go_wp2_with (go_at_call 24; refine (N5.out _ (BB.out _ _)).mono ?_; rintro e w2 ⟨rfl, rfl⟩)
      go_roundw
      case rel => exact .inr (.inr (.inr (.inr (.inr (⟨by go_num, by first | rfl | trivial⟩)))))
      case measure => simp [intOf]
    · go_wp2
      go_region_held3 (fun W => W.cell? ⟨w.heap.size + 1, 0, none⟩ = some (.int .i64 F1) ∧ W.cell? ⟨w.heap.size + 1, 1, none⟩ = some (.int .i64 F2) ∧ W.cell? ⟨w.heap.size + 1, 2, none⟩ = some (.int .i64 F3) ∧ W.cell? ⟨w.heap.size + 1, 3, none⟩ = some (.int .i64 F4) ∧ W.cell? ⟨w.heap.size + 1, 4, none⟩ = some (.int .i64 F5)) (go_keep) (first | (go_at_call 24; refine (N0.out _ ?_).mono ?_; exact (BB.out _ _).drew; rintro e w2 ⟨rfl, hw⟩; have hw2 := hw.symm; subst hw2))
      go_wp2
      refine bodyPost_ret (v := .agg #[.int .i64 F0, .int .i64 F1, .int .i64 F2, .int .i64 F3, .int .i64 F4, .int .i64 F5]) (by simp [results, Tryd.results15, go_sem]) rfl ⟨rfl, ?_⟩
      exact (BB.out _ _).drew

set_option maxRecDepth 100000 in
set_option maxHeartbeats 8000000 in
theorem fields_4 (b off cap : Nat) (xs : List Int) (w : World) (hs : Src w (some ⟨b, off, none⟩) 15 cap xs) (hf : formB 4 xs = true) :
    Calls Tryd.prog 15 #[.slice (some ⟨b, off, none⟩) 15 cap, .int .i64 4] w fun e w' => e = .returned (agg6 (numB (seg xs 0 4)) (numB (seg xs 4 6)) (numB (seg xs 6 8)) (numB (seg xs 8 10)) (numB (seg xs 10 12)) (numB (seg xs 12 14))) ∧ Below w.heap.size w w' := by
  obtain ⟨hl, _, hd⟩ := formB_parts hf
  have hcap := hs.hcap
  have hmax := hs.hmax
  unfold maxLen at hmax
  have N0 : Hid (∀ W, Below w.heap.size w W → Calls Tryd.prog 24 #[.slice (cutA (some ⟨b, off, none⟩) cap 0) 4 (cap - 0)] W fun e w' => e = .returned (.int .i64 (numB (seg xs 0 4))) ∧ w' = W) := fun W hW => number_any _ 4 _ (seg xs 0 4) W ((hs.cut 0 4 (by omega) (by omega)).below hW) (by omega) (seg_dig hd 0 4 (by omega))
  have b0 := numB_4 (seg xs 0 4) (by unfold seg; simp; omega) (seg_dig hd 0 4 (by omega))
  have s0 : ∀ W, (Instr.slice 22 (.slice (some ⟨b, off, none⟩) 15 cap) none (some (.int .i64 4)) none).run Tryd.prog W = .ok (.slice (cutA (some ⟨b, off, none⟩) cap 0) 4 (cap - 0)) W := fun W => by have := slice_hi W (some ⟨b, off, none⟩) 15 cap 4 4 rfl (by omega); exact this
  have N1 : Hid (∀ W, Below w.heap.size w W → Calls Tryd.prog 24 #[.slice (cutA (some ⟨b, off, none⟩) cap 4) 2 (cap - 4)] W fun e w' => e = .returned (.int .i64 (numB (seg xs 4 6))) ∧ w' = W) := fun W hW => number_any _ 2 _ (seg xs 4 6) W ((hs.cut 4 6 (by omega) (by omega)).below hW) (by omega) (seg_dig hd 4 6 (by omega))
  have b1 := numB_4 (seg xs 4 6) (by unfold seg; simp; omega) (seg_dig hd 4 6 (by omega))
  have s1 : ∀ W, (Instr.slice 22 (.slice (some ⟨b, off, none⟩) 15 cap) (some (.int .i64 4)) (some (.int .i64 6)) none).run Tryd.prog W = .ok (.slice (cutA (some ⟨b, off, none⟩) cap 4) 2 (cap - 4)) W := fun W => slice_lh W _ 15 cap 4 6 4 6 rfl rfl (by omega) (by omega)
  have N2 : Hid (∀ W, Below w.heap.size w W → Calls Tryd.prog 24 #[.slice (cutA (some ⟨b, off, none⟩) cap 6) 2 (cap - 6)] W fun e w' => e = .returned (.int .i64 (numB (seg xs 6 8))) ∧ w' = W) := fun W hW => number_any _ 2 _ (seg xs 6 8) W ((hs.cut 6 8 (by omega) (by omega)).below hW) (by omega) (seg_dig hd 6 8 (by omega))
  have b2 := numB_4 (seg xs 6 8) (by unfold seg; simp; omega) (seg_dig hd 6 8 (by omega))
  have s2 : ∀ W, (Instr.slice 22 (.slice (some ⟨b, off, none⟩) 15 cap) (some (.int .i64 6)) (some (.int .i64 8)) none).run Tryd.prog W = .ok (.slice (cutA (some ⟨b, off, none⟩) cap 6) 2 (cap - 6)) W := fun W => slice_lh W _ 15 cap 6 8 6 8 rfl rfl (by omega) (by omega)
  have N3 : Hid (∀ W, Below w.heap.size w W → Calls Tryd.prog 24 #[.slice (cutA (some ⟨b, off, none⟩) cap 8) 2 (cap - 8)] W fun e w' => e = .returned (.int .i64 (numB (seg xs 8 10))) ∧ w' = W) := fun W hW => number_any _ 2 _ (seg xs 8 10) W ((hs.cut 8 10 (by omega) (by omega)).below hW) (by omega) (seg_dig hd 8 10 (by omega))
  have b3 := numB_4 (seg xs 8 10) (by unfold seg; simp; omega) (seg_dig hd 8 10 (by omega))
  have s3 : ∀ W, (Instr.slice 22 (.slice (some ⟨b, off, none⟩) 15 cap) (some (.int .i64 8)) (some (.int .i64 10)) none).run Tryd.prog W = .ok (.slice (cutA (some ⟨b, off, none⟩) cap 8) 2 (cap - 8)) W := fun W => slice_lh W _ 15 cap 8 10 8 10 rfl rfl (by omega) (by omega)
  have N4 : Hid (∀ W, Below w.heap.size w W → Calls Tryd.prog 24 #[.slice (cutA (some ⟨b, off, none⟩) cap 10) 2 (cap - 10)] W fun e w' => e = .returned (.int .i64 (numB (seg xs 10 12))) ∧ w' = W) := fun W hW => number_any _ 2 _ (seg xs 10 12) W ((hs.cut 10 12 (by omega) (by omega)).below hW) (by omega) (seg_dig hd 10 12 (by omega))
  have b4 := numB_4 (seg xs 10 12) (by unfold seg; simp; omega) (seg_dig hd 10 12 (by omega))
  have s4 : ∀ W, (Instr.slice 22 (.slice (some ⟨b, off, none⟩) 15 cap) (some (.int .i64 10)) (some (.int .i64 12)) none).run Tryd.prog W = .ok (.slice (cutA (some ⟨b, off, none⟩) cap 10) 2 (cap - 10)) W := fun W => slice_lh W _ 15 cap 10 12 10 12 rfl rfl (by omega) (by omega)
  have N5 : Hid (∀ W, Below w.heap.size w W → Calls Tryd.prog 24 #[.slice (cutA (some ⟨b, off, none⟩) cap 12) 2 (cap - 12)] W fun e w' => e = .returned (.int .i64 (numB (seg xs 12 14))) ∧ w' = W) := fun W hW => number_any _ 2 _ (seg xs 12 14) W ((hs.cut 12 14 (by omega) (by omega)).below hW) (by omega) (seg_dig hd 12 14 (by omega))
  have b5 := numB_4 (seg xs 12 14) (by unfold seg; simp; omega) (seg_dig hd 12 14 (by omega))
  have s5 : ∀ W, (Instr.slice 22 (.slice (some ⟨b, off, none⟩) 15 cap) (some (.int .i64 12)) (some (.int .i64 14)) none).run Tryd.prog W = .ok (.slice (cutA (some ⟨b, off, none⟩) cap 12) 2 (cap - 12)) W := fun W => slice_lh W _ 15 cap 12 14 12 14 rfl rfl (by omega) (by omega)
  generalize numB (seg xs 0 4) = F0 at *
  obtain ⟨C0, hC0⟩ : ∃ C, cap - 0 = C := ⟨_, rfl⟩
  rw [hC0] at N0 s0
  clear hC0
  generalize cutA (some ⟨b, off, none⟩) cap 0 = A0 at *
  generalize numB (seg xs 4 6) = F1 at *
  obtain ⟨C1, hC1⟩ : ∃ C, cap - 4 = C := ⟨_, rfl⟩
  rw [hC1] at N1 s1
  clear hC1
  generalize cutA (some ⟨b, off, none⟩) cap 4 = A1 at *
  generalize numB (seg xs 6 8) = F2 at *
  obtain ⟨C2, hC2⟩ : ∃ C, cap - 6 = C := ⟨_, rfl⟩
  rw [hC2] at N2 s2
  clear hC2
  generalize cutA (some ⟨b, off, none⟩) cap 6 = A2 at *
  generalize numB (seg xs 8 10) = F3 at *
  obtain ⟨C3, hC3⟩ : ∃ C, cap - 8 = C := ⟨_, rfl⟩
  rw [hC3] at N3 s3
  clear hC3
  generalize cutA (some ⟨b, off, none⟩) cap 8 = A3 at *
  generalize numB (seg xs 10 12) = F4 at *
  obtain ⟨C4, hC4⟩ : ∃ C, cap - 10 = C := ⟨_, rfl⟩
  rw [hC4] at N4 s4
  clear hC4
  generalize cutA (some ⟨b, off, none⟩) cap 10 = A4 at *
  generalize numB (seg xs 12 14) = F5 at *
  obtain ⟨C5, hC5⟩ : ∃ C, cap - 12 = C := ⟨_, rfl⟩
  rw [hC5] at N5 s5
  clear hC5
  generalize cutA (some ⟨b, off, none⟩) cap 12 = A5 at *
  clear hs hf hl hd
  unfold agg6
  go_enter Tryd.func15, Tryd.ntmps15
  go_wp2
  have BB : Hid (∀ o o', Below w.heap.size w ((w.alloc o).alloc o')) := fun o o' => ((Below.refl _ _).alloc (Nat.le_refl _) _).alloc (by simp) _
  go_loopw [8] (fun i wr => (i = .int .i64 0 ∧ wr = (w.alloc (.cells #[.int .i64 0, .int .i64 0, .int .i64 0, .int .i64 0, .int .i64 0, .int .i64 0] 34)).alloc (.cells #[.int .i64 0, .int .i64 0, .int .i64 0, .int .i64 0, .int .i64 0] 48)) ∨ (i = .int .i64 1 ∧ wr = (w.alloc (.cells #[.int .i64 0, .int .i64 0, .int .i64 0, .int .i64 0, .int .i64 0, .int .i64 0] 34)).alloc (.cells #[.int .i64 F1, .int .i64 0, .int .i64 0, .int .i64 0, .int .i64 0] 48)) ∨ (i = .int .i64 2 ∧ wr = (w.alloc (.cells #[.int .i64 0, .int .i64 0, .int .i64 0, .int .i64 0, .int .i64 0, .int .i64 0] 34)).alloc (.cells #[.int .i64 F1, .int .i64 F2, .int .i64 0, .int .i64 0, .int .i64 0] 48)) ∨ (i = .int .i64 3 ∧ wr = (w.alloc (.cells #[.int .i64 0, .int .i64 0, .int .i64 0, .int .i64 0, .int .i64 0, .int .i64 0] 34)).alloc (.cells #[.int .i64 F1, .int .i64 F2, .int .i64 F3, .int .i64 0, .int .i64 0] 48)) ∨ (i = .int .i64 4 ∧ wr = (w.alloc (.cells #[.int .i64 0, .int .i64 0, .int .i64 0, .int .i64 0, .int .i64 0, .int .i64 0] 34)).alloc (.cells #[.int .i64 F1, .int .i64 F2, .int .i64 F3, .int .i64 F4, .int .i64 0] 48)) ∨ (i = .int .i64 5 ∧ wr = (w.alloc (.cells #[.int .i64 0, .int .i64 0, .int .i64 0, .int .i64 0, .int .i64 0, .int .i64 0] 34)).alloc (.cells #[.int .i64 F1, .int .i64 F2, .int .i64 F3, .int .i64 F4, .int .i64 F5] 48))) (fun i _ => 5 - (intOf i).toNat)
  case atStart => exact .inl ⟨rfl, rfl⟩
  case round =>
    rcases hrel with ⟨rfl, rfl⟩ | ⟨rfl, rfl⟩ | ⟨rfl, rfl⟩ | ⟨rfl, rfl⟩ | ⟨rfl, rfl⟩ | ⟨rfl, rfl⟩
    · go_wp2_with (go_at_call 24; refine (N1.out _ (BB.out _ _)).mono ?_; rintro e w2 ⟨rfl, rfl⟩)
      go_roundw
      case rel => exact .inr (.inl ⟨by go_num, by first | rfl | trivial⟩)
      case measure => simp [intOf]
    · go_wp2_with (go_at_call 24; refine (N2.out _ (BB.out _ _)).mono ?_; rintro e w2 ⟨rfl, rfl⟩)
      go_roundw
      case rel => exact .inr (.inr (.inl ⟨by go_num, by first | rfl | trivial⟩))
      case measure => simp [intOf]
    · go_wp2_with (go_at_call 24; refine (N3.out _ (BB.out _ _)).mono ?_; rintro e w2 ⟨rfl, rfl⟩)
      go_roundw
      case rel => exact .inr (.inr (.inr (.inl ⟨by go_num, by first | rfl | trivial⟩)))
      case measure => simp [intOf]
    · go_wp2_with (go_at_call 24; refine (N4.out _ (BB.out _ _)).mono ?_; rintro e w2 ⟨rfl, rfl⟩)
      go_roundw
      case rel => exact .inr (.inr (.inr (.inr (.inl ⟨by go_num, by first | rfl | trivial⟩))))
      case measure => simp [intOf]
    · go_wp2_with (go_at_call 24; refine (N5.out _ (BB.out _ _)).mono ?_; rintro e w2 ⟨rfl, rfl⟩)
      go_roundw
      case rel => exact .inr (.inr (.inr (.inr (.inr (⟨by go_num, by first | rfl | trivial⟩)))))
      case measure => simp [intOf]
    · go_wp2
      go_region_held3 (fun W => W.cell? ⟨w.heap.size + 1, 0, none⟩ = some (.int .i64 F1) ∧ W.cell? ⟨w.heap.size + 1, 1, none⟩ = some (.int .i64 F2) ∧ W.cell? ⟨w.heap.size + 1, 2, none⟩ = some (.int .i64 F3) ∧ W.cell? ⟨w.heap.size + 1, 3, none⟩ = some (.int .i64 F4) ∧ W.cell? ⟨w.heap.size + 1, 4, none⟩ = some (.int .i64 F5)) (go_keep) (first | (go_at_call 24; refine (N0.out _ ?_).mono ?_; exact (BB.out _ _).drew; rintro e w2 ⟨rfl, hw⟩; have hw2 := hw.symm; subst hw2))
      go_wp2
      refine bodyPost_ret (v := .agg #[.int .i64 F0, .int .i64 F1, .int .i64 F2, .int .i64 F3, .int .i64 F4, .int .i64 F5]) (by simp [results, Tryd.results15, go_sem]) rfl ⟨rfl, ?_⟩
      exact (BB.out _ _).drew

/-- The whole year of two digits. -/
def full (v : Int) : Int := if v < 50 then 2000 + v else 1900 + v

theorem fullYear_any (v : Int) (h0 : 0 ≤ v) (h1 : v ≤ 9999) (w : World) :
    Calls Tryd.prog 16 #[.int .i64 v] w fun e w' => e = .returned (.int .i64 (full v)) ∧ w' = w := by
  by_cases h : v < 50
  · have E : Hid (full v = 2000 + v) := by unfold Hid full; rw [if_pos h]
    go_enter Tryd.func16, Tryd.ntmps16
    go_wp2
    go_ret
    exact ⟨by rw [E.out]; rfl, rfl⟩
  · have E : Hid (full v = 1900 + v) := by unfold Hid full; rw [if_neg h]
    go_enter Tryd.func16, Tryd.ntmps16
    go_wp2
    go_ret
    exact ⟨by rw [E.out]; rfl, rfl⟩

end Go.Proofs.YtnpimjfdidbdfabDoor
