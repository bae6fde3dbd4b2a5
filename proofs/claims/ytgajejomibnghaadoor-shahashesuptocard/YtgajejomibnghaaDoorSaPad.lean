/-
  sha.padding: what stands behind a text.
-/
import Derived.Test.YtgajejomibnghaaDoorSaMix
namespace Go.Proofs.YtgajejomibnghaaDoor
open Go.RowKit Go.IntWalk

theorem Tryd.infoB8 : (Tryd.prog.info? 5).map (fun i => (i.zero, i.size, i.bytes)) = some (some (.int .u8 0), 1, 1) := by kernel_rfl

theorem makeB8 (M : Nat) (m : Int) (hm : m = (M : Int)) (hM : M ≤ 1000000) (W : World) :
    (Instr.makeSlice 22 (.int .i64 m) (.int .i64 m)).run Tryd.prog W = .ok (.slice (some ⟨W.heap.size, 0, none⟩) M M) (W.alloc (.cells (madeCells #[.int .u8 0] M) 5)) := by
  subst hm
  obtain ⟨i0, hi, hz0, hz1, hz2⟩ := info_parts Tryd.infoB8
  rw [run_make W _ _ i0 (.int .u8 0) Tryd.underlying22 hi hz0 .i64 .i64 (M : Int) (M : Int) (by omega) (by omega) (by rw [hz2]; omega) (by omega)]
  rw [hz1]
  simp [Value.cells]

theorem Tryd.sizeB8 : Tryd.prog.elem 22 = 5 := by kernel_rfl
theorem Tryd.sliceB8 : Tryd.prog.underlying 22 = some (.slice (Tryd.prog.elem 22)) := by rw [Tryd.sizeB8]; exact Tryd.underlying22
theorem Tryd.sizeOfB8 (w : World) : (sizeOf (Tryd.prog.elem 22)).run Tryd.prog w = .ok 1 w := by rw [Tryd.sizeB8]; kernel_rfl

theorem sliceB_lo (w : World) (ao : Option Addr) (n c : Nat) (h : Int) (m : Nat) (hm : h = (m : Int)) (hc : m ≤ n) :
    (Instr.slice 22 (.slice ao n c) (some (.int .i64 h)) none none).run Tryd.prog w = .ok (.slice (cutG ao c m) (n - m) (c - m)) w := by
  subst hm
  rw [run_slice_l w _ _ _ _ Tryd.sliceB8 .i64 (m : Int) (by omega) (by omega), Tryd.sizeOfB8]
  simp [sliced, cutG, Result.andThen]

theorem sliceB_hi (w : World) (ao : Option Addr) (n c : Nat) (h : Int) (m : Nat) (hm : h = (m : Int)) (hc : m ≤ c) :
    (Instr.slice 22 (.slice ao n c) none (some (.int .i64 h)) none).run Tryd.prog w = .ok (.slice (cutG ao c 0) m c) w := by
  subst hm
  rw [run_slice_h w _ _ _ _ Tryd.sliceB8 .i64 (m : Int) (by omega) (by omega), Tryd.sizeOfB8]
  simp [sliced, cutG, Result.andThen]

theorem sliceB_lh (w : World) (ao : Option Addr) (n c : Nat) (i j : Int) (l h : Nat) (hl : i = (l : Int)) (hh : j = (h : Int)) (hc : l ≤ h) (hd : h ≤ c) :
    (Instr.slice 22 (.slice ao n c) (some (.int .i64 i)) (some (.int .i64 j)) none).run Tryd.prog w = .ok (.slice (cutG ao c l) (h - l) (c - l)) w := by
  subst hl hh
  rw [run_slice_lh w _ _ _ _ Tryd.sliceB8 .i64 .i64 (l : Int) (h : Int) (by omega) (by omega) (by omega), Tryd.sizeOfB8]
  simp [sliced, cutG, Result.andThen]

/-- sha.put in the midst of a block. -/
theorem put_mid (g o n c : Nat) (A X C : List Value) (x : Int) (T : TypeId) (w : World) (hn : 4 ≤ n) (hB : Blk T w g (A ++ X ++ C)) (ho : A.length = o) (hX : X.length = 4) (hx : 0 ≤ x ∧ x < 4294967296) :
    Calls Tryd.prog 45 #[.slice (some ⟨g, o, none⟩) n c, .int .u32 x] w fun e w' => e = .returned (.tuple #[]) ∧ Blk T w' g (A ++ (bytes4 x).map (Value.int .u8) ++ C) ∧ w.grownBy w' (some g) ∧ w'.heap.size = w.heap.size := by
  refine (put_any g o n c _ x T w hn hB (by simp; omega) hx).mono ?_
  rintro e w' ⟨he, rfl⟩
  exact ⟨he, Blk.mid A X C _ o w hB ho hX, gSets _ _ _ _⟩

theorem pad_cells (n : Nat) (Z : Nat) (hZ : zerosN n = Z) (hn : n ≤ 1152921504606846976) (P Q : Int) (hP : (n : Int) * 8 / 4294967296 = P) (hQ : (n : Int) * 8 % 4294967296 = Q) :
    (pad n).map (Value.int .u8) = (.int .u8 128 :: List.replicate Z (.int .u8 0)) ++ (bytes4 P).map (Value.int .u8) ++ (bytes4 Q).map (Value.int .u8) := by
  subst hP hQ hZ
  unfold pad bytes4
  simp
  refine ⟨?_, ?_, ?_, ?_, ?_, ?_, ?_, ?_⟩ <;> omega

set_option maxRecDepth 100000 in
set_option maxHeartbeats 2000000 in
theorem padding_any (n : Nat) (N : Int) (hN : N = (n : Int)) (hn : n ≤ 1152921504606846976) (w : World) :
    Calls Tryd.prog 44 #[.int .i64 N] w fun e w' => e = .returned (.slice (some ⟨w.heap.size, 0, none⟩) (9 + zerosN n) (9 + zerosN n)) ∧ RowG .u8 256 5 w' w.heap.size (pad n) ∧ Below w.heap.size w w' := by
  subst hN
  obtain ⟨Z, hZ⟩ : ∃ Z, zerosN n = Z := ⟨_, rfl⟩
  have hZ' : Z < 64 := by rw [← hZ]; unfold zerosN; omega
  have hz1 : (119 - (n : Int) % 64) % 64 = (Z : Int) := by
    rw [← hZ]
    unfold zerosN
    omega
  have hz2 : (119 - (n : Int)) % 64 = (Z : Int) := by omega
  have hmk := makeB8 (9 + Z) (9 + (Z : Int)) (by omega) (by omega)
  have hs1 : ∀ W : World, (Instr.slice 22 (.slice (some ⟨w.heap.size, 0, none⟩) (9 + Z) (9 + Z)) (some (.int .i64 (1 + (Z : Int)))) none none).run Tryd.prog W = .ok (.slice (some ⟨w.heap.size, 1 + Z, none⟩) 8 8) W := by
    intro W
    rw [sliceB_lo W _ _ _ _ (1 + Z) (by omega) (by omega)]
    simp [cutG, addNone]
    omega
  have hs2 : ∀ W : World, (Instr.slice 22 (.slice (some ⟨w.heap.size, 0, none⟩) (9 + Z) (9 + Z)) (some (.int .i64 (1 + (Z : Int) + 4))) none none).run Tryd.prog W = .ok (.slice (some ⟨w.heap.size, 5 + Z, none⟩) 4 4) W := by
    intro W
    rw [sliceB_lo W _ _ _ _ (5 + Z) (by omega) (by omega)]
    simp [cutG, addNone]
    omega
  obtain ⟨P, hP⟩ : ∃ P, (n : Int) * 8 / 4294967296 = P := ⟨_, rfl⟩
  obtain ⟨Q, hQ⟩ : ∃ Q, (n : Int) * 8 % 4294967296 = Q := ⟨_, rfl⟩
  have HPd := hide (pad_cells n Z hZ hn P Q hP hQ)
  have p0 : 0 ≤ P ∧ P < 4294967296 := by omega
  have q0 : 0 ≤ Q ∧ Q < 4294967296 := by omega
  have B0 : Hid (Blk 5 (w.alloc (.cells (madeCells #[.int .u8 0] (9 + Z)) 5)) w.heap.size ((List.replicate (9 + Z) (0 : Int)).map (Value.int .u8))) := (RowG.made (κ := .u8) (B := 256) (9 + Z) _ _ (by decide) rfl rfl).1
  have hc0 := B0.out.cell 0
  have hf0 := B0.out.frozen 0
  have hg0 : ((List.replicate (9 + Z) (0 : Int)).map (Value.int .u8))[0]? = some (.int .u8 0) := by rw [show 9 + Z = (8 + Z) + 1 by omega]; rfl
  rw [hg0] at hc0
  have B1 : Hid (Blk 5 (w.alloc (.cells ((madeCells #[.int .u8 0] (9 + Z)).setIfInBounds 0 (.int .u8 128)) 5)) w.heap.size ((.int .u8 128 :: List.replicate Z (.int .u8 0)) ++ List.replicate 4 (.int .u8 0) ++ List.replicate 4 (.int .u8 0))) := by
    refine Blk.new _ _ _ _ ?_ rfl
    have e0 : madeCells #[Value.int .u8 0] (9 + Z) = (List.replicate (9 + Z) (Value.int .u8 0)).toArray := by rw [← toList_madeCells_one]
    rw [e0, List.append_assoc, List.replicate_append_replicate, List.cons_append, List.replicate_append_replicate, show 9 + Z = (Z + (4 + 4)) + 1 by omega, List.replicate_succ]
    simp
  have HZ := hide hZ
  have HPQ := hide (And.intro hP hQ)
  have hsum : (9 : Int) + (Z : Int) = ((9 + Z : Nat) : Int) := by omega
  clear hZ hg0 hsum
  go_enter Tryd.func44, Tryd.ntmps44
  go_wp2_with fail
  refine (put_mid w.heap.size (1 + Z) 8 8 _ _ _ P _ _ (by omega) B1.out (by simp; omega) rfl p0).mono ?_
  rintro e w1 ⟨rfl, hB2, hG2, hS2⟩
  have B2 := hide hB2
  have W1 : Hid (Below w.heap.size w w1) := ((Below.refl _ _).alloc (Nat.le_refl _) _).grown hG2 (by simp) (fun k hk => by simp at hk; omega)
  clear hB2 hG2 hS2
  go_wp2_with fail
  refine (put_mid w.heap.size (5 + Z) 4 4 ((.int .u8 128 :: List.replicate Z (.int .u8 0)) ++ (bytes4 P).map (Value.int .u8)) (List.replicate 4 (.int .u8 0)) [] Q _ _ (by omega) (by rw [List.append_nil]; exact B2.out) (by simp [bytes4]; omega) rfl q0).mono ?_
  rintro e w2 ⟨rfl, hB3, hG3, hS3⟩
  have B3 := hide hB3
  have W2 : Hid (Below w.heap.size w w2) := W1.out.grown hG3 W1.out.size (fun k hk => by simp at hk; omega)
  clear hB3 hG3 hS3
  go_wp2
  go_ret
  refine ⟨?_, ⟨?_, pad_dg n⟩, W2.out⟩
  · rw [HZ.out]
    rfl
  · have e := B3.out
    rw [List.append_nil, ← HPd.out] at e
    exact e

end Go.Proofs.YtgajejomibnghaaDoor
