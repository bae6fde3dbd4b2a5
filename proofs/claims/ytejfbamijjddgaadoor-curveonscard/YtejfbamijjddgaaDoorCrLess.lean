/-
  The document's Less, Zero, P, N, coefficient.
-/
import Derived.Test.YtejfbamijjddgaaDoorCrBase
namespace Go.Proofs.YtejfbamijjddgaaDoor
open Go.RowKit Go.IntWalk
attribute [local go_sem ↓] ld_F st_F eq_F

theorem less_at {A B : List Int} (hA : Dg 4294967296 A) (hB : Dg 4294967296 B) (k : Nat) (ka : k + 1 ≤ A.length) (kb : k + 1 ≤ B.length) (h : A.drop (k + 1) = B.drop (k + 1)) (ne : A.getD k 0 ≠ B.getD k 0) : val 4294967296 A < val 4294967296 B ↔ A.getD k 0 < B.getD k 0 := by
  rw [val_split 4294967296 A (k + 1) ka, val_split 4294967296 B (k + 1) kb, h, val_take_succ, val_take_succ]
  have a1 := val_lt (b := 4294967296) (by decide) (hA.take k)
  have a0 := val_nonneg (b := 4294967296) (by decide) (hA.take k)
  have b1 := val_lt (b := 4294967296) (by decide) (hB.take k)
  have b0 := val_nonneg (b := 4294967296) (by decide) (hB.take k)
  rw [List.length_take, Nat.min_eq_left (by omega)] at a1 b1
  have hp := pw_pos (b := 4294967296) (by decide) k
  generalize A.getD k 0 = a at *
  generalize B.getD k 0 = b at *
  generalize pw 4294967296 k = p at *
  constructor
  · intro hl
    rcases Int.lt_or_le a b with h1 | h1
    · exact h1
    · have := Int.mul_le_mul_of_nonneg_right (show b + 1 ≤ a by omega) (show 0 ≤ p by omega)
      rw [Int.add_mul, Int.one_mul] at this
      omega
  · intro hl
    have := Int.mul_le_mul_of_nonneg_right (show a + 1 ≤ b by omega) (show 0 ≤ p by omega)
    rw [Int.add_mul, Int.one_mul] at this
    omega

theorem drop_same {A B : List Int} (k : Nat) (ka : k < A.length) (kb : k < B.length) (h : A.drop (k + 1) = B.drop (k + 1)) (e : A.getD k 0 = B.getD k 0) : A.drop k = B.drop k := by
  rw [List.drop_eq_getElem_cons ka, List.drop_eq_getElem_cons kb, h]
  simp [List.getD, ka, kb] at e
  rw [e]

set_option maxRecDepth 100000 in
set_option maxHeartbeats 2000000 in
theorem rless_any (A B : List Int) (x y : Int) (hA : Fw A x) (hB : Fw B y) (w : World) :
    Calls Tryd.prog 32 #[.agg (fV A).toArray, .agg (fV B).toArray] w fun e w' => e = .returned (.bool (decide (x < y))) ∧ Below w.heap.size w w' := by
  have HA := hide hA
  have HB := hide hB
  have honeA := ints_one A .u64
  have honeB := ints_one B .u64
  obtain ⟨LA, hLA⟩ : ∃ L, fV A = L := ⟨_, rfl⟩
  obtain ⟨LB, hLB⟩ : ∃ L, fV B = L := ⟨_, rfl⟩
  change ∀ u ∈ fV A, u.oneCell' = true at honeA
  change ∀ u ∈ fV B, u.oneCell' = true at honeB
  rw [hLA] at honeA ⊢
  rw [hLB] at honeB ⊢
  have KA0 : Hid (Blk 69 ((w.alloc (.cells LA.toArray 69)).alloc (.cells LB.toArray 69)) w.heap.size (fV A)) := by rw [hLA]; exact (Blk.new w _ _ _ rfl rfl).alloc _
  have KB0 : Hid (Blk 69 ((w.alloc (.cells LA.toArray 69)).alloc (.cells LB.toArray 69)) (w.heap.size + 1) (fV B)) := by rw [hLB]; exact Blk.new _ _ _ _ rfl (by simp)
  clear hA hB hLA hLB
  obtain ⟨V, hV⟩ : ∃ v, (decide (x < y)) = v := ⟨_, rfl⟩
  have HVV := hide hV
  rw [hV]
  clear hV
  go_enter Tryd.func32, Tryd.ntmps32
  go_wp2
  go_loopw [5] (fun i wr => ∃ (j : Nat), i = .int .i64 ((j : Int) - 1) ∧ j ≤ 8 ∧ Hid (A.drop j = B.drop j) ∧ Hid (Blk 69 wr w.heap.size (fV A)) ∧ Hid (Blk 69 wr (w.heap.size + 1) (fV B)) ∧ Hid (Below w.heap.size w wr)) (fun i _ => (intOf i + 1).toNat)
  case atStart => exact ⟨8, rfl, by omega, by unfold Hid; rw [List.drop_eq_nil_of_le (by rw [HA.out.len]; omega), List.drop_eq_nil_of_le (by rw [HB.out.len]; omega)], KA0, KB0, below2 w _ _⟩
  case round =>
    obtain ⟨j, rfl, hj, HE, KA, KB, HW⟩ := hrel
    clear KA0 KB0
    by_cases hj0 : j = 0
    · subst hj0
      have hxy : Hid (V = false) := by
        unfold Hid
        rw [← HVV.out]
        have := HE.out
        simp only [List.drop_zero] at this
        have e := (HA.out.inj HB.out).1 this
        simp; omega
      go_wp2
      go_ret
      exact ⟨by rw [hxy.out]; rfl, HW.out⟩
    · obtain ⟨k, rfl⟩ : ∃ k, j = k + 1 := ⟨j - 1, by omega⟩
      have ca := blk_cell KA.out k (by rw [HA.out.len]; omega)
      have cb := blk_cell KB.out k (by rw [HB.out.len]; omega)
      have ba := HA.out.dg.at (by decide : (0 : Int) < 4294967296) k
      have bb := HB.out.dg.at (by decide : (0 : Int) < 4294967296) k
      have hless := less_at HA.out.dg HB.out.dg k (by rw [HA.out.len]; omega) (by rw [HB.out.len]; omega) HE.out
      have hsame := drop_same k (by rw [HA.out.len]; omega) (by rw [HB.out.len]; omega) HE.out
      rw [HA.out.v, HB.out.v] at hless
      obtain ⟨a, ha⟩ : ∃ a, A.getD k 0 = a := ⟨_, rfl⟩
      obtain ⟨b, hb⟩ : ∃ b, B.getD k 0 = b := ⟨_, rfl⟩
      rw [ha] at ca ba hless hsame
      rw [hb] at cb bb hless hsame
      have HLE := hide hless
      have HSM := hide hsame
      have hk1 : ((k + 1 : Nat) : Int) - 1 = (k : Int) := by omega
      rw [hk1]
      have kb : (k : Int) ≤ 7 := by omega
      clear ha hb hless hsame hj0 hj hk1
      by_cases hab : a = b
      · subst hab
        have HE' := hide (HSM.out rfl)
        go_wp2
        go_quiet (fail)
        go_wp2
        refine ⟨⟨k, by go_num, by omega, HE', KA.out.heap rfl, KB.out.heap rfl, Drew.below (by exact ⟨rfl, rfl, rfl, rfl⟩) HW.out⟩, by simp [intOf]⟩
      · have hv : Hid (V = decide (a < b)) := by unfold Hid; rw [← HVV.out]; exact decide_eq_decide.2 (HLE.out hab)
        have hbe : (a == b) = false := by simpa using hab
        have hbe2 : (!(a == b)) = true := by rw [hbe]; rfl
        clear HLE HSM
        go_wp2
        go_quiet (fail)
        go_wp2
        go_quiet (fail)
        go_wp2
        go_ret
        exact ⟨by rw [hv.out]; rfl, Drew.below (by exact ⟨rfl, rfl, rfl, rfl⟩) HW.out⟩

theorem fz_build (w : World) : (Instr.build 69 #[]).run Tryd.prog w = .ok (.agg (fV z8).toArray) w := by kernel_rfl

theorem eqF8 (A B : List Int) (hA : A.length = 8) (hB : B.length = 8) (w : World) : (eqA 69 (.agg (fV A).toArray) (.agg (fV B).toArray)).run Tryd.prog w = .ok (.bool (decide (A = B))) w := by
  obtain ⟨i, hi⟩ := info_u64
  exact eqA_arr Tryd.underlying69 Tryd.underlying66 hi (by kernel_rfl) A B hA hB w

set_option maxRecDepth 100000 in
theorem rzero_any (A : List Int) (x : Int) (hA : Fw A x) (w : World) :
    Calls Tryd.prog 64 #[.agg (fV A).toArray] w fun e w' => e = .returned (.bool (decide (x = 0))) ∧ Below w.heap.size w w' := by
  have hone : ∀ u ∈ fV A, u.oneCell' = true := ints_one A .u64
  have heq : ∀ W : World, (eqA 69 (.agg (fV A).toArray) (.agg (fV z8).toArray)).run Tryd.prog W = .ok (.bool (decide (x = 0))) W := by
    intro W
    rw [eqF8 A z8 hA.len rfl W]
    simp only [hA.inj fw_z8]
  have hld := ldF hA.len (Blk.new (T := 69) w (fV A) _ _ rfl rfl)
  generalize hL : fV A = L at hone heq hld ⊢
  have hz : fV z8 = [.int .u64 0, .int .u64 0, .int .u64 0, .int .u64 0, .int .u64 0, .int .u64 0, .int .u64 0, .int .u64 0] := rfl
  rw [hz] at heq
  obtain ⟨V, hV⟩ : ∃ v, (decide (x = 0)) = v := ⟨_, rfl⟩
  rw [hV] at heq ⊢
  clear hV hA hL hz
  go_enter Tryd.func64, Tryd.ntmps64
  go_wp2
  go_ret
  exact ⟨rfl, below1 w _⟩

def pW : List Int := [4294967295, 4294967295, 4294967295, 0, 0, 0, 1, 4294967295]

theorem fw_pW : Fw pW PP := ⟨rfl, by intro x hx; simp [pW] at hx; omega, by decide⟩

set_option maxRecDepth 100000 in
theorem rpW_any (w : World) : Calls Tryd.prog 33 #[] w fun e w' => e = .returned (.agg (fV pW).toArray) ∧ Below w.heap.size w w' := by
  have hst := stF8 (A := pW) rfl (Blk.new (T := 69) w (fV z8) _ _ rfl rfl) rfl
  have HB := hide (blk_all (vs := fV pW) (Blk.new (T := 69) w (fV z8) _ _ rfl rfl) rfl)
  simp only [fV, pW, z8, List.map_cons, List.map_nil] at hst
  go_enter Tryd.func33, Tryd.ntmps33
  go_wp2
  refine bodyPost_ret (v := .agg (fV pW).toArray) ?_ rfl ⟨rfl, below_sets (below1 w _) (Nat.le_refl _) (by simp) _ _⟩
  exact res_one (T := 69) (p := 0) (ty := 69) (g := w.heap.size) (X := fV pW) (by kernel_rfl) _ _ rfl Tryd.underlying69 rfl info_F HB.out

def cW : List Int := [668098635, 1003371582, 3428036854, 1696401072, 1989707452, 3018571093, 2855965671, 1522939352]

theorem fw_cW : Fw cW BC := ⟨rfl, by intro x hx; simp [cW] at hx; omega, by decide⟩

set_option maxRecDepth 100000 in
theorem rcW_any (w : World) : Calls Tryd.prog 38 #[] w fun e w' => e = .returned (.agg (fV cW).toArray) ∧ Below w.heap.size w w' := by
  have hst := stF8 (A := cW) rfl (Blk.new (T := 69) w (fV z8) _ _ rfl rfl) rfl
  have HB := hide (blk_all (vs := fV cW) (Blk.new (T := 69) w (fV z8) _ _ rfl rfl) rfl)
  simp only [fV, cW, z8, List.map_cons, List.map_nil] at hst
  go_enter Tryd.func38, Tryd.ntmps38
  go_wp2
  refine bodyPost_ret (v := .agg (fV cW).toArray) ?_ rfl ⟨rfl, below_sets (below1 w _) (Nat.le_refl _) (by simp) _ _⟩
  exact res_one (T := 69) (p := 0) (ty := 69) (g := w.heap.size) (X := fV cW) (by kernel_rfl) _ _ rfl Tryd.underlying69 rfl info_F HB.out

def NN : Int := 115792089210356248762697446949407573529996955224135760342422259061068512044369

def nW : List Int := [4234356049, 4089039554, 2803342980, 3169254061, 4294967295, 4294967295, 0, 4294967295]

theorem fw_nW : Fw nW NN := ⟨rfl, by intro x hx; simp [nW] at hx; omega, by decide⟩

set_option maxRecDepth 100000 in
theorem rnW_any (w : World) : Calls Tryd.prog 44 #[] w fun e w' => e = .returned (.agg (fV nW).toArray) ∧ Below w.heap.size w w' := by
  have hst := stF8 (A := nW) rfl (Blk.new (T := 69) w (fV z8) _ _ rfl rfl) rfl
  have HB := hide (blk_all (vs := fV nW) (Blk.new (T := 69) w (fV z8) _ _ rfl rfl) rfl)
  simp only [fV, nW, z8, List.map_cons, List.map_nil] at hst
  go_enter Tryd.func44, Tryd.ntmps44
  go_wp2
  refine bodyPost_ret (v := .agg (fV nW).toArray) ?_ rfl ⟨rfl, below_sets (below1 w _) (Nat.le_refl _) (by simp) _ _⟩
  exact res_one (T := 69) (p := 0) (ty := 69) (g := w.heap.size) (X := fV nW) (by kernel_rfl) _ _ rfl Tryd.underlying69 rfl info_F HB.out

end Go.Proofs.YtejfbamijjddgaaDoor
