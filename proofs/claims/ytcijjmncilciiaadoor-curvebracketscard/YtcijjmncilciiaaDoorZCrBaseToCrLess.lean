/-
  The document's numbers: eight words of 32 bits. Differences, comparisons.
  The document's Less, Zero, P, N, coefficient.
-/
import Derived.Test.YtcijjmncilciiaaDoorZCvOn
namespace Go.Proofs.YtcijjmncilciiaaDoor
open Go.RowKit Go.IntWalk

theorem ld_F (v : Value) : Instr.loadAt 80 v = ldA 80 v := rfl
theorem st_F (v u : Value) : Instr.storeAt 80 v u = stA 80 v u := rfl
attribute [local go_sem ↓] ld_F st_F eq_F

/-- Eight words that say a number. -/
structure Fw (A : List Int) (x : Int) : Prop where
  len : A.length = 8
  dg : Dg 4294967296 A
  v : val 4294967296 A = x

theorem Fw.bd {A : List Int} {x : Int} (h : Fw A x) : 0 ≤ x ∧ x < RR := by
  have h1 := val_nonneg (b := 4294967296) (by decide) h.dg
  have h2 := val_lt (b := 4294967296) (by decide) h.dg
  rw [h.len, show pw 4294967296 8 = RR by decide, h.v] at h2
  rw [h.v] at h1
  exact ⟨h1, h2⟩
theorem Fw.inj {A B : List Int} {x y : Int} (h : Fw A x) (k : Fw B y) : A = B ↔ x = y := by
  constructor
  · rintro rfl
    exact h.v.symm.trans k.v
  · intro e
    exact val_inj (b := 4294967296) (by decide) h.dg k.dg (h.len.trans k.len.symm) (by rw [h.v, k.v, e])

def fV (A : List Int) : List Value := A.map (Value.int .u64)
theorem fV_len (A : List Int) : (fV A).length = A.length := by simp [fV]
def z8 : List Int := [0, 0, 0, 0, 0, 0, 0, 0]
theorem fw_z8 : Fw z8 0 := ⟨rfl, by intro x hx; simp [z8] at hx; omega, by decide⟩

theorem info_F : (Tryd.prog.info? 80).map (·.size) = some 8 := by kernel_rfl
theorem ldF {T : TypeId} {w : World} {g : Nat} {A : List Int} (hA : A.length = 8) (h : Blk T w g (fV A)) : (ldA 80 (.pointer (some ⟨g, 0, none⟩))).run Tryd.prog w = .ok (.agg (fV A).toArray) w :=
  ldA_all Tryd.underlying80 rfl (by rw [fV_len, hA]; exact info_F) h
theorem stF8 {T : TypeId} {w : World} {g : Nat} {Z : List Value} {A : List Int} (hA : A.length = 8) (h : Blk T w g Z) (hZ : Z.length = 8) : (stA 80 (.pointer (some ⟨g, 0, none⟩)) (.agg (fV A).toArray)).run Tryd.prog w = .ok () (w.setCells g 0 (fV A)) :=
  stA_all (by rw [fV_len, hA]; exact info_F) h (by rw [fV_len, hA, hZ]) (ints_one _ _)

theorem blk_cell {T : TypeId} {w : World} {g : Nat} {A : List Int} (h : Blk T w g (fV A)) (k : Nat) (hk : k < A.length) : w.cell? ⟨g, k, none⟩ = some (.int .u64 (A.getD k 0)) := by
  rw [h.cell]
  simp [fV, List.getD, hk]

theorem val_take_set (b : Int) (Z : List Int) (k : Nat) (u : Int) (h : k < Z.length) : val b ((Z.set k u).take (k + 1)) = val b (Z.take k) + u * pw b k := by
  rw [val_take_succ, List.take_set, List.set_eq_of_length_le (by simp; omega)]
  simp [List.getD, h]

theorem minus_word {a b c : Int} (ha : 0 ≤ a ∧ a < 4294967296) (hb : 0 ≤ b ∧ b < 4294967296) (hc : c = 0 ∨ c = 1) :
    IntKind.u64.wrap (4294967296 + a) = 4294967296 + a ∧ IntKind.u64.wrap (4294967296 + a - b) = 4294967296 + a - b ∧ IntKind.u64.wrap (4294967296 + a - b - c) = 4294967296 + a - b - c ∧ 0 ≤ 4294967296 + a - b - c ∧ 0 ≤ (4294967296 + a - b - c) % 4294967296 ∧ (4294967296 + a - b - c) % 4294967296 < 4294967296 ∧ (1 - (4294967296 + a - b - c) / 4294967296 = 0 ∨ 1 - (4294967296 + a - b - c) / 4294967296 = 1) ∧ IntKind.u64.wrap (1 - (4294967296 + a - b - c) / 4294967296) = 1 - (4294967296 + a - b - c) / 4294967296 ∧ (4294967296 + a - b - c) % 4294967296 = a - b - c + 4294967296 * (1 - (4294967296 + a - b - c) / 4294967296) := by
  rw [IntKind.wrap_u64, IntKind.wrap_u64, IntKind.wrap_u64, IntKind.wrap_u64]
  omega

/-- What a difference is told as. -/
def Rm (x y : Int) (w : World) (e : Ending) (w' : World) : Prop := ∃ R, e = .returned (.tuple #[.agg (fV R).toArray, .bool (decide (x < y))]) ∧ Fw R (x - y + (if x < y then RR else 0)) ∧ Below w.heap.size w w'

set_option maxRecDepth 100000 in
set_option maxHeartbeats 2000000 in
theorem rminus_any (A B : List Int) (x y : Int) (hA : Fw A x) (hB : Fw B y) (w : World) :
    Calls Tryd.prog 69 #[.agg (fV A).toArray, .agg (fV B).toArray] w (Rm x y w) := by
  have HA := hide hA
  have HB := hide hB
  have honeA := ints_one A .u64
  have honeB := ints_one B .u64
  obtain ⟨LA, hLA⟩ : ∃ L, fV A = L := ⟨_, rfl⟩
  obtain ⟨LB, hLB⟩ : ∃ L, fV B = L := ⟨_, rfl⟩
  change ∀ u ∈ fV A, u.oneCell' = true at honeA
  change ∀ u ∈ fV B, u.oneCell' = true at honeB
  rw [hLA] at honeA ⊢
  rw [hLB] at honeB ⊢
  have HLA := hide hLA
  have HLB := hide hLB
  clear hA hB hLA hLB
  go_enter Tryd.func69, Tryd.ntmps69
  go_wp2
  go_loopw [7, 8] (fun bv i wr => ∃ (k : Nat) (c : Int) (Z : List Int), i = .int .i64 (k : Int) ∧ k ≤ 8 ∧ bv = .int .u64 c ∧ (c = 0 ∨ c = 1) ∧ Hid (Z.length = 8) ∧ Hid (RowG .u64 4294967296 80 wr (w.heap.size + 1 + 1 + 1) Z) ∧ Hid (val 4294967296 (Z.take k) = val 4294967296 (A.take k) - val 4294967296 (B.take k) + c * pw 4294967296 k) ∧ Hid (Blk 80 wr w.heap.size (fV A)) ∧ Hid (Blk 80 wr (w.heap.size + 1) (fV B)) ∧ Hid (Blk 80 wr (w.heap.size + 1 + 1) (fV z8)) ∧ Hid (Below w.heap.size w wr)) (fun _ i _ => 8 - (intOf i).toNat)
  case atStart =>
    refine ⟨0, 0, z8, rfl, by omega, rfl, .inl rfl, rfl, ⟨?_, fw_z8.dg⟩, by unfold Hid; simp [val], ?_, ?_, ?_, ?_⟩
    · exact Blk.new _ (fV z8) _ _ rfl (by simp)
    · have := HLA.out; subst this; exact (((Blk.new w _ _ _ rfl rfl).alloc _).alloc _).alloc _
    · have := HLB.out; subst this; exact ((Blk.new _ _ _ _ rfl (by simp)).alloc _).alloc _
    · exact (Blk.new _ (fV z8) _ _ rfl (by simp)).alloc _
    · exact (below3 w _ _ _).alloc (by simp; omega) _
  case round =>
    obtain ⟨k, c, Z, rfl, hk, rfl, hc, HZ, HR, HV, KA, KB, KZ, HW⟩ := hrel
    by_cases hk8 : k < 8
    · have ca := blk_cell KA.out k (by rw [HA.out.len]; exact hk8)
      have cb := blk_cell KB.out k (by rw [HB.out.len]; exact hk8)
      have ba := HA.out.dg.at (by decide : (0 : Int) < 4294967296) k
      have bb := HB.out.dg.at (by decide : (0 : Int) < 4294967296) k
      have cz := HR.out.cell k (by rw [HZ.out]; exact hk8)
      have fz := HR.out.frozen k
      have va := val_take_succ 4294967296 A k
      have vb := val_take_succ 4294967296 B k
      obtain ⟨a, ha⟩ : ∃ a, A.getD k 0 = a := ⟨_, rfl⟩
      obtain ⟨b, hb⟩ : ∃ b, B.getD k 0 = b := ⟨_, rfl⟩
      rw [ha] at ca ba va
      rw [hb] at cb bb vb
      obtain ⟨q1, q2, q3, q4, q5, q6, q7, q8, q9⟩ := minus_word ba bb hc
      obtain ⟨X, hX⟩ : ∃ X, 4294967296 + a - b - c = X := ⟨_, rfl⟩
      rw [hX] at q3 q4 q5 q6 q7 q8 q9
      have tm : Int.tmod X 4294967296 = X % 4294967296 := by rw [Int.tmod_eq_emod_of_nonneg q4]
      have td : Int.tdiv X 4294967296 = X / 4294967296 := by rw [Int.tdiv_eq_ediv_of_nonneg q4]
      obtain ⟨u, hu⟩ : ∃ u, X % 4294967296 = u := ⟨_, rfl⟩
      obtain ⟨v, hv⟩ : ∃ v, X / 4294967296 = v := ⟨_, rfl⟩
      rw [hu] at q5 q6 q9 tm
      rw [hv] at q7 q8 q9 td
      obtain ⟨d, hd⟩ : ∃ d, 1 - v = d := ⟨_, rfl⟩
      rw [hd] at q7 q8 q9
      have HV' : Hid (val 4294967296 ((Z.set k u).take (k + 1)) = val 4294967296 (A.take (k + 1)) - val 4294967296 (B.take (k + 1)) + d * pw 4294967296 (k + 1)) := by
        unfold Hid
        rw [val_take_set _ _ _ _ (by rw [HZ.out]; exact hk8), HV.out, va, vb, q9, show pw 4294967296 (k + 1) = 4294967296 * pw 4294967296 k from rfl]
        grind
      have HU : Hid ((4294967296 + a - b - c) % 4294967296 = u) := by unfold Hid; rw [hX]; exact hu
      have HDe : Hid (1 - (4294967296 + a - b - c) / 4294967296 = d) := by unfold Hid; rw [hX, hv]; exact hd
      have kb : (k : Int) ≤ 7 := by omega
      have HQ7 := hide q7
      have HG := hide (gSet wr (w.heap.size + 1 + 1 + 1) k (.int .u64 u))
      have HR' : Hid (RowG .u64 4294967296 80 (wr.setCell ⟨w.heap.size + 1 + 1 + 1, k, none⟩ (.int .u64 u)) (w.heap.size + 1 + 1 + 1) (Z.set k u)) := HR.out.set k u ⟨q5, q6⟩
      have KA' := hide (KA.out.kept HG.out (by simp; omega))
      have KB' := hide (KB.out.kept HG.out (by simp))
      have KZ' := hide (KZ.out.kept HG.out (by simp))
      have HW' : Hid (Below w.heap.size w (wr.setCell ⟨w.heap.size + 1 + 1 + 1, k, none⟩ (.int .u64 u))) := HW.out.setCell (by show w.heap.size ≤ w.heap.size + 1 + 1 + 1; omega) _
      clear ha hb hX hu hv hd va vb q7 q9 HV HR KA KB KZ HW
      go_wp2
      go_quiet (fail)
      go_wp2
      have e1 := HU.out
      have e2 := HDe.out
      rw [e1, e2]
      refine ⟨⟨k + 1, d, Z.set k u, by go_num, by omega, rfl, HQ7.out, ?_, HR'.out.heap rfl, HV', KA'.out.heap rfl, KB'.out.heap rfl, KZ'.out.heap rfl, ⟨HW'.out.os, HW'.out.tape, HW'.out.output, HW'.out.size, HW'.out.block⟩⟩, by simp [intOf]; omega⟩
      unfold Hid
      rw [List.length_set]
      exact HZ.out
    · obtain rfl : k = 8 := by omega
      have hv := HV.out
      rw [List.take_of_length_le (by rw [HZ.out]; omega), List.take_of_length_le (by rw [HA.out.len]; omega), List.take_of_length_le (by rw [HB.out.len]; omega), HA.out.v, HB.out.v, show pw 4294967296 8 = RR by decide] at hv
      have hR : Fw Z (val 4294967296 Z) := ⟨HZ.out, HR.out.2, rfl⟩
      have hRb := hR.bd
      have hxb := HA.out.bd
      have hyb := HB.out.bd
      have hcc : (x < y ∧ c = 1) ∨ (¬ x < y ∧ c = 0) := by
        rcases hc with rfl | rfl
        · exact .inr ⟨by omega, rfl⟩
        · exact .inl ⟨by omega, rfl⟩
      have hfin : Hid (decide (x < y) = (c == 1) ∧ Fw Z (x - y + (if x < y then RR else 0))) := by
        rcases hcc with ⟨h1, rfl⟩ | ⟨h1, rfl⟩
        · exact ⟨by simp [h1], HZ.out, HR.out.2, by rw [if_pos h1, hv]; omega⟩
        · exact ⟨by simp [h1], HZ.out, HR.out.2, by rw [if_neg h1, hv]; omega⟩
      have HB1 := hide HR.out.blk
      have hld := ldF HZ.out HB1.out
      have hst := stF8 HZ.out KZ.out rfl
      clear hv hR hRb hxb hyb hcc HV HR KA KB HB1
      go_wp2
      refine bodyPost_ret (v := .tuple #[.agg (fV Z).toArray, .bool (c == 1)]) ?_ rfl ⟨Z, by rw [hfin.out.1], hfin.out.2, below_sets HW.out (by omega) HW.out.size _ _⟩
      exact res_two (p := 4) (q := 5) (T := 80) (X := fV Z) (g := w.heap.size + 1 + 1) (by kernel_rfl) _ _ rfl Tryd.underlying80 rfl (by rw [fV_len, HZ.out]; exact info_F) (blk_all KZ.out (by rw [fV_len, fV_len, HZ.out]; rfl))

end Go.Proofs.YtcijjmncilciiaaDoor

namespace Go.Proofs.YtcijjmncilciiaaDoor
open Go.RowKit Go.IntWalk
attribute [local go_sem ↓] ld_F st_F eq_F

theorem less_at {A B : List Int} (hA : Dg 4294967296 A) (hB : Dg 4294967296 B) (k : Nat) (ka : k + 1 ≤ A.length) (kb : k + 1 ≤ B.length) (h : A.drop (k + 1) = B.drop (k + 1)) (ne : A.getD k 0 ≠ B.getD k 0) : val 4294967296 A < val 4294967296 B ↔ A.getD k 0 < B.getD k 0 := by
  rw [val_split 4294967296 A (k + 1) ka, val_split 4294967296 B (k + 1) kb, h, val_take_succ, val_take_succ]
  have a1 := val_lt (b := 4294967296) (by decide) (hA.take k)
  have a0 := val_nonneg (b := 4294967296) (by decide) (hA.take k)
  have b1 := val_lt (b := 4294967296) (by decide) (hB.take k)
  have b0 := val_nonneg (b := 4294967296) (by decide) (hB.take k)
  rw [List.length_take, Nat.min_eq_left (by omega)] at a1 b1
  have hp := pw_pos (b := 4294967296) (by decide) k
  generalize A.getD k 0 = a at *
  generalize B.getD k 0 = b at *
  generalize pw 4294967296 k = p at *
  constructor
  · intro hl
    rcases Int.lt_or_le a b with h1 | h1
    · exact h1
    · have := Int.mul_le_mul_of_nonneg_right (show b + 1 ≤ a by omega) (show 0 ≤ p by omega)
      rw [Int.add_mul, Int.one_mul] at this
      omega
  · intro hl
    have := Int.mul_le_mul_of_nonneg_right (show a + 1 ≤ b by omega) (show 0 ≤ p by omega)
    rw [Int.add_mul, Int.one_mul] at this
    omega

theorem drop_same {A B : List Int} (k : Nat) (ka : k < A.length) (kb : k < B.length) (h : A.drop (k + 1) = B.drop (k + 1)) (e : A.getD k 0 = B.getD k 0) : A.drop k = B.drop k := by
  rw [List.drop_eq_getElem_cons ka, List.drop_eq_getElem_cons kb, h]
  simp [List.getD, ka, kb] at e
  rw [e]

set_option maxRecDepth 100000 in
set_option maxHeartbeats 2000000 in
theorem rless_any (A B : List Int) (x y : Int) (hA : Fw A x) (hB : Fw B y) (w : World) :
    Calls Tryd.prog 38 #[.agg (fV A).toArray, .agg (fV B).toArray] w fun e w' => e = .returned (.bool (decide (x < y))) ∧ Below w.heap.size w w' := by
  have HA := hide hA
  have HB := hide hB
  have honeA := ints_one A .u64
  have honeB := ints_one B .u64
  obtain ⟨LA, hLA⟩ : ∃ L, fV A = L := ⟨_, rfl⟩
  obtain ⟨LB, hLB⟩ : ∃ L, fV B = L := ⟨_, rfl⟩
  change ∀ u ∈ fV A, u.oneCell' = true at honeA
  change ∀ u ∈ fV B, u.oneCell' = true at honeB
  rw [hLA] at honeA ⊢
  rw [hLB] at honeB ⊢
  have KA0 : Hid (Blk 80 ((w.alloc (.cells LA.toArray 80)).alloc (.cells LB.toArray 80)) w.heap.size (fV A)) := by rw [hLA]; exact (Blk.new w _ _ _ rfl rfl).alloc _
  have KB0 : Hid (Blk 80 ((w.alloc (.cells LA.toArray 80)).alloc (.cells LB.toArray 80)) (w.heap.size + 1) (fV B)) := by rw [hLB]; exact Blk.new _ _ _ _ rfl (by simp)
  clear hA hB hLA hLB
  obtain ⟨V, hV⟩ : ∃ v, (decide (x < y)) = v := ⟨_, rfl⟩
  have HVV := hide hV
  rw [hV]
  clear hV
  go_enter Tryd.func38, Tryd.ntmps38
  go_wp2
  go_loopw [5] (fun i wr => ∃ (j : Nat), i = .int .i64 ((j : Int) - 1) ∧ j ≤ 8 ∧ Hid (A.drop j = B.drop j) ∧ Hid (Blk 80 wr w.heap.size (fV A)) ∧ Hid (Blk 80 wr (w.heap.size + 1) (fV B)) ∧ Hid (Below w.heap.size w wr)) (fun i _ => (intOf i + 1).toNat)
  case atStart => exact ⟨8, rfl, by omega, by unfold Hid; rw [List.drop_eq_nil_of_le (by rw [HA.out.len]; omega), List.drop_eq_nil_of_le (by rw [HB.out.len]; omega)], KA0, KB0, below2 w _ _⟩
  case round =>
    obtain ⟨j, rfl, hj, HE, KA, KB, HW⟩ := hrel
    clear KA0 KB0
    by_cases hj0 : j = 0
    · subst hj0
      have hxy : Hid (V = false) := by
        unfold Hid
        rw [← HVV.out]
        have := HE.out
        simp only [List.drop_zero] at this
        have e := (HA.out.inj HB.out).1 this
        simp; omega
      go_wp2
      go_ret
      exact ⟨by rw [hxy.out]; rfl, HW.out⟩
    · obtain ⟨k, rfl⟩ : ∃ k, j = k + 1 := ⟨j - 1, by omega⟩
      have ca := blk_cell KA.out k (by rw [HA.out.len]; omega)
      have cb := blk_cell KB.out k (by rw [HB.out.len]; omega)
      have ba := HA.out.dg.at (by decide : (0 : Int) < 4294967296) k
      have bb := HB.out.dg.at (by decide : (0 : Int) < 4294967296) k
      have hless := less_at HA.out.dg HB.out.dg k (by rw [HA.out.len]; omega) (by rw [HB.out.len]; omega) HE.out
      have hsame := drop_same k (by rw [HA.out.len]; omega) (by rw [HB.out.len]; omega) HE.out
      rw [HA.out.v, HB.out.v] at hless
      obtain ⟨a, ha⟩ : ∃ a, A.getD k 0 = a := ⟨_, rfl⟩
      obtain ⟨b, hb⟩ : ∃ b, B.getD k 0 = b := ⟨_, rfl⟩
      rw [ha] at ca ba hless hsame
      rw [hb] at cb bb hless hsame
      have HLE := hide hless
      have HSM := hide hsame
      have hk1 : ((k + 1 : Nat) : Int) - 1 = (k : Int) := by omega
      rw [hk1]
      have kb : (k : Int) ≤ 7 := by omega
      clear ha hb hless hsame hj0 hj hk1
      by_cases hab : a = b
      · subst hab
        have HE' := hide (HSM.out rfl)
        go_wp2
        go_quiet (fail)
        go_wp2
        refine ⟨⟨k, by go_num, by omega, HE', KA.out.heap rfl, KB.out.heap rfl, Drew.below (by exact ⟨rfl, rfl, rfl, rfl⟩) HW.out⟩, by simp [intOf]⟩
      · have hv : Hid (V = decide (a < b)) := by unfold Hid; rw [← HVV.out]; exact decide_eq_decide.2 (HLE.out hab)
        have hbe : (a == b) = false := by simpa using hab
        have hbe2 : (!(a == b)) = true := by rw [hbe]; rfl
        clear HLE HSM
        go_wp2
        go_quiet (fail)
        go_wp2
        go_quiet (fail)
        go_wp2
        go_ret
        exact ⟨by rw [hv.out]; rfl, Drew.below (by exact ⟨rfl, rfl, rfl, rfl⟩) HW.out⟩

theorem fz_build (w : World) : (Instr.build 80 #[]).run Tryd.prog w = .ok (.agg (fV z8).toArray) w := by kernel_rfl

theorem eqF8 (A B : List Int) (hA : A.length = 8) (hB : B.length = 8) (w : World) : (eqA 80 (.agg (fV A).toArray) (.agg (fV B).toArray)).run Tryd.prog w = .ok (.bool (decide (A = B))) w := by
  obtain ⟨i, hi⟩ := info_u64
  exact eqA_arr Tryd.underlying80 Tryd.underlying57 hi (by kernel_rfl) A B hA hB w

set_option maxRecDepth 100000 in
theorem rzero_any (A : List Int) (x : Int) (hA : Fw A x) (w : World) :
    Calls Tryd.prog 70 #[.agg (fV A).toArray] w fun e w' => e = .returned (.bool (decide (x = 0))) ∧ Below w.heap.size w w' := by
  have hone : ∀ u ∈ fV A, u.oneCell' = true := ints_one A .u64
  have heq : ∀ W : World, (eqA 80 (.agg (fV A).toArray) (.agg (fV z8).toArray)).run Tryd.prog W = .ok (.bool (decide (x = 0))) W := by
    intro W
    rw [eqF8 A z8 hA.len rfl W]
    simp only [hA.inj fw_z8]
  have hld := ldF hA.len (Blk.new (T := 80) w (fV A) _ _ rfl rfl)
  generalize hL : fV A = L at hone heq hld ⊢
  have hz : fV z8 = [.int .u64 0, .int .u64 0, .int .u64 0, .int .u64 0, .int .u64 0, .int .u64 0, .int .u64 0, .int .u64 0] := rfl
  rw [hz] at heq
  obtain ⟨V, hV⟩ : ∃ v, (decide (x = 0)) = v := ⟨_, rfl⟩
  rw [hV] at heq ⊢
  clear hV hA hL hz
  go_enter Tryd.func70, Tryd.ntmps70
  go_wp2
  go_ret
  exact ⟨rfl, below1 w _⟩

def pW : List Int := [4294967295, 4294967295, 4294967295, 0, 0, 0, 1, 4294967295]

theorem fw_pW : Fw pW PP := ⟨rfl, by intro x hx; simp [pW] at hx; omega, by decide⟩

set_option maxRecDepth 100000 in
theorem rpW_any (w : World) : Calls Tryd.prog 34 #[] w fun e w' => e = .returned (.agg (fV pW).toArray) ∧ Below w.heap.size w w' := by
  have hst := stF8 (A := pW) rfl (Blk.new (T := 80) w (fV z8) _ _ rfl rfl) rfl
  have HB := hide (blk_all (vs := fV pW) (Blk.new (T := 80) w (fV z8) _ _ rfl rfl) rfl)
  simp only [fV, pW, z8, List.map_cons, List.map_nil] at hst
  go_enter Tryd.func34, Tryd.ntmps34
  go_wp2
  refine bodyPost_ret (v := .agg (fV pW).toArray) ?_ rfl ⟨rfl, below_sets (below1 w _) (Nat.le_refl _) (by simp) _ _⟩
  exact res_one (T := 80) (p := 0) (ty := 80) (g := w.heap.size) (X := fV pW) (by kernel_rfl) _ _ rfl Tryd.underlying80 rfl info_F HB.out

def cW : List Int := [668098635, 1003371582, 3428036854, 1696401072, 1989707452, 3018571093, 2855965671, 1522939352]

theorem fw_cW : Fw cW BC := ⟨rfl, by intro x hx; simp [cW] at hx; omega, by decide⟩

set_option maxRecDepth 100000 in
theorem rcW_any (w : World) : Calls Tryd.prog 43 #[] w fun e w' => e = .returned (.agg (fV cW).toArray) ∧ Below w.heap.size w w' := by
  have hst := stF8 (A := cW) rfl (Blk.new (T := 80) w (fV z8) _ _ rfl rfl) rfl
  have HB := hide (blk_all (vs := fV cW) (Blk.new (T := 80) w (fV z8) _ _ rfl rfl) rfl)
  simp only [fV, cW, z8, List.map_cons, List.map_nil] at hst
  go_enter Tryd.func43, Tryd.ntmps43
  go_wp2
  refine bodyPost_ret (v := .agg (fV cW).toArray) ?_ rfl ⟨rfl, below_sets (below1 w _) (Nat.le_refl _) (by simp) _ _⟩
  exact res_one (T := 80) (p := 0) (ty := 80) (g := w.heap.size) (X := fV cW) (by kernel_rfl) _ _ rfl Tryd.underlying80 rfl info_F HB.out

def NN : Int := 115792089210356248762697446949407573529996955224135760342422259061068512044369

def nW : List Int := [4234356049, 4089039554, 2803342980, 3169254061, 4294967295, 4294967295, 0, 4294967295]

theorem fw_nW : Fw nW NN := ⟨rfl, by intro x hx; simp [nW] at hx; omega, by decide⟩

set_option maxRecDepth 100000 in
theorem rnW_any (w : World) : Calls Tryd.prog 35 #[] w fun e w' => e = .returned (.agg (fV nW).toArray) ∧ Below w.heap.size w w' := by
  have hst := stF8 (A := nW) rfl (Blk.new (T := 80) w (fV z8) _ _ rfl rfl) rfl
  have HB := hide (blk_all (vs := fV nW) (Blk.new (T := 80) w (fV z8) _ _ rfl rfl) rfl)
  simp only [fV, nW, z8, List.map_cons, List.map_nil] at hst
  go_enter Tryd.func35, Tryd.ntmps35
  go_wp2
  refine bodyPost_ret (v := .agg (fV nW).toArray) ?_ rfl ⟨rfl, below_sets (below1 w _) (Nat.le_refl _) (by simp) _ _⟩
  exact res_one (T := 80) (p := 0) (ty := 80) (g := w.heap.size) (X := fV nW) (by kernel_rfl) _ _ rfl Tryd.underlying80 rfl info_F HB.out

end Go.Proofs.YtcijjmncilciiaaDoor
