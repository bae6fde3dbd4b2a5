/-
  curve.On: whether a point is one of the curve.
  The document's numbers: eight words of 32 bits. Differences, comparisons.
-/
import Derived.Test.YtnabmdpgibnkaaaDoorZCvSpn
namespace Go.Proofs.YtnabmdpgibnkaaaDoor
open Go.RowKit Go.IntWalk

attribute [local go_sem ↓] ld_num st_num ld_pln st_pln ld_ops st_ops ld_pnt st_pnt ld_dig st_dig ld_tri st_tri eq_num ne_num eq_pnt ne_pnt bd_pnt

/-- What spread answers, whatever the point. -/
theorem spread_all (X Y : List Int) (f : Bool) (hX : X.length = 32) (hY : Y.length = 32) (dX : Dg 256 X) (dY : Dg 256 Y) (b0 b1 b2 b3 : Int) (hb : Nw b0 b1 b2 b3 BM) (w : World) (hC : Cv w) :
    Calls Tryd.prog 37 #[.agg (pL X Y f).toArray, .agg (opL b0 b1 b2 b3).toArray] w fun e w' => ∃ x0 x1 x2 x3 y0 y1 y2 y3 z0 z1 z2 z3, e = .returned (.tuple #[.agg (T12 x0 x1 x2 x3 y0 y1 y2 y3 z0 z1 z2 z3).toArray, .bool (onP X Y f)]) ∧ Below w.heap.size w w' := by
  cases f
  · refine (spread_any X Y hX hY dX dY b0 b1 b2 b3 hb w hC).mono ?_
    rintro e w1 ⟨x0, x1, x2, x3, y0, y1, y2, y3, rfl, _, _, hB⟩
    exact ⟨_, _, _, _, _, _, _, _, _, _, _, _, rfl, hB⟩
  · refine (spread_far X Y hX hY b0 b1 b2 b3 w hC).mono ?_
    rintro e w1 ⟨rfl, hB⟩
    exact ⟨_, _, _, _, _, _, _, _, _, _, _, _, rfl, hB⟩

theorem stTn (w : World) (x0 x1 x2 x3 y0 y1 y2 y3 z0 z1 z2 z3 : Int) : (stA 91 (.pointer (some ⟨w.heap.size, 0, none⟩)) (.agg (T12 x0 x1 x2 x3 y0 y1 y2 y3 z0 z1 z2 z3).toArray)).run Tryd.prog (w.alloc (.cells T0.toArray 91)) = .ok () ((w.alloc (.cells T0.toArray 91)).setCells w.heap.size 0 (T12 x0 x1 x2 x3 y0 y1 y2 y3 z0 z1 z2 z3)) :=
  stT (Blk.new w T0 _ _ rfl rfl) rfl _ _ _ _ _ _ _ _ _ _ _ _

/-- What stays while a call runs that has a point in a box of its own. -/
structure Kp (w : World) (L : List Value) (W : World) : Prop where
  blk : Blk 25 W w.heap.size L
  cv : Cv W
  bl : Below w.heap.size w W

theorem Kp.heap {w W V : World} {L : List Value} (h : Kp w L W) (e : V = W.drew) : Kp w L V := by
  subst e
  exact ⟨h.blk.heap rfl, h.cv.heap rfl, Drew.below (by exact ⟨rfl, rfl, rfl, rfl⟩) h.bl⟩
theorem Kp.below {w W V : World} {L : List Value} (h : Kp w L W) (b : Below W.heap.size W V) : Kp w L V := ⟨h.blk.below b, h.cv.below b, below_then h.bl b⟩
theorem Kp.alloc {w W : World} {L : List Value} (h : Kp w L W) (o : Obj) : Kp w L (W.alloc o) := h.below (below1 W o)
theorem Kp.sets {w W : World} {L : List Value} (h : Kp w L W) {k : Nat} (hk : w.heap.size < k) (hC : Cv w) (o : Nat) (vs : List Value) : Kp w L (W.setCells k o vs) :=
  ⟨h.blk.other (by omega), h.cv.sets (by have := hC.lt; omega), below_sets h.bl (by omega) h.bl.size _ _⟩

theorem tri_new (w : World) : Blk 91 (w.alloc (.cells #[.int .u64 0, .int .u64 0, .int .u64 0, .int .u64 0, .int .u64 0, .int .u64 0, .int .u64 0, .int .u64 0, .int .u64 0, .int .u64 0, .int .u64 0, .int .u64 0] 91)) w.heap.size T0 := Blk.new w T0 _ _ rfl rfl
theorem blk_tri {W V : World} {T : TypeId} (b : Below (W.alloc (.cells T0.toArray T)).heap.size (W.alloc (.cells T0.toArray T)) V) : Blk T V W.heap.size T0 := (Blk.new W T0 _ _ rfl rfl).below b

end Go.Proofs.YtnabmdpgibnkaaaDoor

namespace Go.Proofs.YtnabmdpgibnkaaaDoor
open Go.RowKit Go.IntWalk

theorem ld_F (v : Value) : Instr.loadAt 52 v = ldA 52 v := rfl
theorem st_F (v u : Value) : Instr.storeAt 52 v u = stA 52 v u := rfl
attribute [local go_sem ↓] ld_F st_F eq_F

/-- Eight words that say a number. -/
structure Fw (A : List Int) (x : Int) : Prop where
  len : A.length = 8
  dg : Dg 4294967296 A
  v : val 4294967296 A = x

theorem Fw.bd {A : List Int} {x : Int} (h : Fw A x) : 0 ≤ x ∧ x < RR := by
  have h1 := val_nonneg (b := 4294967296) (by decide) h.dg
  have h2 := val_lt (b := 4294967296) (by decide) h.dg
  rw [h.len, show pw 4294967296 8 = RR by decide, h.v] at h2
  rw [h.v] at h1
  exact ⟨h1, h2⟩
theorem Fw.inj {A B : List Int} {x y : Int} (h : Fw A x) (k : Fw B y) : A = B ↔ x = y := by
  constructor
  · rintro rfl
    exact h.v.symm.trans k.v
  · intro e
    exact val_inj (b := 4294967296) (by decide) h.dg k.dg (h.len.trans k.len.symm) (by rw [h.v, k.v, e])

def fV (A : List Int) : List Value := A.map (Value.int .u64)
theorem fV_len (A : List Int) : (fV A).length = A.length := by simp [fV]
def z8 : List Int := [0, 0, 0, 0, 0, 0, 0, 0]
theorem fw_z8 : Fw z8 0 := ⟨rfl, by intro x hx; simp [z8] at hx; omega, by decide⟩

theorem info_F : (Tryd.prog.info? 52).map (·.size) = some 8 := by kernel_rfl
theorem ldF {T : TypeId} {w : World} {g : Nat} {A : List Int} (hA : A.length = 8) (h : Blk T w g (fV A)) : (ldA 52 (.pointer (some ⟨g, 0, none⟩))).run Tryd.prog w = .ok (.agg (fV A).toArray) w :=
  ldA_all Tryd.underlying52 rfl (by rw [fV_len, hA]; exact info_F) h
theorem stF8 {T : TypeId} {w : World} {g : Nat} {Z : List Value} {A : List Int} (hA : A.length = 8) (h : Blk T w g Z) (hZ : Z.length = 8) : (stA 52 (.pointer (some ⟨g, 0, none⟩)) (.agg (fV A).toArray)).run Tryd.prog w = .ok () (w.setCells g 0 (fV A)) :=
  stA_all (by rw [fV_len, hA]; exact info_F) h (by rw [fV_len, hA, hZ]) (ints_one _ _)

theorem blk_cell {T : TypeId} {w : World} {g : Nat} {A : List Int} (h : Blk T w g (fV A)) (k : Nat) (hk : k < A.length) : w.cell? ⟨g, k, none⟩ = some (.int .u64 (A.getD k 0)) := by
  rw [h.cell]
  simp [fV, List.getD, hk]

theorem val_take_set (b : Int) (Z : List Int) (k : Nat) (u : Int) (h : k < Z.length) : val b ((Z.set k u).take (k + 1)) = val b (Z.take k) + u * pw b k := by
  rw [val_take_succ, List.take_set, List.set_eq_of_length_le (by simp; omega)]
  simp [List.getD, h]

theorem minus_word {a b c : Int} (ha : 0 ≤ a ∧ a < 4294967296) (hb : 0 ≤ b ∧ b < 4294967296) (hc : c = 0 ∨ c = 1) :
    IntKind.u64.wrap (4294967296 + a) = 4294967296 + a ∧ IntKind.u64.wrap (4294967296 + a - b) = 4294967296 + a - b ∧ IntKind.u64.wrap (4294967296 + a - b - c) = 4294967296 + a - b - c ∧ 0 ≤ 4294967296 + a - b - c ∧ 0 ≤ (4294967296 + a - b - c) % 4294967296 ∧ (4294967296 + a - b - c) % 4294967296 < 4294967296 ∧ (1 - (4294967296 + a - b - c) / 4294967296 = 0 ∨ 1 - (4294967296 + a - b - c) / 4294967296 = 1) ∧ IntKind.u64.wrap (1 - (4294967296 + a - b - c) / 4294967296) = 1 - (4294967296 + a - b - c) / 4294967296 ∧ (4294967296 + a - b - c) % 4294967296 = a - b - c + 4294967296 * (1 - (4294967296 + a - b - c) / 4294967296) := by
  rw [IntKind.wrap_u64, IntKind.wrap_u64, IntKind.wrap_u64, IntKind.wrap_u64]
  omega

/-- What a difference is told as. -/
def Rm (x y : Int) (w : World) (e : Ending) (w' : World) : Prop := ∃ R, e = .returned (.tuple #[.agg (fV R).toArray, .bool (decide (x < y))]) ∧ Fw R (x - y + (if x < y then RR else 0)) ∧ Below w.heap.size w w'

set_option maxRecDepth 100000 in
set_option maxHeartbeats 2000000 in
theorem rminus_any (A B : List Int) (x y : Int) (hA : Fw A x) (hB : Fw B y) (w : World) :
    Calls Tryd.prog 72 #[.agg (fV A).toArray, .agg (fV B).toArray] w (Rm x y w) := by
  have HA := hide hA
  have HB := hide hB
  have honeA := ints_one A .u64
  have honeB := ints_one B .u64
  obtain ⟨LA, hLA⟩ : ∃ L, fV A = L := ⟨_, rfl⟩
  obtain ⟨LB, hLB⟩ : ∃ L, fV B = L := ⟨_, rfl⟩
  change ∀ u ∈ fV A, u.oneCell' = true at honeA
  change ∀ u ∈ fV B, u.oneCell' = true at honeB
  rw [hLA] at honeA ⊢
  rw [hLB] at honeB ⊢
  have HLA := hide hLA
  have HLB := hide hLB
  clear hA hB hLA hLB
  go_enter Tryd.func72, Tryd.ntmps72
  go_wp2
  go_loopw [7, 8] (fun bv i wr => ∃ (k : Nat) (c : Int) (Z : List Int), i = .int .i64 (k : Int) ∧ k ≤ 8 ∧ bv = .int .u64 c ∧ (c = 0 ∨ c = 1) ∧ Hid (Z.length = 8) ∧ Hid (RowG .u64 4294967296 52 wr (w.heap.size + 1 + 1 + 1) Z) ∧ Hid (val 4294967296 (Z.take k) = val 4294967296 (A.take k) - val 4294967296 (B.take k) + c * pw 4294967296 k) ∧ Hid (Blk 52 wr w.heap.size (fV A)) ∧ Hid (Blk 52 wr (w.heap.size + 1) (fV B)) ∧ Hid (Blk 52 wr (w.heap.size + 1 + 1) (fV z8)) ∧ Hid (Below w.heap.size w wr)) (fun _ i _ => 8 - (intOf i).toNat)
  case atStart =>
    refine ⟨0, 0, z8, rfl, by omega, rfl, .inl rfl, rfl, ⟨?_, fw_z8.dg⟩, by unfold Hid; simp [val], ?_, ?_, ?_, ?_⟩
    · exact Blk.new _ (fV z8) _ _ rfl (by simp)
    · have := HLA.out; subst this; exact (((Blk.new w _ _ _ rfl rfl).alloc _).alloc _).alloc _
    · have := HLB.out; subst this; exact ((Blk.new _ _ _ _ rfl (by simp)).alloc _).alloc _
    · exact (Blk.new _ (fV z8) _ _ rfl (by simp)).alloc _
    · exact (below3 w _ _ _).alloc (by simp; omega) _
  case round =>
    obtain ⟨k, c, Z, rfl, hk, rfl, hc, HZ, HR, HV, KA, KB, KZ, HW⟩ := hrel
    by_cases hk8 : k < 8
    · have ca := blk_cell KA.out k (by rw [HA.out.len]; exact hk8)
      have cb := blk_cell KB.out k (by rw [HB.out.len]; exact hk8)
      have ba := HA.out.dg.at (by decide : (0 : Int) < 4294967296) k
      have bb := HB.out.dg.at (by decide : (0 : Int) < 4294967296) k
      have cz := HR.out.cell k (by rw [HZ.out]; exact hk8)
      have fz := HR.out.frozen k
      have va := val_take_succ 4294967296 A k
      have vb := val_take_succ 4294967296 B k
      obtain ⟨a, ha⟩ : ∃ a, A.getD k 0 = a := ⟨_, rfl⟩
      obtain ⟨b, hb⟩ : ∃ b, B.getD k 0 = b := ⟨_, rfl⟩
      rw [ha] at ca ba va
      rw [hb] at cb bb vb
      obtain ⟨q1, q2, q3, q4, q5, q6, q7, q8, q9⟩ := minus_word ba bb hc
      obtain ⟨X, hX⟩ : ∃ X, 4294967296 + a - b - c = X := ⟨_, rfl⟩
      rw [hX] at q3 q4 q5 q6 q7 q8 q9
      have tm : Int.tmod X 4294967296 = X % 4294967296 := by rw [Int.tmod_eq_emod_of_nonneg q4]
      have td : Int.tdiv X 4294967296 = X / 4294967296 := by rw [Int.tdiv_eq_ediv_of_nonneg q4]
      obtain ⟨u, hu⟩ : ∃ u, X % 4294967296 = u := ⟨_, rfl⟩
      obtain ⟨v, hv⟩ : ∃ v, X / 4294967296 = v := ⟨_, rfl⟩
      rw [hu] at q5 q6 q9 tm
      rw [hv] at q7 q8 q9 td
      obtain ⟨d, hd⟩ : ∃ d, 1 - v = d := ⟨_, rfl⟩
      rw [hd] at q7 q8 q9
      have HV' : Hid (val 4294967296 ((Z.set k u).take (k + 1)) = val 4294967296 (A.take (k + 1)) - val 4294967296 (B.take (k + 1)) + d * pw 4294967296 (k + 1)) := by
        unfold Hid
        rw [val_take_set _ _ _ _ (by rw [HZ.out]; exact hk8), HV.out, va, vb, q9, show pw 4294967296 (k + 1) = 4294967296 * pw 4294967296 k from rfl]
        grind
      have HU : Hid ((4294967296 + a - b - c) % 4294967296 = u) := by unfold Hid; rw [hX]; exact hu
      have HDe : Hid (1 - (4294967296 + a - b - c) / 4294967296 = d) := by unfold Hid; rw [hX, hv]; exact hd
      have kb : (k : Int) ≤ 7 := by omega
      have HQ7 := hide q7
      have HG := hide (gSet wr (w.heap.size + 1 + 1 + 1) k (.int .u64 u))
      have HR' : Hid (RowG .u64 4294967296 52 (wr.setCell ⟨w.heap.size + 1 + 1 + 1, k, none⟩ (.int .u64 u)) (w.heap.size + 1 + 1 + 1) (Z.set k u)) := HR.out.set k u ⟨q5, q6⟩
      have KA' := hide (KA.out.kept HG.out (by simp; omega))
      have KB' := hide (KB.out.kept HG.out (by simp))
      have KZ' := hide (KZ.out.kept HG.out (by simp))
      have HW' : Hid (Below w.heap.size w (wr.setCell ⟨w.heap.size + 1 + 1 + 1, k, none⟩ (.int .u64 u))) := HW.out.setCell (by show w.heap.size ≤ w.heap.size + 1 + 1 + 1; omega) _
      clear ha hb hX hu hv hd va vb q7 q9 HV HR KA KB KZ HW
      go_wp2
      go_quiet (fail)
      go_wp2
      have e1 := HU.out
      have e2 := HDe.out
      rw [e1, e2]
      refine ⟨⟨k + 1, d, Z.set k u, by go_num, by omega, rfl, HQ7.out, ?_, HR'.out.heap rfl, HV', KA'.out.heap rfl, KB'.out.heap rfl, KZ'.out.heap rfl, ⟨HW'.out.os, HW'.out.tape, HW'.out.output, HW'.out.size, HW'.out.block⟩⟩, by simp [intOf]; omega⟩
      unfold Hid
      rw [List.length_set]
      exact HZ.out
    · obtain rfl : k = 8 := by omega
      have hv := HV.out
      rw [List.take_of_length_le (by rw [HZ.out]; omega), List.take_of_length_le (by rw [HA.out.len]; omega), List.take_of_length_le (by rw [HB.out.len]; omega), HA.out.v, HB.out.v, show pw 4294967296 8 = RR by decide] at hv
      have hR : Fw Z (val 4294967296 Z) := ⟨HZ.out, HR.out.2, rfl⟩
      have hRb := hR.bd
      have hxb := HA.out.bd
      have hyb := HB.out.bd
      have hcc : (x < y ∧ c = 1) ∨ (¬ x < y ∧ c = 0) := by
        rcases hc with rfl | rfl
        · exact .inr ⟨by omega, rfl⟩
        · exact .inl ⟨by omega, rfl⟩
      have hfin : Hid (decide (x < y) = (c == 1) ∧ Fw Z (x - y + (if x < y then RR else 0))) := by
        rcases hcc with ⟨h1, rfl⟩ | ⟨h1, rfl⟩
        · exact ⟨by simp [h1], HZ.out, HR.out.2, by rw [if_pos h1, hv]; omega⟩
        · exact ⟨by simp [h1], HZ.out, HR.out.2, by rw [if_neg h1, hv]; omega⟩
      have HB1 := hide HR.out.blk
      have hld := ldF HZ.out HB1.out
      have hst := stF8 HZ.out KZ.out rfl
      clear hv hR hRb hxb hyb hcc HV HR KA KB HB1
      go_wp2
      refine bodyPost_ret (v := .tuple #[.agg (fV Z).toArray, .bool (c == 1)]) ?_ rfl ⟨Z, by rw [hfin.out.1], hfin.out.2, below_sets HW.out (by omega) HW.out.size _ _⟩
      exact res_two (p := 4) (q := 5) (T := 52) (X := fV Z) (g := w.heap.size + 1 + 1) (by kernel_rfl) _ _ rfl Tryd.underlying52 rfl (by rw [fV_len, HZ.out]; exact info_F) (blk_all KZ.out (by rw [fV_len, fV_len, HZ.out]; rfl))

end Go.Proofs.YtnabmdpgibnkaaaDoor
