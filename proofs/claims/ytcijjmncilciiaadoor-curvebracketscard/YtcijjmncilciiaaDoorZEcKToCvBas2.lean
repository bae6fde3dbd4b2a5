/-
  What CurveCodes and CurveGroup ask of the base's times. Plain facts.
  Points as they are handed about: sums, times and points across, told by the points alone.
  An array of five points: made, stored, indexed.
  curve.Base, where its own two tables alone are told.
-/
import Derived.Test.YtcijjmncilciiaaDoorZEcHToCrTw
import Derived.Test.YtcijjmncilciiaaDoorZCrAdToCvEon
import Derived.Test.YtcijjmncilciiaaDoorZCvDecToCvThe
import Derived.Test.YtcijjmncilciiaaDoorZStepToCvEnc
import Derived.Test.YtcijjmncilciiaaDoorZEcCToEcJ
namespace Go.Proofs.YtcijjmncilciiaaDoor

theorem g_pt : ptOf (be GX) (be GY) false = some (gx, gy) := by decide +kernel
/-- Mul of the base. -/
theorem mul_g {K : List Int} (hd : Dg 256 K) (hl : K.length = 32) : pmul (kbit K) (ptOf (be GX) (be GY) false) 256 = tms (dn K).toNat (some (gx, gy)) := by
  rw [g_pt]
  exact pmul_dn hd hl g_ok
theorem dn_nn : (dn (be NN)).toNat = NNat := by decide +kernel
/-- n times what Mul makes of the base is the far point. -/
theorem mul_n {K : List Int} (hd : Dg 256 K) (hl : K.length = 32) : pmul (kbit (be NN)) (pmul (kbit K) (ptOf (be GX) (be GY) false) 256) 256 = none := by
  rw [mul_g hd hl, pmul_dn (be_dg NN) (be_len NN) (tms_ok g_ok _), dn_nn, order_all]
/-- Two times of the base make the times of the sum, modulo n. -/
theorem mul_sum {K L M : List Int} (dK : Dg 256 K) (hK : K.length = 32) (dL : Dg 256 L) (hL : L.length = 32) (dM : Dg 256 M) (hM : M.length = 32)
    (h : (dn M).toNat = ((dn K).toNat + (dn L).toNat) % NNat) :
    padd (pmul (kbit K) (ptOf (be GX) (be GY) false) 256) (pmul (kbit L) (ptOf (be GX) (be GY) false) 256) = pmul (kbit M) (ptOf (be GX) (be GY) false) 256 := by
  rw [mul_g dK hK, mul_g dL hL, mul_g dM hM, h, tms_mod, tms_add g_ok]
/-- A point's bytes are read as that point. -/
theorem dec_enc {X Y : List Int} (hX : X.length = 32) (hY : Y.length = 32) (ho : onP X Y false = true) :
    encB X Y false = 4 :: (X ++ Y) ∧ encE X Y false = 0 ∧ decE (4 :: (X ++ Y)) = 0 ∧ decX (4 :: (X ++ Y)) = X ∧ decY (4 :: (X ++ Y)) = Y := by
  have hl : (4 :: (X ++ Y)).length = 65 := by simp [hX, hY]
  have hx : cX (4 :: (X ++ Y)) = X := by
    unfold cX
    rw [List.drop_succ_cons, List.drop_zero, ← hX, List.take_left]
  have hy : cY (4 :: (X ++ Y)) = Y := by
    unfold cY
    rw [List.drop_succ_cons, ← hX, List.drop_left]
  have hd := dec_on (xs := 4 :: (X ++ Y)) ⟨hl, rfl⟩ (by rw [hx, hy]; exact ho)
  rw [hx, hy] at hd
  refine ⟨?_, ?_, hd.1, hd.2.1, hd.2.2⟩
  · unfold encB
    rw [ho]
    rfl
  · unfold encE
    rw [ho]
    rfl

end Go.Proofs.YtcijjmncilciiaaDoor

namespace Go.Proofs.YtcijjmncilciiaaDoor
open Go.RowKit Go.IntWalk

/-- The point across. -/
def pneg : Option (Int × Int) → Option (Int × Int)
  | none => none
  | some (x, y) => some (x, ps 0 y)
theorem ps_op (y : Int) : D (y + ps 0 y) := by
  have h : Cg (ps 0 y) (0 - y) := Cg.md _
  have h2 := (Cg.refl y).add h
  exact Cg.zero.1 (h2.trans (Cg.of_eq (by omega)))
theorem pneg_ok : ∀ {p : Option (Int × Int)}, Ok p → Ok (pneg p)
  | none, _ => trivial
  | some (x, y), h => by
    refine ⟨h.1, ps_bd _ _, ?_⟩
    have h1 := ps_op y
    have h2 := h.2.2
    show D (cR BB x (ps 0 y))
    generalize ps 0 y = z at h1
    have e : cR BB x z = cR BB x y + (z - y) * (y + z) := by unfold cR; generalize BB = b; clear h h1 h2; grind
    rw [e]
    exact D.add h2 (D.mul_l _ h1)
theorem padd_neg : ∀ {p : Option (Int × Int)}, Ok p → padd p (pneg p) = none
  | none, _ => rfl
  | some (_, y), h => op_none h ⟨rfl, ps_op y⟩

/-- A point's cells. -/
def eL (p : Option (Int × Int)) : List Value := pL (encX p) (encY p) (encF p)
theorem eL_len (p : Option (Int × Int)) : (eL p).length = 65 := pL_len (encX_len _) (encY_len _) _
theorem eL_one (p : Option (Int × Int)) : ∀ v ∈ eL p, v.oneCell' = true := pL_one _ _ _
theorem eOk (p : Option (Int × Int)) : (encX p).length = 32 ∧ (encY p).length = 32 ∧ Dg 256 (encX p) ∧ Dg 256 (encY p) := ⟨encX_len _, encY_len _, (be_dg' _).1, (be_dg' _).2⟩
theorem eL_far : eL none = pL z32 z32 true := rfl
theorem base_on10 : onP (be GX) (be GY) false = true := by decide +kernel
theorem eL_g : eL (some (gx, gy)) = pL (be GX) (be GY) false := by
  show pL (be gx) (be gy) false = _
  have h : be gx = be GX ∧ be gy = be GY := by decide +kernel
  rw [h.1, h.2]
theorem sumQ_twoE {p q : Option (Int × Int)} (hp : Ok p) (hq : Ok q) : sumQ [(encX p, encY p, encF p), (encX q, encY q, encF q)] = padd p q := by
  show padd (padd none (ptOf (encX p) (encY p) (encF p))) (ptOf (encX q) (encY q) (encF q)) = _
  rw [(enc_on hp).2, (enc_on hq).2, far_padd]
theorem sumQ_threeE {p q r : Option (Int × Int)} (hp : Ok p) (hq : Ok q) (hr : Ok r) : sumQ [(encX p, encY p, encF p), (encX q, encY q, encF q), (encX r, encY r, encF r)] = padd (padd p q) r := by
  show padd (padd (padd none (ptOf (encX p) (encY p) (encF p))) (ptOf (encX q) (encY q) (encF q))) (ptOf (encX r) (encY r) (encF r)) = _
  rw [(enc_on hp).2, (enc_on hq).2, (enc_on hr).2, far_padd]
theorem addQ {p q : Option (Int × Int)} (hp : Ok p) (hq : Ok q) (w : World) (hC : Cv w) :
    Calls Tryd.prog 8 #[.agg (eL p).toArray, .agg (eL q).toArray] w (Ans (.tuple #[.agg (eL (padd p q)).toArray, .int .i64 0]) w) := by
  have h := add_any (encX p) (encY p) (encF p) (encX q) (encY q) (encF q) (eOk p) (eOk q) w hC
  have ha : allOn [(encX p, encY p, encF p), (encX q, encY q, encF q)] = true := by
    show (onP _ _ _ && (onP _ _ _ && true)) = true
    rw [(enc_on hp).1, (enc_on hq).1]
    rfl
  unfold suL suE at h
  rw [ha, if_pos rfl, if_pos rfl, sumQ_twoE hp hq] at h
  exact h
theorem sumQ3 {p q r : Option (Int × Int)} (hp : Ok p) (hq : Ok q) (hr : Ok r) (w : World) (hC : Cv w) :
    Calls Tryd.prog 9 #[.slice (some ⟨w.heap.size, 0, none⟩) 3 3] (w.alloc (.cells (eL p ++ (eL q ++ eL r)).toArray 25)) (Ans (.tuple #[.agg (eL (padd (padd p q) r)).toArray, .int .i64 0]) (w.alloc (.cells (eL p ++ (eL q ++ eL r)).toArray 25))) := by
  have h := sum_three (pOk3 (f1 := encF p) (f2 := encF q) (f3 := encF r) (eOk p) (eOk q) (eOk r)) w hC
  have ha : allOn [(encX p, encY p, encF p), (encX q, encY q, encF q), (encX r, encY r, encF r)] = true := by
    show (onP _ _ _ && (onP _ _ _ && (onP _ _ _ && true))) = true
    rw [(enc_on hp).1, (enc_on hq).1, (enc_on hr).1]
    rfl
  unfold suL suE at h
  rw [ha, if_pos rfl, if_pos rfl, sumQ_threeE hp hq hr] at h
  exact h
theorem negQ : ∀ {p : Option (Int × Int)} (_ : Ok p) (w : World) (_ : Cv w),
    Calls Tryd.prog 24 #[.agg (eL p).toArray] w (Ans (.tuple #[.agg (eL (pneg p)).toArray, .int .i64 0]) w) := by
  intro p hp w hC
  have h := neg_any (encX p) (encY p) (encF p) (encX_len _) (encY_len _) (be_dg' _).1 (be_dg' _).2 w hC
  have ho := (enc_on hp).1
  unfold ngX ngY ngF onE at h
  rw [ho, if_pos rfl, if_pos rfl, if_pos rfl, Bool.true_and] at h
  have e : eL (pneg p) = pL (encX p) (negY (encY p) (encF p)) (encF p) := by
    cases p with
    | none => rfl
    | some q =>
      obtain ⟨x, y⟩ := q
      have ey : dn (be y) = y := dn_be hp.2.1.1 (Int.lt_trans hp.2.1.2 PP_RR)
      show pL (be x) (be (ps 0 y)) false = pL (be x) (be (ps 0 (dn (be y)))) false
      rw [ey]
  rw [e]
  exact h
theorem onQ {p : Option (Int × Int)} (hp : Ok p) (w : World) (hC : Cv w) : Calls Tryd.prog 23 #[.agg (eL p).toArray] w (Ans (.bool true) w) := by
  have h := on_any (encX p) (encY p) (encF p) (encX_len _) (encY_len _) (be_dg' _).1 (be_dg' _).2 w hC
  rw [(enc_on hp).1] at h
  exact h
theorem baseQ (w : World) (hN : Cn w) : Calls Tryd.prog 17 #[] w (Ans (.agg (eL (some (gx, gy))).toArray) w) := by
  rw [eL_g]
  exact base_any w hN
theorem mulQ {K : List Int} (hK : K.length = 32) (dK : Dg 256 K) (w : World) (hC : Cv w) : Calls Tryd.prog 15 #[.agg (bV K).toArray, .agg (eL (some (gx, gy))).toArray] w (Ans (.tuple #[.agg (eL (tms (dn K).toNat (some (gx, gy)))).toArray, .int .i64 0]) w) := by
  have h := mul_yes K (be GX) (be GY) false hK dK (be_len _) (be_len _) (be_dg _) (be_dg _) base_on10 w hC
  rw [mul_g dK hK] at h
  rw [eL_g]
  exact h
theorem eqE (p : Option (Int × Int)) (w : World) : (eqA 25 (.agg (eL p).toArray) (.agg (eL p).toArray)).run Tryd.prog w = .ok (.bool true) w := by
  have h := eqP (encX p) (encY p) (encX p) (encY p) (encF p) (encF p) (encX_len _) (encY_len _) (encX_len _) (encY_len _) w
  rw [decide_eq_true ⟨rfl, rfl, rfl⟩] at h
  exact h
theorem neE (p : Option (Int × Int)) (w : World) : (neA 25 (.agg (eL p).toArray) (.agg (eL p).toArray)).run Tryd.prog w = .ok (.bool false) w := by
  have h := neP (encX p) (encY p) (encX p) (encY p) (encF p) (encF p) (encX_len _) (encY_len _) (encX_len _) (encY_len _) w
  rw [decide_eq_true ⟨rfl, rfl, rfl⟩] at h
  exact h

end Go.Proofs.YtcijjmncilciiaaDoor

namespace Go.Proofs.YtcijjmncilciiaaDoor
open Go.RowKit Go.IntWalk

theorem bd_five (ps : Array (Nat × Value)) : Instr.build 56 ps = bdA 56 ps := rfl
theorem st_five (v u : Value) : Instr.storeAt 56 v u = stA 56 v u := rfl
def P5 : List Value := PZ ++ (PZ ++ (PZ ++ (PZ ++ PZ)))
theorem zc_five : Tryd.zeroCells56 = P5.toArray := by kernel_rfl
theorem info_five : (Tryd.prog.info? 56).map (·.size) = some 325 := by kernel_rfl

set_option maxRecDepth 100000 in
theorem bd5 {L0 L1 L2 L3 L4 : List Value} (h0 : L0.length = 65) (h1 : L1.length = 65) (h2 : L2.length = 65) (h3 : L3.length = 65) (h4 : L4.length = 65) (w : World) :
    (bdA 56 #[(0, .agg L0.toArray), (1, .agg L1.toArray), (2, .agg L2.toArray), (3, .agg L3.toArray), (4, .agg L4.toArray)]).run Tryd.prog w = .ok (.agg (L0 ++ (L1 ++ (L2 ++ (L3 ++ L4)))).toArray) w := by
  have hs : (sizeOf 25).run Tryd.prog w = .ok 65 w := by kernel_rfl
  have hp : PZ.length = 65 := rfl
  have hf : Instr.fill (fun i => some (i * 65, 65)) P5.toArray [(0, .agg L0.toArray), (1, .agg L1.toArray), (2, .agg L2.toArray), (3, .agg L3.toArray), (4, .agg L4.toArray)] = some (L0 ++ (L1 ++ (L2 ++ (L3 ++ L4)))).toArray := by
    unfold P5
    rw [fill_step 65 (PZ ++ (PZ ++ (PZ ++ (PZ ++ PZ)))) [] PZ (PZ ++ (PZ ++ (PZ ++ PZ))) (by simp) 0 (by simp) hp L0 h0,
      fill_step 65 ([] ++ L0 ++ (PZ ++ (PZ ++ (PZ ++ PZ)))) L0 PZ (PZ ++ (PZ ++ PZ)) (by simp) 1 (by simpa using h0) hp L1 h1,
      fill_step 65 (L0 ++ L1 ++ (PZ ++ (PZ ++ PZ))) (L0 ++ L1) PZ (PZ ++ PZ) (by simp) 2 (by simp [h0, h1]) hp L2 h2,
      fill_step 65 (L0 ++ L1 ++ L2 ++ (PZ ++ PZ)) (L0 ++ L1 ++ L2) PZ PZ (by simp) 3 (by simp [h0, h1, h2]) hp L3 h3,
      fill_step 65 (L0 ++ L1 ++ L2 ++ L3 ++ PZ) (L0 ++ L1 ++ L2 ++ L3) PZ [] (by simp) 4 (by simp [h0, h1, h2, h3]) hp L4 h4, Instr.fill]
    simp
  unfold bdA Instr.build
  simp only [Sem.run_bind, Tryd.zeroValue56, Result.andThen, run_underlying Tryd.underlying56, hs]
  rw [show (Value.agg Tryd.zeroCells56).cells = P5.toArray from zc_five]
  rw [hf]
  rfl

theorem st5 {T : TypeId} {w : World} {g : Nat} {Z L : List Value} (h : Blk T w g Z) (hZ : Z.length = 325) (hL : L.length = 325) (h1 : ∀ v ∈ L, v.oneCell' = true) : (stA 56 (.pointer (some ⟨g, 0, none⟩)) (.agg L.toArray)).run Tryd.prog w = .ok () (w.setCells g 0 L) :=
  stA_all (by rw [hL]; exact info_five) h (by rw [hZ, hL]) h1
theorem ld5 {T : TypeId} {w : World} {g o : Nat} {A X C L : List Value} (hX : X.length = 65) (h : Blk T w g L) (hL : L = A ++ X ++ C) (ho : A.length = o) : (ldA 25 (.pointer (some ⟨g, o, none⟩))).run Tryd.prog w = .ok (.agg X.toArray) w :=
  ldA_mid Tryd.underlying25 rfl (by rw [hX]; exact info_pnt) (hL ▸ h) ho

theorem ix5 (w : World) (g n : Nat) (hn : n < 5) : (Instr.indexAt 56 (.pointer (some ⟨g, 0, none⟩)) (.int .i64 (n : Int))).run Tryd.prog w = .ok (.pointer (some ⟨g, 65 * n, none⟩)) w := by
  have hu : Tryd.prog.underlying 56 = some (.array (Tryd.prog.arrayLen 56) (Tryd.prog.elem 56)) := by kernel_rfl
  have hl : Tryd.prog.arrayLen 56 = 5 := by kernel_rfl
  have hs : ∀ X : World, (sizeOf (Tryd.prog.elem 56)).run Tryd.prog X = .ok 65 X := fun X => by kernel_rfl
  rw [run_indexAt_array _ _ _ _ _ hu]
  rw [if_pos ⟨by omega, by rw [hl]; omega⟩, hs]
  simp only [Result.andThen, Int.toNat_natCast, addNone, Nat.zero_add, Nat.mul_comm]

/-- Which of the five points is picked. -/
def pick5 (P : Option (Int × Int)) (n : Nat) : Option (Int × Int) := match n with
  | 0 => P
  | 1 => pneg P
  | 2 => none
  | 3 => some (gx, gy)
  | _ => P
theorem pick5_ok {P : Option (Int × Int)} (hP : Ok P) (n : Nat) : Ok (pick5 P n) := by
  unfold pick5
  split
  · exact hP
  · exact pneg_ok hP
  · trivial
  · exact g_ok
  · exact hP
theorem pick5_at (P : Option (Int × Int)) (n : Nat) (hn : n < 5) : ∃ A C, eL P ++ (eL (pneg P) ++ (eL none ++ (eL (some (gx, gy)) ++ eL P))) = A ++ eL (pick5 P n) ++ C ∧ A.length = 65 * n := by
  have l1 := eL_len P
  have l2 := eL_len (pneg P)
  have l3 := eL_len none
  have l4 := eL_len (some (gx, gy))
  match n, hn with
  | 0, _ => exact ⟨[], _, by simp only [List.nil_append]; rfl, rfl⟩
  | 1, _ => exact ⟨eL P, eL none ++ (eL (some (gx, gy)) ++ eL P), by simp [pick5], by simpa using l1⟩
  | 2, _ => exact ⟨eL P ++ eL (pneg P), eL (some (gx, gy)) ++ eL P, by simp [pick5], by rw [List.length_append, l1, l2]⟩
  | 3, _ => exact ⟨eL P ++ (eL (pneg P) ++ eL none), eL P, by simp [pick5], by rw [List.length_append, List.length_append, l1, l2, l3]⟩
  | 4, _ => exact ⟨eL P ++ (eL (pneg P) ++ (eL none ++ eL (some (gx, gy)))), [], by simp [pick5], by rw [List.length_append, List.length_append, List.length_append, l1, l2, l3, l4]⟩

/-- The number that is left by five. -/
theorem five_of (i : Int) : ∃ n : Nat, n < 5 ∧ (IntKind.u64.wrap i).tmod 5 = (n : Int) := by
  have h0 : 0 ≤ IntKind.u64.wrap i := by rw [IntKind.wrap_u64]; omega
  refine ⟨((IntKind.u64.wrap i).tmod 5).toNat, ?_, ?_⟩
  · rw [Int.tmod_eq_emod_of_nonneg h0]; omega
  · rw [Int.toNat_of_nonneg]
    rw [Int.tmod_eq_emod_of_nonneg h0]; omega

end Go.Proofs.YtcijjmncilciiaaDoor

namespace Go.Proofs.YtcijjmncilciiaaDoor
open Go.RowKit Go.IntWalk
attribute [local go_sem ↓] ld_num st_num ld_pln st_pln ld_ops st_ops ld_pnt st_pnt ld_dig st_dig ld_tri st_tri eq_num ne_num eq_pnt ne_pnt bd_pnt ld_F st_F eq_F ld_a32 st_a32 ld_rpt st_rpt eq_rpt bd_rpt eq_dgs

/-- The base's two tables alone. -/
structure Cb (w : World) : Prop where
  bx : w.rangeAt 0 0 (L4 17627433388654248598 8575836109218198432 17923454489921339634 7716867327612699207)
  by_ : w.rangeAt 1 0 (L4 14678990851816772085 3156516839386865358 10297457778147434006 5756518291402817435)
theorem Cb.below {w w' : World} (h : Cb w) (hb : Below w.heap.size w w') : Cb w' := ⟨range_carry h.bx hb, range_carry h.by_ hb⟩
theorem Cb.heap {w w' : World} (h : Cb w) (e : w'.heap = w.heap) : Cb w' := ⟨fun j v hv => (World.cell?_of_block (by rw [e])).trans (h.bx j v hv), fun j v hv => (World.cell?_of_block (by rw [e])).trans (h.by_ j v hv)⟩
theorem Cb.later {w W w' : World} (h : Cb w) (hb : Below W.heap.size W w') (e : W.heap = w.heap) : Cb w' := (h.heap e).below hb
theorem Cb.sets {w W : World} (h : Cb W) (n : Cb w) {k o : Nat} {vs : List Value} (hk : w.heap.size ≤ k) : Cb (W.setCells k o vs) :=
  ⟨range_sets h.bx ⟨range_lt h.bx, by have := range_lt n.bx; omega⟩, range_sets h.by_ ⟨range_lt h.by_, by have := range_lt n.by_; omega⟩⟩
theorem Cb.alloc {w : World} (h : Cb w) (o : Obj) : Cb (w.alloc o) := h.below (below1 w o)

theorem bas_B {W : World} (h : Cb W) : (ldA 99 (.pointer (some ⟨0, 0, none⟩))).run Tryd.prog W = .ok (.agg #[.int .u64 17627433388654248598, .int .u64 8575836109218198432, .int .u64 17923454489921339634, .int .u64 7716867327612699207]) W ∧ (ldA 99 (.pointer (some ⟨1, 0, none⟩))).run Tryd.prog W = .ok (.agg #[.int .u64 14678990851816772085, .int .u64 3156516839386865358, .int .u64 10297457778147434006, .int .u64 5756518291402817435]) W :=
  ⟨ldA_range Tryd.underlying99 rfl (by kernel_rfl) h.bx, ldA_range Tryd.underlying99 rfl (by kernel_rfl) h.by_⟩

set_option maxRecDepth 100000 in
set_option maxHeartbeats 1000000 in
theorem base_b (w : World) (hC : Cb w) :
    Calls Tryd.prog 17 #[] w fun e w' => e = .returned (.agg (pL (be GX) (be GY) false).toArray) ∧ Below w.heap.size w w' := by
  have HTX : Hid (∀ W, Calls Tryd.prog 50 #[.agg #[.int .u64 17627433388654248598, .int .u64 8575836109218198432, .int .u64 17923454489921339634, .int .u64 7716867327612699207]] W fun e w' => e = .returned (.agg (bV (be GX)).toArray) ∧ Below W.heap.size W w') := fun W => toDigest_any _ _ _ _ GX ⟨by decide, by decide⟩ ⟨by decide, by decide⟩ ⟨by decide, by decide⟩ ⟨by decide, by decide⟩ gx_v W
  have HTY : Hid (∀ W, Calls Tryd.prog 50 #[.agg #[.int .u64 14678990851816772085, .int .u64 3156516839386865358, .int .u64 10297457778147434006, .int .u64 5756518291402817435]] W fun e w' => e = .returned (.agg (bV (be GY)).toArray) ∧ Below W.heap.size W w') := fun W => toDigest_any _ _ _ _ GY ⟨by decide, by decide⟩ ⟨by decide, by decide⟩ ⟨by decide, by decide⟩ ⟨by decide, by decide⟩ gy_v W
  have hlx := be_len GX
  have hly := be_len GY
  generalize be GX = X at *
  generalize be GY = Y at *
  have hbd := bd_own2 X Y hlx hly
  have HLX := hide hlx
  have HLY := hide hly
  have HC := hide hC
  have C0 := hide (hC.alloc (.cells Tryd.zeroCells25 25))
  have Z0 := hide (Blk.new (T := 25) w PZ Tryd.zeroCells25 w.heap.size zc_pnt rfl)
  clear hlx hly hC
  go_enter Tryd.func17, Tryd.ntmps17
  go_wp2
  go_region_held3 (fun W => (ldA 99 (.pointer (some ⟨0, 0, none⟩))).run Tryd.prog W = .ok (.agg #[.int .u64 17627433388654248598, .int .u64 8575836109218198432, .int .u64 17923454489921339634, .int .u64 7716867327612699207]) W ∧ (ldA 99 (.pointer (some ⟨1, 0, none⟩))).run Tryd.prog W = .ok (.agg #[.int .u64 14678990851816772085, .int .u64 3156516839386865358, .int .u64 10297457778147434006, .int .u64 5756518291402817435]) W) (first | exact bas_B (C2.out.sets HC.out (Nat.le_refl _)) | exact bas_B C2.out | exact bas_B C1.out | exact bas_B (C0.out.heap (by rfl))) (first | (go_at_call_of 50 (Value.int .u64 17627433388654248598); refine (HTX.out _).mono ?_; rintro e w1 ⟨rfl, LB⟩; have C1 := hide (C0.out.later LB rfl); have Z1 := hide (Z0.out.later LB rfl); have U1 := hide (belowd1 LB); clear LB) | (go_at_call_of 50 (Value.int .u64 14678990851816772085); refine (HTY.out _).mono ?_; rintro e w2 ⟨rfl, LB⟩; have C2 := hide (C1.out.below LB); have Z2 := hide (Z1.out.below LB); have U2 := hide (below_then U1.out LB); clear LB; have hst := stPt (f := false) HLX.out HLY.out Z2.out rfl))
  go_wp2
  refine bodyPost_ret (v := .agg (pL X Y false).toArray) ?_ rfl ⟨rfl, below_sets U2.out (Nat.le_refl _) U2.out.size _ _⟩
  exact res_one (T := 25) (p := 0) (ty := 25) (g := w.heap.size) (X := pL X Y false) (by kernel_rfl) _ _ rfl Tryd.underlying25 rfl (by rw [pL_len HLX.out HLY.out]; exact info_pnt) (blk_all Z2.out (by rw [pL_len HLX.out HLY.out]; rfl))

theorem baseB (w : World) (hN : Cb w) : Calls Tryd.prog 17 #[] w (Ans (.agg (eL (some (gx, gy))).toArray) w) := by
  rw [eL_g]
  exact base_b w hN

end Go.Proofs.YtcijjmncilciiaaDoor
