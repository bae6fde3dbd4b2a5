/-
  curve's multiple: so many times a point.
  The document's numbers, each by its one row of eight words; what its small calls answer, told so.
-/
import Derived.Test.YtnabmdpgibnkaabDoorZEcJToEcS
import Derived.Deep.DeepCutAuto
import Derived.Test.YtnabmdpgibnkaabDoorZCrOn
import Derived.Test.YtnabmdpgibnkaabDoorZBxMToCvPr
namespace Go.Proofs.YtnabmdpgibnkaabDoor
open Go.RowKit Go.IntWalk
attribute [local go_sem ↓] ld_num st_num ld_pln st_pln ld_ops st_ops ld_tri st_tri bd_tri ld_dig st_dig ix_dig

/-- The bits of a number of 32 bytes, the highest first. -/
def kbit (K : List Int) (m : Nat) : Bool := decide (K.getD (m / 8) 0 / 2 ^ (7 - m % 8) % 2 = 1)

theorem bit_at {y : Int} (h0 : 0 ≤ y) (h1 : y < 256) (c : Nat) (hc : c < 8) : (y * 2 ^ c % 256) / 128 = y / 2 ^ (7 - c) % 2 := by
  rcases c with _ | _ | _ | _ | _ | _ | _ | _ | c
  all_goals first | omega | (simp only [Nat.reduceSub, Nat.reduceAdd, Int.reducePow]; omega)

/-- Where multiple is: the point so far. -/
def MuAt (w : World) (K : List Int) (x1 y1 z1 : Int) (p : Option (Int × Int)) (g7 : Nat) (m : Nat) (W : World) : Prop :=
  ∃ x y z, RepP x y z (pmul (kbit K) p m) ∧ Bx w [(w.heap.size, 24, bV K), (w.heap.size + 1, 90, t3 x1 y1 z1), (w.heap.size + 1 + 1, 85, doL), (w.heap.size + 1 + 1 + 1, 90, [.int .u64 0, .int .u64 0, .int .u64 0, .int .u64 0, .int .u64 0, .int .u64 0, .int .u64 0, .int .u64 0, .int .u64 0, .int .u64 0, .int .u64 0, .int .u64 0]), (g7, 90, t3 x y z)] W

theorem farL_t3 : farL = t3 0 ONE 0 := by
  unfold t3
  rw [← nw_nL nw_zero, ← nw_nL one_w]
  rfl
theorem far_repP : RepP 0 ONE 0 none := ⟨⟨by decide, by decide⟩, ⟨by decide, by decide⟩, ⟨by decide, by decide⟩, True.intro, ⟨(uu_zero ⟨by decide, by decide⟩).2 rfl, fun h => by have := (uu_zero (a := ONE) ⟨by decide, by decide⟩).1 h; exact absurd this (by decide), (uu_zero ⟨by decide, by decide⟩).2 rfl⟩⟩

theorem MuAt.set {w : World} {K : List Int} {x1 y1 z1 x y z x' y' z' : Int} {p : Option (Int × Int)} {g7 m : Nat} {W V : World}
    (h : Bx w [(w.heap.size, 24, bV K), (w.heap.size + 1, 90, t3 x1 y1 z1), (w.heap.size + 1 + 1, 85, doL), (w.heap.size + 1 + 1 + 1, 90, [.int .u64 0, .int .u64 0, .int .u64 0, .int .u64 0, .int .u64 0, .int .u64 0, .int .u64 0, .int .u64 0, .int .u64 0, .int .u64 0, .int .u64 0, .int .u64 0]), (g7, 90, t3 x y z)] W) (b : Below W.heap.size W V) (hR : RepP x' y' z' (pmul (kbit K) p m)) :
    MuAt w K x1 y1 z1 p g7 m (V.setCells g7 0 (t3 x' y' z')) := ⟨x', y', z', hR, (h.below b).setAt 4 (t3 x' y' z') rfl rfl⟩

theorem info_dig' {K : List Int} (h : K.length = 32) : (Tryd.prog.info? 24).map (·.size) = some (bV K).length := by rw [bV_len, h]; kernel_rfl

set_option maxRecDepth 100000 in
set_option maxHeartbeats 4000000 in
theorem multiple_rep (K : List Int) (hK : K.length = 32) (dK : Dg 256 K) {x1 y1 z1 : Int} {p : Option (Int × Int)} (hp : RepP x1 y1 z1 p) (w : World) (hC : Cv w) :
    Calls Tryd.prog 58 #[.agg (bV K).toArray, .agg (t3 x1 y1 z1).toArray, .agg doL.toArray] w (fun e w' => ∃ x y z, e = .returned (.agg (t3 x y z).toArray) ∧ RepP x y z (pmul (kbit K) p 256) ∧ Below w.heap.size w w') := by
  have HK := hide hK
  have HDK := hide dK
  have HP := hide hp
  have o1 : ∀ v ∈ bV K, v.oneCell' = true := ints_one _ _
  have o2 := t3_one x1 y1 z1
  have o3 := doL_one
  have hS : Bx w [(w.heap.size, 24, bV K), (w.heap.size + 1, 90, t3 x1 y1 z1), (w.heap.size + 1 + 1, 85, doL), (w.heap.size + 1 + 1 + 1, 90, [.int .u64 0, .int .u64 0, .int .u64 0, .int .u64 0, .int .u64 0, .int .u64 0, .int .u64 0, .int .u64 0, .int .u64 0, .int .u64 0, .int .u64 0, .int .u64 0])] ((((w.alloc (.cells (bV K).toArray 24)).alloc (.cells (t3 x1 y1 z1).toArray 90)).alloc (.cells doL.toArray 85)).alloc (.cells #[.int .u64 0, .int .u64 0, .int .u64 0, .int .u64 0, .int .u64 0, .int .u64 0, .int .u64 0, .int .u64 0, .int .u64 0, .int .u64 0, .int .u64 0, .int .u64 0] 90)) :=
    ((((Bx.nil w).newAt 0 (w.heap.size) (by simp) 24 (bV K) _ rfl).newAt 1 (w.heap.size + 1) (by simp) 90 (t3 x1 y1 z1) _ rfl).newAt 2 (w.heap.size + 1 + 1) (by simp) 85 doL _ rfl).newAt 3 (w.heap.size + 1 + 1 + 1) (by simp) 90 _ _ rfl
  have HF : Hid (∀ W, Below w.heap.size w W → Calls Tryd.prog 38 #[] W (Ans (.agg (t3 0 ONE 0).toArray) W)) := fun W hW => by rw [← farL_t3]; exact far_any W (hC.below hW)
  have HSUM : Hid (∀ {x1 y1 z1 x2 y2 z2 : Int} {p q : Option (Int × Int)}, RepP x1 y1 z1 p → RepP x2 y2 z2 q → ∀ W, Calls Tryd.prog 40 #[.agg (t3 x1 y1 z1).toArray, .agg (t3 x2 y2 z2).toArray, .agg doL.toArray] W (fun e w' => ∃ x y z, e = .returned (.agg (t3 x y z).toArray) ∧ RepP x y z (padd p q) ∧ Below W.heap.size W w')) := fun h1 h2 W => sum_rep h1 h2 W
  have HIX : Hid (∀ (k : Nat), k < 32 → ∀ W, (ixA 24 (.agg (bV K).toArray) (.int .i64 (k : Int))).run Tryd.prog W = .ok (.int .u8 (K.getD k 0)) W) := fun k hk W => ixD K hK k hk W
  clear hK dK hp hC
  go_enter Tryd.func58, Tryd.ntmps58
  go_wp2_with fail
  refine (HF.out _ hS.bl).mono ?_
  rintro e U1 ⟨rfl, LB⟩
  have hS := hS.below LB
  clear LB o1 o2 o3
  have hst := sttn U1 0 ONE 0
  have hS' : MuAt w K x1 y1 z1 p U1.heap.size 0 (U1.alloc (.cells (t3 0 ONE 0).toArray 90)) := ⟨0, ONE, 0, far_repP, hS.newAt 4 U1.heap.size rfl 90 (t3 0 ONE 0) _ rfl⟩
  have hG : Hid (w.heap.size + 1 + 1 + 1 < U1.heap.size) := (hS.get 3 rfl).lt
  clear hS
  go_upto_region 2 with fail
  generalize U1.alloc (.cells (t3 0 ONE 0).toArray 90) = U2 at hS' ⊢
  generalize U1.heap.size = g7 at hS' hG ⊢
  have hld : (ldA 24 (.pointer (some ⟨w.heap.size, 0, none⟩))).run Tryd.prog U2 = .ok (.agg (bV K).toArray) U2 := by
    obtain ⟨x, y, z, _, hB⟩ := hS'
    exact ldA_all Tryd.underlying24 rfl (info_dig' HK.out) (hB.get 0 rfl)
  have HS0 := hide hS'
  clear hst hS'
  go_wp2
  clear hld
  go_loopw [9, 12] (fun _ iv wr => ∃ (a : Nat), iv = .int .i64 (a : Int) ∧ a ≤ 32 ∧ Hid (MuAt w K x1 y1 z1 p g7 (8 * a) wr)) (fun _ iv _ => 32 - (intOf iv).toNat)
  case atStart => exact ⟨0, rfl, by omega, HS0⟩
  case round =>
    clear HS0
    obtain ⟨a, rfl, ha, HS⟩ := hrel
    by_cases h32 : a < 32
    · have hix := HIX.out a h32
      have hyb := HDK.out.at (by decide : (0 : Int) < 256) a
      have hkb : ∀ c, c < 8 → kbit K (8 * a + c) = decide (K.getD a 0 / 2 ^ (7 - c) % 2 = 1) := by
        intro c hc
        unfold kbit
        rw [show (8 * a + c) / 8 = a by omega, show (8 * a + c) % 8 = c by omega]
      obtain ⟨y0, hy0⟩ : ∃ y, K.getD a 0 = y := ⟨_, rfl⟩
      rw [hy0] at hix hyb hkb
      have HKB := hide hkb
      have HYB := hide hyb
      have ab : (a : Int) ≤ 31 := by omega
      have had : decide ((a : Int) < 32) = true := by simp; omega
      clear hy0 hkb hyb
      go_wp2
      go_loopw [9, 15] (fun ev iv wr => ∃ (c : Nat) (y : Int), iv = .int .i64 (c : Int) ∧ c ≤ 8 ∧ ev = .int .u8 y ∧ Hid (y = y0 * 2 ^ c % 256) ∧ Hid (MuAt w K x1 y1 z1 p g7 (8 * a + c) wr)) (fun _ iv _ => 8 - (intOf iv).toNat)
      case atStart => exact ⟨0, y0, rfl, by omega, rfl, by unfold Hid; rw [Int.pow_zero, Int.mul_one]; exact (Int.emod_eq_of_lt HYB.out.1 HYB.out.2).symm, HS⟩
      case round =>
        clear HS hix
        obtain ⟨c, y, rfl, hc, rfl, HY, HS⟩ := hrel
        by_cases hc8 : c < 8
        · obtain ⟨x', y', z', hR, hS⟩ := HS.out
          have hb := bit_at HYB.out.1 HYB.out.2 c hc8
          rw [← HY.out] at hb
          have hkb := HKB.out c hc8
          rw [← hb] at hkb
          have hyr : 0 ≤ y ∧ y < 256 := by rw [HY.out]; exact ⟨Int.emod_nonneg _ (by decide), Int.emod_lt_of_pos _ (by decide)⟩
          obtain ⟨b, hbe⟩ : ∃ b : Int, y / 128 = b := ⟨_, rfl⟩
          have hb01 : b = 0 ∨ b = 1 := by omega
          rw [hbe] at hkb
          obtain ⟨y2, hy2⟩ : ∃ y2, IntKind.u8.wrap (y * 2) = y2 := ⟨_, rfl⟩
          have HY2 : Hid (y2 = y0 * 2 ^ (c + 1) % 256) := by
            unfold Hid
            rw [← hy2, IntKind.wrap_u8, HY.out, Int.pow_succ, ← Int.mul_assoc]
            omega
          have cb : (c : Int) ≤ 7 := by omega
          have hl7 := ldt (hS.get 4 rfl)
          have hl1 := ldt (hS.get 1 rfl)
          have hld := ldD (hS.get 2 rfl)
          have HR := hide hR
          have HKB' := hide hkb
          have HS1 := hide hS
          clear hR hkb HY HS hb hyr hS
          go_wp2_with fail
          refine (HSUM.out HR.out HR.out _).mono ?_
          rintro e U3 ⟨x3, y3, z3, rfl, hR3, LB⟩
          have hS := HS1.out.below LB
          have hst := stt (hS.get 4 rfl) rfl x3 y3 z3
          have hS' : Bx w [(w.heap.size, 24, bV K), (w.heap.size + 1, 90, t3 x1 y1 z1), (w.heap.size + 1 + 1, 85, doL), (w.heap.size + 1 + 1 + 1, 90, [.int .u64 0, .int .u64 0, .int .u64 0, .int .u64 0, .int .u64 0, .int .u64 0, .int .u64 0, .int .u64 0, .int .u64 0, .int .u64 0, .int .u64 0, .int .u64 0]), (g7, 90, t3 x3 y3 z3)] (U3.setCells g7 0 (t3 x3 y3 z3)) := hS.setAt 4 (t3 x3 y3 z3) rfl rfl
          have HR3 := hide hR3
          clear LB hS hl7 hl1 hld HS1 hR3
          go_upto_region 8 with fail
          generalize U3.setCells g7 0 (t3 x3 y3 z3) = U4 at hS' ⊢
          clear hst
          have hl7 := ldt (hS'.get 4 rfl)
          have hl1 := ldt (hS'.get 1 rfl)
          have hld := ldD (hS'.get 2 rfl)
          have HS' := hide hS'
          clear hS'
          rcases hb01 with rfl | rfl
          · have HM : Hid (MuAt w K x1 y1 z1 p g7 (8 * a + (c + 1)) U4) := by
              refine ⟨x3, y3, z3, ?_, HS'.out⟩
              rw [show 8 * a + (c + 1) = (8 * a + c) + 1 by omega, pmul, HKB'.out, if_neg (by decide)]
              exact HR3.out
            go_wp2
            go_roundw
            case rel => exact ⟨c + 1, y2, by go_num, by omega, rfl, HY2, HM⟩
            case measure => simp [intOf]; omega
          · go_wp2_with fail
            refine (HSUM.out HR3.out HP.out _).mono ?_
            rintro e U5 ⟨x5, y5, z5, rfl, hR5, LB⟩
            have hS := HS'.out.below LB
            have hst := stt (hS.get 4 rfl) rfl x5 y5 z5
            have HM : Hid (MuAt w K x1 y1 z1 p g7 (8 * a + (c + 1)) (U5.setCells g7 0 (t3 x5 y5 z5))) := by
              refine ⟨x5, y5, z5, ?_, hS.setAt 4 (t3 x5 y5 z5) rfl rfl⟩
              rw [show 8 * a + (c + 1) = (8 * a + c) + 1 by omega, pmul, HKB'.out, if_pos (by decide)]
              exact hR5
            clear LB hS hl7 hl1 hld hR5
            go_wp2
            go_roundw
            case rel => exact ⟨c + 1, y2, by go_num, by omega, rfl, HY2, HM⟩
            case measure => simp [intOf]; omega
        · obtain rfl : c = 8 := by omega
          have HS' : Hid (MuAt w K x1 y1 z1 p g7 (8 * (a + 1)) wr) := HS
          go_wp2
          go_roundw
          case rel => exact ⟨a + 1, by go_num, by omega, HS'⟩
          case measure => simp [intOf]; omega
    · obtain rfl : a = 32 := by omega
      obtain ⟨x', y', z', hR, hS⟩ := HS.out
      have hl7 := ldt (hS.get 4 rfl)
      have hst := stt (hS.get 3 rfl) rfl x' y' z'
      have hS' : Bx w [(w.heap.size, 24, bV K), (w.heap.size + 1, 90, t3 x1 y1 z1), (w.heap.size + 1 + 1, 85, doL), (w.heap.size + 1 + 1 + 1, 90, t3 x' y' z'), (g7, 90, t3 x' y' z')] (wr.setCells (w.heap.size + 1 + 1 + 1) 0 (t3 x' y' z')) := hS.setAt 3 (t3 x' y' z') rfl rfl
      have HR := hide hR
      clear hS HS hR
      go_wp2
      generalize wr.setCells (w.heap.size + 1 + 1 + 1) 0 (t3 x' y' z') = U9 at hS' ⊢
      refine bodyPost_ret (v := .agg (t3 x' y' z').toArray) ?_ rfl ⟨x', y', z', rfl, HR.out, hS'.bl⟩
      exact res_one (T := 90) (p := 6) (ty := 90) (X := t3 x' y' z') (by kernel_rfl) _ _ rfl Tryd.underlying90 rfl (by kernel_rfl) (hS'.get 3 rfl)

end Go.Proofs.YtnabmdpgibnkaabDoor

namespace Go.Proofs.YtnabmdpgibnkaabDoor
open Go.RowKit Go.IntWalk
theorem ld_J (v : Value) : Instr.loadAt 110 v = ldA 110 v := rfl
theorem st_J (v u : Value) : Instr.storeAt 110 v u = stA 110 v u := rfl
theorem bd_J (ps : Array (Nat × Value)) : Instr.build 110 ps = bdA 110 ps := rfl
theorem bd_F (ps : Array (Nat × Value)) : Instr.build 98 ps = bdA 98 ps := rfl

/-- Boxes that are new. -/
def zF : List Value := [.int .u64 0, .int .u64 0, .int .u64 0, .int .u64 0, .int .u64 0, .int .u64 0, .int .u64 0, .int .u64 0]
def z24 : List Value := [.int .u64 0, .int .u64 0, .int .u64 0, .int .u64 0, .int .u64 0, .int .u64 0, .int .u64 0, .int .u64 0, .int .u64 0, .int .u64 0, .int .u64 0, .int .u64 0, .int .u64 0, .int .u64 0, .int .u64 0, .int .u64 0, .int .u64 0, .int .u64 0, .int .u64 0, .int .u64 0, .int .u64 0, .int .u64 0, .int .u64 0, .int .u64 0]
/-- A number's eight cells. -/
def fL (x : Int) : List Value := fV (cw x)
theorem fL_len (x : Int) : (fL x).length = 8 := rfl
theorem fL_one (x : Int) : ∀ v ∈ fL x, v.oneCell' = true := ints_one _ _
theorem fw_nb {x : Int} (h : Nb x) : Fw (cw x) x := fw_cw h.1 (Int.lt_trans h.2 PP_RR)
theorem fw_fL {R : List Int} {x : Int} (h : Fw R x) (b : Nb x) : fV R = fL x := by
  have : R = cw x := (h.inj (fw_nb b)).2 rfl
  rw [this]
  rfl
theorem cw_zero : cw 0 = z8 := by decide +kernel
theorem fL_zero : fL 0 = [.int .u64 0, .int .u64 0, .int .u64 0, .int .u64 0, .int .u64 0, .int .u64 0, .int .u64 0, .int .u64 0] := by unfold fL; rw [cw_zero]; rfl
theorem one_nb : Nb ONE := by unfold Nb; decide
theorem sq_nb : Nb SQ := by unfold Nb; decide
theorem zero_nb : Nb 0 := by unfold Nb; decide
theorem oneW_fL : fV oneW = fL ONE := fw_fL fw_oneW one_nb
theorem sqW_fL : fV sqW = fL SQ := fw_fL fw_sqW sq_nb
theorem ldf {T : TypeId} {w : World} {g : Nat} {x : Int} (h : Blk T w g (fL x)) : (ldA 98 (.pointer (some ⟨g, 0, none⟩))).run Tryd.prog w = .ok (.agg (fL x).toArray) w :=
  ldA_all Tryd.underlying98 rfl (by kernel_rfl) h
theorem stf {T : TypeId} {w : World} {g : Nat} {Z : List Value} (h : Blk T w g Z) (hZ : Z.length = 8) (x : Int) : (stA 98 (.pointer (some ⟨g, 0, none⟩)) (.agg (fL x).toArray)).run Tryd.prog w = .ok () (w.setCells g 0 (fL x)) :=
  stA_all (vs := fL x) (by kernel_rfl) h hZ (fL_one x)
theorem stfn (w : World) (x : Int) : (stA 98 (.pointer (some ⟨w.heap.size, 0, none⟩)) (.agg (fL x).toArray)).run Tryd.prog (w.alloc (.cells #[.int .u64 0, .int .u64 0, .int .u64 0, .int .u64 0, .int .u64 0, .int .u64 0, .int .u64 0, .int .u64 0] 98)) = .ok () (w.alloc (.cells (fL x).toArray 98)) :=
  run_storeAt_new (P := Tryd.prog) w 98 _ (fL x).toArray (by kernel_rfl) rfl (all_oneCell_toArray (fL_one x))

/-- Three of them: a point by x / z z, y / z z z. -/
def j3 (x y z : Int) : List Value := fL x ++ fL y ++ fL z
theorem j3_one (x y z : Int) : ∀ v ∈ j3 x y z, v.oneCell' = true := by
  intro v hv
  rcases List.mem_append.1 hv with hv | hv
  · rcases List.mem_append.1 hv with hv | hv
    · exact fL_one x v hv
    · exact fL_one y v hv
  · exact fL_one z v hv
theorem ldj3 {T : TypeId} {w : World} {g : Nat} {x y z : Int} (h : Blk T w g (j3 x y z)) :
    (ldA 98 (.pointer (some ⟨g, 0, none⟩))).run Tryd.prog w = .ok (.agg (fL x).toArray) w ∧ (ldA 98 (.pointer (some ⟨g, 8, none⟩))).run Tryd.prog w = .ok (.agg (fL y).toArray) w ∧ (ldA 98 (.pointer (some ⟨g, 16, none⟩))).run Tryd.prog w = .ok (.agg (fL z).toArray) w :=
  ⟨ldA_mid (A := []) (X := fL x) (C := fL y ++ fL z) Tryd.underlying98 rfl (by kernel_rfl) (by rw [List.nil_append, ← List.append_assoc]; exact h) rfl, ldA_mid (A := fL x) (X := fL y) (C := fL z) Tryd.underlying98 rfl (by kernel_rfl) h rfl, ldA_mid (A := fL x ++ fL y) (X := fL z) (C := []) Tryd.underlying98 rfl (by kernel_rfl) (by rw [List.append_nil]; exact h) rfl⟩
theorem ldj {T : TypeId} {w : World} {g : Nat} {x y z : Int} (h : Blk T w g (j3 x y z)) : (ldA 110 (.pointer (some ⟨g, 0, none⟩))).run Tryd.prog w = .ok (.agg (j3 x y z).toArray) w :=
  ldA_all Tryd.underlying110 rfl (by kernel_rfl) h
theorem stj {T : TypeId} {w : World} {g : Nat} {Z : List Value} (h : Blk T w g Z) (hZ : Z.length = 24) (x y z : Int) : (stA 110 (.pointer (some ⟨g, 0, none⟩)) (.agg (j3 x y z).toArray)).run Tryd.prog w = .ok () (w.setCells g 0 (j3 x y z)) :=
  stA_all (vs := j3 x y z) (by kernel_rfl) h hZ (j3_one x y z)

theorem bdj3 (x y z : Int) (w : World) : (bdA 110 #[(0, .agg (fL x).toArray), (1, .agg (fL y).toArray), (2, .agg (fL z).toArray)]).run Tryd.prog w = .ok (.agg (j3 x y z).toArray) w := by kernel_rfl
theorem bdf0 (w : World) : (bdA 98 #[]).run Tryd.prog w = .ok (.agg (fL 0).toArray) w := by rw [fL_zero]; kernel_rfl

/-- The field lies at gf. -/
def FF (w : World) (gf : Nat) : Prop := Fd w gf oneW sqW 1
theorem FF.at {w W : World} {gf : Nat} (h : FF w gf) (b : Below w.heap.size w W) : FF W gf := Fd.below h b
theorem FF.ld1 {w : World} {gf : Nat} (h : FF w gf) : (ldA 98 (.pointer (some ⟨gf, 8, none⟩))).run Tryd.prog w = .ok (.agg (fL ONE).toArray) w := by rw [← oneW_fL]; exact Fd.ldOne h
theorem FF.ldS {w : World} {gf : Nat} (h : FF w gf) : (ldA 98 (.pointer (some ⟨gf, 16, none⟩))).run Tryd.prog w = .ok (.agg (fL SQ).toArray) w := by rw [← sqW_fL]; exact Fd.ldSq h

theorem rmulN {gf : Nat} {x y : Int} (hx : Nb x) (hy : Nb y) (w : World) (hF : FF w gf) : Calls Tryd.prog 50 #[.pointer (some ⟨gf, 0, none⟩), .agg (fL x).toArray, .agg (fL y).toArray] w (Ans (.agg (fL (mm x y)).toArray) w) := by
  refine (rmul_any gf _ _ x y (fw_nb hx) (fw_nb hy) hx.2 w (Fd.fm hF) (Fd.low hF)).mono ?_
  rintro e w1 ⟨R, rfl, hR, LB⟩
  rw [fw_fL hR (mm_bd _ _)]
  exact ⟨rfl, LB⟩
theorem raddN {gf : Nat} {x y : Int} (hx : Nb x) (hy : Nb y) (w : World) (hF : FF w gf) : Calls Tryd.prog 52 #[.pointer (some ⟨gf, 0, none⟩), .agg (fL x).toArray, .agg (fL y).toArray] w (Ans (.agg (fL (pa x y)).toArray) w) := by
  refine (radd_any gf _ _ x y (fw_nb hx) (fw_nb hy) hx.2 hy.2 w (Fd.fm hF)).mono ?_
  rintro e w1 ⟨R, rfl, hR, LB⟩
  rw [fw_fL hR (pa_bd _ _)]
  exact ⟨rfl, LB⟩
theorem rsubN {gf : Nat} {x y : Int} (hx : Nb x) (hy : Nb y) (w : World) (hF : FF w gf) : Calls Tryd.prog 51 #[.pointer (some ⟨gf, 0, none⟩), .agg (fL x).toArray, .agg (fL y).toArray] w (Ans (.agg (fL (ps x y)).toArray) w) := by
  refine (rsub_any gf _ _ x y (fw_nb hx) (fw_nb hy) hx.2 hy.2 w (Fd.fm hF)).mono ?_
  rintro e w1 ⟨R, rfl, hR, LB⟩
  rw [fw_fL hR (ps_bd _ _)]
  exact ⟨rfl, LB⟩
theorem rzeroN {x : Int} (hx : Nb x) (w : World) : Calls Tryd.prog 89 #[.agg (fL x).toArray] w (Ans (.bool (decide (x = 0))) w) :=
  rzero_any _ x (fw_nb hx) w

end Go.Proofs.YtnabmdpgibnkaabDoor
