/-
  The program's sum of two triples, and the point for which its answer stands.
  curve's multiple: so many times a point.
-/
import Derived.Test.YtcijjmncilciiaaDoorZCvSm
import Derived.Test.YtcijjmncilciiaaDoorZEcCToEcJ
import Derived.Deep.DeepCutAuto
namespace Go.Proofs.YtcijjmncilciiaaDoor
open Go.RowKit Go.IntWalk

theorem uu_bm : Cg (uu BM) BB := by
  have h : Cg (uu (mm BC SQ)) (uu BC * uu SQ) := uu_mm (Cg.refl _) (Cg.refl _)
  have e1 : Cg (uu SQ) RR := by
    unfold uu
    rw [← sq_def]
    refine ((Cg.md _).mul (Cg.refl RI)).trans ?_
    have := (Cg.refl RR).mul rri_cg
    rw [Int.mul_one, ← Int.mul_assoc] at this
    exact this
  have e2 : Cg (uu BC * RR) BC := by
    unfold uu
    rw [Int.mul_assoc, Int.mul_comm RI RR]
    have := (Cg.refl BC).mul rri_cg
    rw [Int.mul_one] at this
    exact this
  have e3 : BC = BB := rfl
  rw [← e3]
  exact h.trans (((Cg.refl _).mul e1).trans e2)

/-- A triple of the program's stands for a point of the curve. -/
structure RepP (x y z : Int) (p : Option (Int × Int)) : Prop where
  nx : Nb x
  ny : Nb y
  nz : Nb z
  ok : Ok p
  rep : Rep (uu x) (uu y) (uu z) p

theorem sum_rep {x1 y1 z1 x2 y2 z2 : Int} {p q : Option (Int × Int)} (hp : RepP x1 y1 z1 p) (hq : RepP x2 y2 z2 q) (w : World) :
    Calls Tryd.prog 30 #[.agg (t3 x1 y1 z1).toArray, .agg (t3 x2 y2 z2).toArray, .agg doL.toArray] w (fun e w' => ∃ x y z, e = .returned (.agg (t3 x y z).toArray) ∧ RepP x y z (padd p q) ∧ Below w.heap.size w w') := by
  obtain ⟨v24, h24⟩ : ∃ v, mm x1 x2 = v := ⟨_, rfl⟩
  obtain ⟨v31, h31⟩ : ∃ v, mm y1 y2 = v := ⟨_, rfl⟩
  obtain ⟨v38, h38⟩ : ∃ v, mm z1 z2 = v := ⟨_, rfl⟩
  obtain ⟨v48, h48⟩ : ∃ v, pa (mm x1 y2) (mm y1 x2) = v := ⟨_, rfl⟩
  obtain ⟨v58, h58⟩ : ∃ v, pa (mm x1 z2) (mm z1 x2) = v := ⟨_, rfl⟩
  obtain ⟨v68, h68⟩ : ∃ v, pa (mm y1 z2) (mm z1 y2) = v := ⟨_, rfl⟩
  obtain ⟨v76, h76⟩ : ∃ v, mm BM v38 = v := ⟨_, rfl⟩
  obtain ⟨v77, h77⟩ : ∃ v, ps v58 v76 = v := ⟨_, rfl⟩
  obtain ⟨v78, h78⟩ : ∃ v, pa (pa v77 v77) v77 = v := ⟨_, rfl⟩
  obtain ⟨v87, h87⟩ : ∃ v, mm BM v58 = v := ⟨_, rfl⟩
  obtain ⟨v89, h89⟩ : ∃ v, ps v87 v24 = v := ⟨_, rfl⟩
  obtain ⟨v92, h92⟩ : ∃ v, pa (pa v38 v38) v38 = v := ⟨_, rfl⟩
  obtain ⟨v93, h93⟩ : ∃ v, ps v89 v92 = v := ⟨_, rfl⟩
  obtain ⟨v94, h94⟩ : ∃ v, pa (pa v93 v93) v93 = v := ⟨_, rfl⟩
  obtain ⟨v100, h100⟩ : ∃ v, ps v24 v38 = v := ⟨_, rfl⟩
  obtain ⟨v101, h101⟩ : ∃ v, pa (pa v100 v100) v100 = v := ⟨_, rfl⟩
  obtain ⟨v106, h106⟩ : ∃ v, pa v31 v78 = v := ⟨_, rfl⟩
  obtain ⟨v111, h111⟩ : ∃ v, ps v31 v78 = v := ⟨_, rfl⟩
  obtain ⟨v118, h118⟩ : ∃ v, mm v48 v106 = v := ⟨_, rfl⟩
  obtain ⟨v123, h123⟩ : ∃ v, mm v68 v94 = v := ⟨_, rfl⟩
  obtain ⟨v124, h124⟩ : ∃ v, ps v118 v123 = v := ⟨_, rfl⟩
  obtain ⟨v130, h130⟩ : ∃ v, pa (mm v106 v111) (mm v101 v94) = v := ⟨_, rfl⟩
  obtain ⟨v136, h136⟩ : ∃ v, pa (mm v68 v111) (mm v48 v101) = v := ⟨_, rfl⟩
  have H := sum_core x1 y1 z1 x2 y2 z2 v24 v31 v38 v48 v58 v68 v76 v77 v78 v87 v89 v92 v93 v94 v100 v101 v106 v111 v118 v123 v124 v130 v136 hp.nx hp.ny hp.nz hq.nx hq.ny hq.nz h24 h31 h38 h48 h58 h68 h76 h77 h78 h87 h89 h92 h93 h94 h100 h101 h106 h111 h118 h123 h124 h130 h136 w
  refine H.mono ?_
  rintro e w1 ⟨rfl, LB⟩
  refine ⟨_, _, _, rfl, ⟨by rw [← h124]; exact ps_bd _ _, by rw [← h130]; exact pa_bd _ _, by rw [← h136]; exact pa_bd _ _, padd_ok hp.ok hq.ok, ?_⟩, LB⟩
  have R := rep_sum hp.ok hq.ok hp.rep hq.rep
  have c24 := h24 ▸ uu_mm (Cg.refl (uu x1)) (Cg.refl (uu x2))
  have c31 := h31 ▸ uu_mm (Cg.refl (uu y1)) (Cg.refl (uu y2))
  have c38 := h38 ▸ uu_mm (Cg.refl (uu z1)) (Cg.refl (uu z2))
  have c48 := h48 ▸ uu_pa (uu_mm (Cg.refl (uu x1)) (Cg.refl (uu y2))) (uu_mm (Cg.refl (uu y1)) (Cg.refl (uu x2)))
  have c58 := h58 ▸ uu_pa (uu_mm (Cg.refl (uu x1)) (Cg.refl (uu z2))) (uu_mm (Cg.refl (uu z1)) (Cg.refl (uu x2)))
  have c68 := h68 ▸ uu_pa (uu_mm (Cg.refl (uu y1)) (Cg.refl (uu z2))) (uu_mm (Cg.refl (uu z1)) (Cg.refl (uu y2)))
  have c76 := h76 ▸ uu_mm uu_bm c38
  have c77 := h77 ▸ uu_ps c58 c76
  have c78 := h78 ▸ uu_pa (uu_pa c77 c77) c77
  have c87 := h87 ▸ uu_mm uu_bm c58
  have c89 := h89 ▸ uu_ps c87 c24
  have c92 := h92 ▸ uu_pa (uu_pa c38 c38) c38
  have c93 := h93 ▸ uu_ps c89 c92
  have c94 := h94 ▸ uu_pa (uu_pa c93 c93) c93
  have c100 := h100 ▸ uu_ps c24 c38
  have c101 := h101 ▸ uu_pa (uu_pa c100 c100) c100
  have c106 := h106 ▸ uu_pa c31 c78
  have c111 := h111 ▸ uu_ps c31 c78
  have c118 := h118 ▸ uu_mm c48 c106
  have c123 := h123 ▸ uu_mm c68 c94
  have c124 := h124 ▸ uu_ps c118 c123
  have c130 := h130 ▸ uu_pa (uu_mm c106 c111) (uu_mm c101 c94)
  have c136 := h136 ▸ uu_pa (uu_mm c68 c111) (uu_mm c48 c101)
  clear h24 h31 h38 h48 h58 h68 h76 h77 h78 h87 h89 h92 h93 h94 h100 h101 h106 h111 h118 h123 h124 h130 h136 H LB
  clear c24 c31 c38 c48 c58 c68 c76 c77 c78 c87 c89 c92 c93 c94 c100 c101 c106 c111 c118 c123
  refine rep_cg (c124.trans (Cg.of_eq ?_)) (c130.trans (Cg.of_eq ?_)) (c136.trans (Cg.of_eq ?_)) R
  · clear c124 c130 c136 R hp hq
    generalize uu x1 = X1, uu y1 = Y1, uu z1 = Z1, uu x2 = X2, uu y2 = Y2, uu z2 = Z2, BB = b
    unfold sX
    grind
  · clear c124 c130 c136 R hp hq
    generalize uu x1 = X1, uu y1 = Y1, uu z1 = Z1, uu x2 = X2, uu y2 = Y2, uu z2 = Z2, BB = b
    unfold sY
    grind
  · clear c124 c130 c136 R hp hq
    generalize uu x1 = X1, uu y1 = Y1, uu z1 = Z1, uu x2 = X2, uu y2 = Y2, uu z2 = Z2, BB = b
    unfold sZ
    grind

end Go.Proofs.YtcijjmncilciiaaDoor

namespace Go.Proofs.YtcijjmncilciiaaDoor
open Go.RowKit Go.IntWalk
attribute [local go_sem ↓] ld_num st_num ld_pln st_pln ld_ops st_ops ld_tri st_tri bd_tri ld_dig st_dig ix_dig

/-- The bits of a number of 32 bytes, the highest first. -/
def kbit (K : List Int) (m : Nat) : Bool := decide (K.getD (m / 8) 0 / 2 ^ (7 - m % 8) % 2 = 1)

theorem bit_at {y : Int} (h0 : 0 ≤ y) (h1 : y < 256) (c : Nat) (hc : c < 8) : (y * 2 ^ c % 256) / 128 = y / 2 ^ (7 - c) % 2 := by
  rcases c with _ | _ | _ | _ | _ | _ | _ | _ | c
  all_goals first | omega | (simp only [Nat.reduceSub, Nat.reduceAdd, Int.reducePow]; omega)

/-- Where multiple is: the point so far. -/
def MuAt (w : World) (K : List Int) (x1 y1 z1 : Int) (p : Option (Int × Int)) (g7 : Nat) (m : Nat) (W : World) : Prop :=
  ∃ x y z, RepP x y z (pmul (kbit K) p m) ∧ Bx w [(w.heap.size, 23, bV K), (w.heap.size + 1, 72, t3 x1 y1 z1), (w.heap.size + 1 + 1, 67, doL), (w.heap.size + 1 + 1 + 1, 72, [.int .u64 0, .int .u64 0, .int .u64 0, .int .u64 0, .int .u64 0, .int .u64 0, .int .u64 0, .int .u64 0, .int .u64 0, .int .u64 0, .int .u64 0, .int .u64 0]), (g7, 72, t3 x y z)] W

theorem farL_t3 : farL = t3 0 ONE 0 := by
  unfold t3
  rw [← nw_nL nw_zero, ← nw_nL one_w]
  rfl
theorem far_repP : RepP 0 ONE 0 none := ⟨⟨by decide, by decide⟩, ⟨by decide, by decide⟩, ⟨by decide, by decide⟩, True.intro, ⟨(uu_zero ⟨by decide, by decide⟩).2 rfl, fun h => by have := (uu_zero (a := ONE) ⟨by decide, by decide⟩).1 h; exact absurd this (by decide), (uu_zero ⟨by decide, by decide⟩).2 rfl⟩⟩

theorem MuAt.set {w : World} {K : List Int} {x1 y1 z1 x y z x' y' z' : Int} {p : Option (Int × Int)} {g7 m : Nat} {W V : World}
    (h : Bx w [(w.heap.size, 23, bV K), (w.heap.size + 1, 72, t3 x1 y1 z1), (w.heap.size + 1 + 1, 67, doL), (w.heap.size + 1 + 1 + 1, 72, [.int .u64 0, .int .u64 0, .int .u64 0, .int .u64 0, .int .u64 0, .int .u64 0, .int .u64 0, .int .u64 0, .int .u64 0, .int .u64 0, .int .u64 0, .int .u64 0]), (g7, 72, t3 x y z)] W) (b : Below W.heap.size W V) (hR : RepP x' y' z' (pmul (kbit K) p m)) :
    MuAt w K x1 y1 z1 p g7 m (V.setCells g7 0 (t3 x' y' z')) := ⟨x', y', z', hR, (h.below b).setAt 4 (t3 x' y' z') rfl rfl⟩

theorem info_dig' {K : List Int} (h : K.length = 32) : (Tryd.prog.info? 23).map (·.size) = some (bV K).length := by rw [bV_len, h]; kernel_rfl

set_option maxRecDepth 100000 in
set_option maxHeartbeats 4000000 in
theorem multiple_rep (K : List Int) (hK : K.length = 32) (dK : Dg 256 K) {x1 y1 z1 : Int} {p : Option (Int × Int)} (hp : RepP x1 y1 z1 p) (w : World) (hC : Cv w) :
    Calls Tryd.prog 48 #[.agg (bV K).toArray, .agg (t3 x1 y1 z1).toArray, .agg doL.toArray] w (fun e w' => ∃ x y z, e = .returned (.agg (t3 x y z).toArray) ∧ RepP x y z (pmul (kbit K) p 256) ∧ Below w.heap.size w w') := by
  have HK := hide hK
  have HDK := hide dK
  have HP := hide hp
  have o1 : ∀ v ∈ bV K, v.oneCell' = true := ints_one _ _
  have o2 := t3_one x1 y1 z1
  have o3 := doL_one
  have hS : Bx w [(w.heap.size, 23, bV K), (w.heap.size + 1, 72, t3 x1 y1 z1), (w.heap.size + 1 + 1, 67, doL), (w.heap.size + 1 + 1 + 1, 72, [.int .u64 0, .int .u64 0, .int .u64 0, .int .u64 0, .int .u64 0, .int .u64 0, .int .u64 0, .int .u64 0, .int .u64 0, .int .u64 0, .int .u64 0, .int .u64 0])] ((((w.alloc (.cells (bV K).toArray 23)).alloc (.cells (t3 x1 y1 z1).toArray 72)).alloc (.cells doL.toArray 67)).alloc (.cells #[.int .u64 0, .int .u64 0, .int .u64 0, .int .u64 0, .int .u64 0, .int .u64 0, .int .u64 0, .int .u64 0, .int .u64 0, .int .u64 0, .int .u64 0, .int .u64 0] 72)) :=
    ((((Bx.nil w).newAt 0 (w.heap.size) (by simp) 23 (bV K) _ rfl).newAt 1 (w.heap.size + 1) (by simp) 72 (t3 x1 y1 z1) _ rfl).newAt 2 (w.heap.size + 1 + 1) (by simp) 67 doL _ rfl).newAt 3 (w.heap.size + 1 + 1 + 1) (by simp) 72 _ _ rfl
  have HF : Hid (∀ W, Below w.heap.size w W → Calls Tryd.prog 28 #[] W (Ans (.agg (t3 0 ONE 0).toArray) W)) := fun W hW => by rw [← farL_t3]; exact far_any W (hC.below hW)
  have HSUM : Hid (∀ {x1 y1 z1 x2 y2 z2 : Int} {p q : Option (Int × Int)}, RepP x1 y1 z1 p → RepP x2 y2 z2 q → ∀ W, Calls Tryd.prog 30 #[.agg (t3 x1 y1 z1).toArray, .agg (t3 x2 y2 z2).toArray, .agg doL.toArray] W (fun e w' => ∃ x y z, e = .returned (.agg (t3 x y z).toArray) ∧ RepP x y z (padd p q) ∧ Below W.heap.size W w')) := fun h1 h2 W => sum_rep h1 h2 W
  have HIX : Hid (∀ (k : Nat), k < 32 → ∀ W, (ixA 23 (.agg (bV K).toArray) (.int .i64 (k : Int))).run Tryd.prog W = .ok (.int .u8 (K.getD k 0)) W) := fun k hk W => ixD K hK k hk W
  clear hK dK hp hC
  go_enter Tryd.func48, Tryd.ntmps48
  go_wp2_with fail
  refine (HF.out _ hS.bl).mono ?_
  rintro e U1 ⟨rfl, LB⟩
  have hS := hS.below LB
  clear LB o1 o2 o3
  have hst := sttn U1 0 ONE 0
  have hS' : MuAt w K x1 y1 z1 p U1.heap.size 0 (U1.alloc (.cells (t3 0 ONE 0).toArray 72)) := ⟨0, ONE, 0, far_repP, hS.newAt 4 U1.heap.size rfl 72 (t3 0 ONE 0) _ rfl⟩
  have hG : Hid (w.heap.size + 1 + 1 + 1 < U1.heap.size) := (hS.get 3 rfl).lt
  clear hS
  go_upto_region 2 with fail
  generalize U1.alloc (.cells (t3 0 ONE 0).toArray 72) = U2 at hS' ⊢
  generalize U1.heap.size = g7 at hS' hG ⊢
  have hld : (ldA 23 (.pointer (some ⟨w.heap.size, 0, none⟩))).run Tryd.prog U2 = .ok (.agg (bV K).toArray) U2 := by
    obtain ⟨x, y, z, _, hB⟩ := hS'
    exact ldA_all Tryd.underlying23 rfl (info_dig' HK.out) (hB.get 0 rfl)
  have HS0 := hide hS'
  clear hst hS'
  go_wp2
  clear hld
  go_loopw [9, 12] (fun _ iv wr => ∃ (a : Nat), iv = .int .i64 (a : Int) ∧ a ≤ 32 ∧ Hid (MuAt w K x1 y1 z1 p g7 (8 * a) wr)) (fun _ iv _ => 32 - (intOf iv).toNat)
  case atStart => exact ⟨0, rfl, by omega, HS0⟩
  case round =>
    clear HS0
    obtain ⟨a, rfl, ha, HS⟩ := hrel
    by_cases h32 : a < 32
    · have hix := HIX.out a h32
      have hyb := HDK.out.at (by decide : (0 : Int) < 256) a
      have hkb : ∀ c, c < 8 → kbit K (8 * a + c) = decide (K.getD a 0 / 2 ^ (7 - c) % 2 = 1) := by
        intro c hc
        unfold kbit
        rw [show (8 * a + c) / 8 = a by omega, show (8 * a + c) % 8 = c by omega]
      obtain ⟨y0, hy0⟩ : ∃ y, K.getD a 0 = y := ⟨_, rfl⟩
      rw [hy0] at hix hyb hkb
      have HKB := hide hkb
      have HYB := hide hyb
      have ab : (a : Int) ≤ 31 := by omega
      have had : decide ((a : Int) < 32) = true := by simp; omega
      clear hy0 hkb hyb
      go_wp2
      go_loopw [9, 15] (fun ev iv wr => ∃ (c : Nat) (y : Int), iv = .int .i64 (c : Int) ∧ c ≤ 8 ∧ ev = .int .u8 y ∧ Hid (y = y0 * 2 ^ c % 256) ∧ Hid (MuAt w K x1 y1 z1 p g7 (8 * a + c) wr)) (fun _ iv _ => 8 - (intOf iv).toNat)
      case atStart => exact ⟨0, y0, rfl, by omega, rfl, by unfold Hid; rw [Int.pow_zero, Int.mul_one]; exact (Int.emod_eq_of_lt HYB.out.1 HYB.out.2).symm, HS⟩
      case round =>
        clear HS hix
        obtain ⟨c, y, rfl, hc, rfl, HY, HS⟩ := hrel
        by_cases hc8 : c < 8
        · obtain ⟨x', y', z', hR, hS⟩ := HS.out
          have hb := bit_at HYB.out.1 HYB.out.2 c hc8
          rw [← HY.out] at hb
          have hkb := HKB.out c hc8
          rw [← hb] at hkb
          have hyr : 0 ≤ y ∧ y < 256 := by rw [HY.out]; exact ⟨Int.emod_nonneg _ (by decide), Int.emod_lt_of_pos _ (by decide)⟩
          obtain ⟨b, hbe⟩ : ∃ b : Int, y / 128 = b := ⟨_, rfl⟩
          have hb01 : b = 0 ∨ b = 1 := by omega
          rw [hbe] at hkb
          obtain ⟨y2, hy2⟩ : ∃ y2, IntKind.u8.wrap (y * 2) = y2 := ⟨_, rfl⟩
          have HY2 : Hid (y2 = y0 * 2 ^ (c + 1) % 256) := by
            unfold Hid
            rw [← hy2, IntKind.wrap_u8, HY.out, Int.pow_succ, ← Int.mul_assoc]
            omega
          have cb : (c : Int) ≤ 7 := by omega
          have hl7 := ldt (hS.get 4 rfl)
          have hl1 := ldt (hS.get 1 rfl)
          have hld := ldD (hS.get 2 rfl)
          have HR := hide hR
          have HKB' := hide hkb
          have HS1 := hide hS
          clear hR hkb HY HS hb hyr hS
          go_wp2_with fail
          refine (HSUM.out HR.out HR.out _).mono ?_
          rintro e U3 ⟨x3, y3, z3, rfl, hR3, LB⟩
          have hS := HS1.out.below LB
          have hst := stt (hS.get 4 rfl) rfl x3 y3 z3
          have hS' : Bx w [(w.heap.size, 23, bV K), (w.heap.size + 1, 72, t3 x1 y1 z1), (w.heap.size + 1 + 1, 67, doL), (w.heap.size + 1 + 1 + 1, 72, [.int .u64 0, .int .u64 0, .int .u64 0, .int .u64 0, .int .u64 0, .int .u64 0, .int .u64 0, .int .u64 0, .int .u64 0, .int .u64 0, .int .u64 0, .int .u64 0]), (g7, 72, t3 x3 y3 z3)] (U3.setCells g7 0 (t3 x3 y3 z3)) := hS.setAt 4 (t3 x3 y3 z3) rfl rfl
          have HR3 := hide hR3
          clear LB hS hl7 hl1 hld HS1 hR3
          go_upto_region 8 with fail
          generalize U3.setCells g7 0 (t3 x3 y3 z3) = U4 at hS' ⊢
          clear hst
          have hl7 := ldt (hS'.get 4 rfl)
          have hl1 := ldt (hS'.get 1 rfl)
          have hld := ldD (hS'.get 2 rfl)
          have HS' := hide hS'
          clear hS'
          rcases hb01 with rfl | rfl
          · have HM : Hid (MuAt w K x1 y1 z1 p g7 (8 * a + (c + 1)) U4) := by
              refine ⟨x3, y3, z3, ?_, HS'.out⟩
              rw [show 8 * a + (c + 1) = (8 * a + c) + 1 by omega, pmul, HKB'.out, if_neg (by decide)]
              exact HR3.out
            go_wp2
            go_roundw
            case rel => exact ⟨c + 1, y2, by go_num, by omega, rfl, HY2, HM⟩
            case measure => simp [intOf]; omega
          · go_wp2_with fail
            refine (HSUM.out HR3.out HP.out _).mono ?_
            rintro e U5 ⟨x5, y5, z5, rfl, hR5, LB⟩
            have hS := HS'.out.below LB
            have hst := stt (hS.get 4 rfl) rfl x5 y5 z5
            have HM : Hid (MuAt w K x1 y1 z1 p g7 (8 * a + (c + 1)) (U5.setCells g7 0 (t3 x5 y5 z5))) := by
              refine ⟨x5, y5, z5, ?_, hS.setAt 4 (t3 x5 y5 z5) rfl rfl⟩
              rw [show 8 * a + (c + 1) = (8 * a + c) + 1 by omega, pmul, HKB'.out, if_pos (by decide)]
              exact hR5
            clear LB hS hl7 hl1 hld hR5
            go_wp2
            go_roundw
            case rel => exact ⟨c + 1, y2, by go_num, by omega, rfl, HY2, HM⟩
            case measure => simp [intOf]; omega
        · obtain rfl : c = 8 := by omega
          have HS' : Hid (MuAt w K x1 y1 z1 p g7 (8 * (a + 1)) wr) := HS
          go_wp2
          go_roundw
          case rel => exact ⟨a + 1, by go_num, by omega, HS'⟩
          case measure => simp [intOf]; omega
    · obtain rfl : a = 32 := by omega
      obtain ⟨x', y', z', hR, hS⟩ := HS.out
      have hl7 := ldt (hS.get 4 rfl)
      have hst := stt (hS.get 3 rfl) rfl x' y' z'
      have hS' : Bx w [(w.heap.size, 23, bV K), (w.heap.size + 1, 72, t3 x1 y1 z1), (w.heap.size + 1 + 1, 67, doL), (w.heap.size + 1 + 1 + 1, 72, t3 x' y' z'), (g7, 72, t3 x' y' z')] (wr.setCells (w.heap.size + 1 + 1 + 1) 0 (t3 x' y' z')) := hS.setAt 3 (t3 x' y' z') rfl rfl
      have HR := hide hR
      clear hS HS hR
      go_wp2
      generalize wr.setCells (w.heap.size + 1 + 1 + 1) 0 (t3 x' y' z') = U9 at hS' ⊢
      refine bodyPost_ret (v := .agg (t3 x' y' z').toArray) ?_ rfl ⟨x', y', z', rfl, HR.out, hS'.bl⟩
      exact res_one (T := 72) (p := 6) (ty := 72) (X := t3 x' y' z') (by kernel_rfl) _ _ rfl Tryd.underlying72 rfl (by kernel_rfl) (hS'.get 3 rfl)

end Go.Proofs.YtcijjmncilciiaaDoor
