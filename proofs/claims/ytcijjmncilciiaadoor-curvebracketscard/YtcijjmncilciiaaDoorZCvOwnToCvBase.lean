/-
  The law's own and same; curve.Base and the document's.
  curve.Base and the document's; the law's names.
-/
import Derived.Test.YtcijjmncilciiaaDoorZCrOn
namespace Go.Proofs.YtcijjmncilciiaaDoor
open Go.RowKit Go.IntWalk
attribute [local go_sem ↓] ld_num st_num ld_pln st_pln ld_ops st_ops ld_pnt st_pnt ld_dig st_dig ld_tri st_tri eq_num ne_num eq_pnt ne_pnt bd_pnt ld_F st_F eq_F ld_a32 st_a32 ld_rpt st_rpt eq_rpt bd_rpt

/-- A document's point, built. -/
theorem bd_own' (x0 x1 x2 x3 x4 x5 x6 x7 x8 x9 x10 x11 x12 x13 x14 x15 x16 x17 x18 x19 x20 x21 x22 x23 x24 x25 x26 x27 x28 x29 x30 x31 y0 y1 y2 y3 y4 y5 y6 y7 y8 y9 y10 y11 y12 y13 y14 y15 y16 y17 y18 y19 y20 y21 y22 y23 y24 y25 y26 y27 y28 y29 y30 y31 : Int) (f : Bool) (w : World) : (bdA 25 #[(0, .agg (bV [x0, x1, x2, x3, x4, x5, x6, x7, x8, x9, x10, x11, x12, x13, x14, x15, x16, x17, x18, x19, x20, x21, x22, x23, x24, x25, x26, x27, x28, x29, x30, x31]).toArray), (1, .agg (bV [y0, y1, y2, y3, y4, y5, y6, y7, y8, y9, y10, y11, y12, y13, y14, y15, y16, y17, y18, y19, y20, y21, y22, y23, y24, y25, y26, y27, y28, y29, y30, y31]).toArray), (2, .bool f)]).run Tryd.prog w = .ok (.agg (pL [x0, x1, x2, x3, x4, x5, x6, x7, x8, x9, x10, x11, x12, x13, x14, x15, x16, x17, x18, x19, x20, x21, x22, x23, x24, x25, x26, x27, x28, x29, x30, x31] [y0, y1, y2, y3, y4, y5, y6, y7, y8, y9, y10, y11, y12, y13, y14, y15, y16, y17, y18, y19, y20, y21, y22, y23, y24, y25, y26, y27, y28, y29, y30, y31] f).toArray) w := by kernel_rfl

theorem bd_own (X Y : List Int) (f : Bool) (hX : X.length = 32) (hY : Y.length = 32) (w : World) : (bdA 25 #[(0, .agg (bV X).toArray), (1, .agg (bV Y).toArray), (2, .bool f)]).run Tryd.prog w = .ok (.agg (pL X Y f).toArray) w := by
  match X, hX with
  | [x0, x1, x2, x3, x4, x5, x6, x7, x8, x9, x10, x11, x12, x13, x14, x15, x16, x17, x18, x19, x20, x21, x22, x23, x24, x25, x26, x27, x28, x29, x30, x31], _ =>
    match Y, hY with
    | [y0, y1, y2, y3, y4, y5, y6, y7, y8, y9, y10, y11, y12, y13, y14, y15, y16, y17, y18, y19, y20, y21, y22, y23, y24, y25, y26, y27, y28, y29, y30, y31], _ => exact bd_own' x0 x1 x2 x3 x4 x5 x6 x7 x8 x9 x10 x11 x12 x13 x14 x15 x16 x17 x18 x19 x20 x21 x22 x23 x24 x25 x26 x27 x28 x29 x30 x31 y0 y1 y2 y3 y4 y5 y6 y7 y8 y9 y10 y11 y12 y13 y14 y15 y16 y17 y18 y19 y20 y21 y22 y23 y24 y25 y26 y27 y28 y29 y30 y31 f w

theorem stPt {T : TypeId} {w : World} {g : Nat} {Z : List Value} {X Y : List Int} {f : Bool} (hX : X.length = 32) (hY : Y.length = 32) (h : Blk T w g Z) (hZ : Z.length = 65) : (stA 25 (.pointer (some ⟨g, 0, none⟩)) (.agg (pL X Y f).toArray)).run Tryd.prog w = .ok () (w.setCells g 0 (pL X Y f)) :=
  stA_all (by rw [pL_len hX hY]; exact info_pnt) h (by rw [pL_len hX hY, hZ]) (pL_one _ _ _)
theorem stRp {T : TypeId} {w : World} {g : Nat} {Z : List Value} {X Y : List Int} {f : Bool} (hX : X.length = 32) (hY : Y.length = 32) (h : Blk T w g Z) (hZ : Z.length = 65) : (stA 33 (.pointer (some ⟨g, 0, none⟩)) (.agg (pL X Y f).toArray)).run Tryd.prog w = .ok () (w.setCells g 0 (pL X Y f)) :=
  stA_all (by rw [pL_len hX hY]; exact info_rpt) h (by rw [pL_len hX hY, hZ]) (pL_one _ _ _)

def PZ : List Value := pL z32 z32 false
theorem zc_pnt : Tryd.zeroCells25 = PZ.toArray := by kernel_rfl

set_option maxRecDepth 100000 in
set_option maxHeartbeats 1000000 in
theorem own_any (X Y : List Int) (f : Bool) (hX : X.length = 32) (hY : Y.length = 32) (w : World) :
    Calls Tryd.prog 47 #[.agg (pL X Y f).toArray] w fun e w' => e = .returned (.agg (pL X Y f).toArray) ∧ Below w.heap.size w w' := by
  have K0 := hide ((Blk.new (T := 33) w (pL X Y f) _ _ rfl rfl).alloc (.cells Tryd.zeroCells25 25))
  have Z0 := hide (Blk.new (T := 25) (w.alloc (.cells (pL X Y f).toArray 33)) PZ Tryd.zeroCells25 (w.heap.size + 1) zc_pnt (by simp))
  have U0 := hide (below2 w (.cells (pL X Y f).toArray 33) (.cells Tryd.zeroCells25 25))
  obtain ⟨_, l1, l2⟩ := rpt_ld hX hY K0.out
  have c0 : (pL X Y f)[64]? = some (.bool f) := by simp [pL, hX, hY]
  have hbd := bd_own X Y f hX hY
  have hst := stPt (f := f) hX hY Z0.out rfl
  have hlen := pL_len hX hY f
  have HB := hide (blk_all (vs := pL X Y f) Z0.out (by rw [hlen]; rfl))
  have hone := pL_one X Y f
  have HLn := hide hlen
  generalize pL X Y f = L at *
  clear hX hY hlen
  go_enter Tryd.func47, Tryd.ntmps47
  go_wp2
  refine bodyPost_ret (v := .agg L.toArray) ?_ rfl ⟨rfl, below_sets U0.out (by omega) U0.out.size _ _⟩
  exact res_one (T := 25) (p := 2) (ty := 25) (g := w.heap.size + 1) (X := L) (by kernel_rfl) _ _ rfl Tryd.underlying25 rfl (by rw [HLn.out]; exact info_pnt) HB.out

set_option maxRecDepth 100000 in
set_option maxHeartbeats 1000000 in
theorem same_any (X Y X' Y' : List Int) (f f' : Bool) (hX : X.length = 32) (hY : Y.length = 32) (hX' : X'.length = 32) (hY' : Y'.length = 32) (w : World) :
    Calls Tryd.prog 14 #[.agg (pL X Y f).toArray, .agg (pL X' Y' f').toArray] w fun e w' => e = .returned (.bool (decide (X = X' ∧ Y = Y' ∧ f = f'))) ∧ Below w.heap.size w w' := by
  have HO : Hid (∀ W, Calls Tryd.prog 47 #[.agg (pL X' Y' f').toArray] W fun e w' => e = .returned (.agg (pL X' Y' f').toArray) ∧ Below W.heap.size W w') := fun W => own_any X' Y' f' hX' hY' W
  have K0 := hide ((Blk.new (T := 25) w (pL X Y f) _ _ rfl rfl).alloc (.cells (pL X' Y' f').toArray 33))
  have K1 := hide (Blk.new (T := 33) (w.alloc (.cells (pL X Y f).toArray 25)) (pL X' Y' f') _ (w.heap.size + 1) rfl (by simp))
  have HL0 : Hid (∀ W, Blk 25 W w.heap.size (pL X Y f) → (ldA 25 (.pointer (some ⟨w.heap.size, 0, none⟩))).run Tryd.prog W = .ok (.agg (pL X Y f).toArray) W) := fun W h => (pnt_ld hX hY h).1
  have HL1 : Hid (∀ W, Blk 33 W (w.heap.size + 1) (pL X' Y' f') → (ldA 33 (.pointer (some ⟨w.heap.size + 1, 0, none⟩))).run Tryd.prog W = .ok (.agg (pL X' Y' f').toArray) W) := fun W h => (rpt_ld hX' hY' h).1
  have heq := eqP X Y X' Y' f f' hX hY hX' hY'
  have hone := pL_one X Y f
  have hone' := pL_one X' Y' f'
  generalize decide (X = X' ∧ Y = Y' ∧ f = f') = v at *
  generalize pL X Y f = L at *
  generalize pL X' Y' f' = L' at *
  clear hX hY hX' hY'
  go_enter Tryd.func14, Tryd.ntmps14
  go_wp2
  go_region_held3 (fun W => (ldA 25 (.pointer (some ⟨w.heap.size, 0, none⟩))).run Tryd.prog W = .ok (.agg L.toArray) W ∧ (ldA 33 (.pointer (some ⟨w.heap.size + 1, 0, none⟩))).run Tryd.prog W = .ok (.agg L'.toArray) W) (first | exact ⟨HL0.out _ K2.out, HL1.out _ K3.out⟩ | exact ⟨HL0.out _ (K0.out.heap (by rfl)), HL1.out _ (K1.out.heap (by rfl))⟩) ((go_at_call 47; refine (HO.out _).mono ?_; rintro e w1 ⟨rfl, LB⟩; have K2 := hide (K0.out.later LB rfl); have K3 := hide (K1.out.later LB rfl); have U1 := hide (belowd2 LB); clear LB))
  go_wp2
  go_ret
  exact ⟨rfl, U1.out⟩

end Go.Proofs.YtcijjmncilciiaaDoor

namespace Go.Proofs.YtcijjmncilciiaaDoor
open Go.RowKit Go.IntWalk
attribute [local go_sem ↓] ld_num st_num ld_pln st_pln ld_ops st_ops ld_pnt st_pnt ld_dig st_dig ld_tri st_tri eq_num ne_num eq_pnt ne_pnt bd_pnt ld_F st_F eq_F ld_a32 st_a32 ld_rpt st_rpt eq_rpt bd_rpt eq_dgs

def GX : Int := 48439561293906451759052585252797914202762949526041747995844080717082404635286
def GY : Int := 36134250956749795798585127919587881956611106672985015071877198253568414405109
theorem gx_v : V4 17627433388654248598 8575836109218198432 17923454489921339634 7716867327612699207 = GX := by decide
theorem gy_v : V4 14678990851816772085 3156516839386865358 10297457778147434006 5756518291402817435 = GY := by decide

theorem Cn.heap {w w' : World} (h : Cn w) (e : w'.heap = w.heap) : Cn w' := ⟨fun j v hv => (World.cell?_of_block (by rw [e])).trans (h.od j v hv), fun j v hv => (World.cell?_of_block (by rw [e])).trans (h.bx j v hv), fun j v hv => (World.cell?_of_block (by rw [e])).trans (h.by_ j v hv)⟩
theorem Cn.later {w W w' : World} (h : Cn w) (hb : Below W.heap.size W w') (e : W.heap = w.heap) : Cn w' := (h.heap e).below hb
theorem Cn.sets {w W : World} (h : Cn W) (n : Cn w) {k o : Nat} {vs : List Value} (hk : w.heap.size ≤ k) : Cn (W.setCells k o vs) :=
  ⟨range_sets h.od ⟨range_lt h.od, by have := range_lt n.od; omega⟩, range_sets h.bx ⟨range_lt h.bx, by have := range_lt n.bx; omega⟩, range_sets h.by_ ⟨range_lt h.by_, by have := range_lt n.by_; omega⟩⟩

theorem bas_S {W : World} (h : Cn W) : (ldA 99 (.pointer (some ⟨0, 0, none⟩))).run Tryd.prog W = .ok (.agg #[.int .u64 17627433388654248598, .int .u64 8575836109218198432, .int .u64 17923454489921339634, .int .u64 7716867327612699207]) W ∧ (ldA 99 (.pointer (some ⟨1, 0, none⟩))).run Tryd.prog W = .ok (.agg #[.int .u64 14678990851816772085, .int .u64 3156516839386865358, .int .u64 10297457778147434006, .int .u64 5756518291402817435]) W :=
  ⟨ldA_range Tryd.underlying99 rfl (by kernel_rfl) h.bx, ldA_range Tryd.underlying99 rfl (by kernel_rfl) h.by_⟩

theorem bd_own2' (x0 x1 x2 x3 x4 x5 x6 x7 x8 x9 x10 x11 x12 x13 x14 x15 x16 x17 x18 x19 x20 x21 x22 x23 x24 x25 x26 x27 x28 x29 x30 x31 y0 y1 y2 y3 y4 y5 y6 y7 y8 y9 y10 y11 y12 y13 y14 y15 y16 y17 y18 y19 y20 y21 y22 y23 y24 y25 y26 y27 y28 y29 y30 y31 : Int) (w : World) : (bdA 25 #[(0, .agg (bV [x0, x1, x2, x3, x4, x5, x6, x7, x8, x9, x10, x11, x12, x13, x14, x15, x16, x17, x18, x19, x20, x21, x22, x23, x24, x25, x26, x27, x28, x29, x30, x31]).toArray), (1, .agg (bV [y0, y1, y2, y3, y4, y5, y6, y7, y8, y9, y10, y11, y12, y13, y14, y15, y16, y17, y18, y19, y20, y21, y22, y23, y24, y25, y26, y27, y28, y29, y30, y31]).toArray)]).run Tryd.prog w = .ok (.agg (pL [x0, x1, x2, x3, x4, x5, x6, x7, x8, x9, x10, x11, x12, x13, x14, x15, x16, x17, x18, x19, x20, x21, x22, x23, x24, x25, x26, x27, x28, x29, x30, x31] [y0, y1, y2, y3, y4, y5, y6, y7, y8, y9, y10, y11, y12, y13, y14, y15, y16, y17, y18, y19, y20, y21, y22, y23, y24, y25, y26, y27, y28, y29, y30, y31] false).toArray) w := by kernel_rfl

theorem bd_own2 (X Y : List Int) (hX : X.length = 32) (hY : Y.length = 32) (w : World) : (bdA 25 #[(0, .agg (bV X).toArray), (1, .agg (bV Y).toArray)]).run Tryd.prog w = .ok (.agg (pL X Y false).toArray) w := by
  match X, hX with
  | [x0, x1, x2, x3, x4, x5, x6, x7, x8, x9, x10, x11, x12, x13, x14, x15, x16, x17, x18, x19, x20, x21, x22, x23, x24, x25, x26, x27, x28, x29, x30, x31], _ =>
    match Y, hY with
    | [y0, y1, y2, y3, y4, y5, y6, y7, y8, y9, y10, y11, y12, y13, y14, y15, y16, y17, y18, y19, y20, y21, y22, y23, y24, y25, y26, y27, y28, y29, y30, y31], _ => exact bd_own2' x0 x1 x2 x3 x4 x5 x6 x7 x8 x9 x10 x11 x12 x13 x14 x15 x16 x17 x18 x19 x20 x21 x22 x23 x24 x25 x26 x27 x28 x29 x30 x31 y0 y1 y2 y3 y4 y5 y6 y7 y8 y9 y10 y11 y12 y13 y14 y15 y16 y17 y18 y19 y20 y21 y22 y23 y24 y25 y26 y27 y28 y29 y30 y31 w

set_option maxRecDepth 100000 in
set_option maxHeartbeats 1000000 in
theorem base_any (w : World) (hC : Cn w) :
    Calls Tryd.prog 17 #[] w fun e w' => e = .returned (.agg (pL (be GX) (be GY) false).toArray) ∧ Below w.heap.size w w' := by
  have HTX : Hid (∀ W, Calls Tryd.prog 50 #[.agg #[.int .u64 17627433388654248598, .int .u64 8575836109218198432, .int .u64 17923454489921339634, .int .u64 7716867327612699207]] W fun e w' => e = .returned (.agg (bV (be GX)).toArray) ∧ Below W.heap.size W w') := fun W => toDigest_any _ _ _ _ GX ⟨by decide, by decide⟩ ⟨by decide, by decide⟩ ⟨by decide, by decide⟩ ⟨by decide, by decide⟩ gx_v W
  have HTY : Hid (∀ W, Calls Tryd.prog 50 #[.agg #[.int .u64 14678990851816772085, .int .u64 3156516839386865358, .int .u64 10297457778147434006, .int .u64 5756518291402817435]] W fun e w' => e = .returned (.agg (bV (be GY)).toArray) ∧ Below W.heap.size W w') := fun W => toDigest_any _ _ _ _ GY ⟨by decide, by decide⟩ ⟨by decide, by decide⟩ ⟨by decide, by decide⟩ ⟨by decide, by decide⟩ gy_v W
  have hlx := be_len GX
  have hly := be_len GY
  generalize be GX = X at *
  generalize be GY = Y at *
  have hbd := bd_own2 X Y hlx hly
  have HLX := hide hlx
  have HLY := hide hly
  have HC := hide hC
  have C0 := hide (hC.alloc (.cells Tryd.zeroCells25 25))
  have Z0 := hide (Blk.new (T := 25) w PZ Tryd.zeroCells25 w.heap.size zc_pnt rfl)
  clear hlx hly hC
  go_enter Tryd.func17, Tryd.ntmps17
  go_wp2
  go_region_held3 (fun W => (ldA 99 (.pointer (some ⟨0, 0, none⟩))).run Tryd.prog W = .ok (.agg #[.int .u64 17627433388654248598, .int .u64 8575836109218198432, .int .u64 17923454489921339634, .int .u64 7716867327612699207]) W ∧ (ldA 99 (.pointer (some ⟨1, 0, none⟩))).run Tryd.prog W = .ok (.agg #[.int .u64 14678990851816772085, .int .u64 3156516839386865358, .int .u64 10297457778147434006, .int .u64 5756518291402817435]) W) (first | exact bas_S (C2.out.sets HC.out (Nat.le_refl _)) | exact bas_S C2.out | exact bas_S C1.out | exact bas_S (C0.out.heap (by rfl))) (first | (go_at_call_of 50 (Value.int .u64 17627433388654248598); refine (HTX.out _).mono ?_; rintro e w1 ⟨rfl, LB⟩; have C1 := hide (C0.out.later LB rfl); have Z1 := hide (Z0.out.later LB rfl); have U1 := hide (belowd1 LB); clear LB) | (go_at_call_of 50 (Value.int .u64 14678990851816772085); refine (HTY.out _).mono ?_; rintro e w2 ⟨rfl, LB⟩; have C2 := hide (C1.out.below LB); have Z2 := hide (Z1.out.below LB); have U2 := hide (below_then U1.out LB); clear LB; have hst := stPt (f := false) HLX.out HLY.out Z2.out rfl))
  go_wp2
  refine bodyPost_ret (v := .agg (pL X Y false).toArray) ?_ rfl ⟨rfl, below_sets U2.out (Nat.le_refl _) U2.out.size _ _⟩
  exact res_one (T := 25) (p := 0) (ty := 25) (g := w.heap.size) (X := pL X Y false) (by kernel_rfl) _ _ rfl Tryd.underlying25 rfl (by rw [pL_len HLX.out HLY.out]; exact info_pnt) (blk_all Z2.out (by rw [pL_len HLX.out HLY.out]; rfl))

def gxW : List Int := [3633889942, 4104206661, 770388896, 1996717441, 1671708914, 4173129445, 3777774151, 1796723186]
def gyW : List Int := [935285237, 3417718888, 1798397646, 734933847, 2081398294, 2397563722, 4263149467, 1340293858]
theorem fw_gxW : Fw gxW GX := ⟨rfl, by intro x hx; simp [gxW] at hx; omega, by decide⟩
theorem fw_gyW : Fw gyW GY := ⟨rfl, by intro x hx; simp [gyW] at hx; omega, by decide⟩

theorem bd_rp2' (x0 x1 x2 x3 x4 x5 x6 x7 x8 x9 x10 x11 x12 x13 x14 x15 x16 x17 x18 x19 x20 x21 x22 x23 x24 x25 x26 x27 x28 x29 x30 x31 y0 y1 y2 y3 y4 y5 y6 y7 y8 y9 y10 y11 y12 y13 y14 y15 y16 y17 y18 y19 y20 y21 y22 y23 y24 y25 y26 y27 y28 y29 y30 y31 : Int) (w : World) : (bdA 33 #[(0, .agg (bV [x0, x1, x2, x3, x4, x5, x6, x7, x8, x9, x10, x11, x12, x13, x14, x15, x16, x17, x18, x19, x20, x21, x22, x23, x24, x25, x26, x27, x28, x29, x30, x31]).toArray), (1, .agg (bV [y0, y1, y2, y3, y4, y5, y6, y7, y8, y9, y10, y11, y12, y13, y14, y15, y16, y17, y18, y19, y20, y21, y22, y23, y24, y25, y26, y27, y28, y29, y30, y31]).toArray)]).run Tryd.prog w = .ok (.agg (pL [x0, x1, x2, x3, x4, x5, x6, x7, x8, x9, x10, x11, x12, x13, x14, x15, x16, x17, x18, x19, x20, x21, x22, x23, x24, x25, x26, x27, x28, x29, x30, x31] [y0, y1, y2, y3, y4, y5, y6, y7, y8, y9, y10, y11, y12, y13, y14, y15, y16, y17, y18, y19, y20, y21, y22, y23, y24, y25, y26, y27, y28, y29, y30, y31] false).toArray) w := by kernel_rfl

theorem bd_rp2 (X Y : List Int) (hX : X.length = 32) (hY : Y.length = 32) (w : World) : (bdA 33 #[(0, .agg (bV X).toArray), (1, .agg (bV Y).toArray)]).run Tryd.prog w = .ok (.agg (pL X Y false).toArray) w := by
  match X, hX with
  | [x0, x1, x2, x3, x4, x5, x6, x7, x8, x9, x10, x11, x12, x13, x14, x15, x16, x17, x18, x19, x20, x21, x22, x23, x24, x25, x26, x27, x28, x29, x30, x31], _ =>
    match Y, hY with
    | [y0, y1, y2, y3, y4, y5, y6, y7, y8, y9, y10, y11, y12, y13, y14, y15, y16, y17, y18, y19, y20, y21, y22, y23, y24, y25, y26, y27, y28, y29, y30, y31], _ => exact bd_rp2' x0 x1 x2 x3 x4 x5 x6 x7 x8 x9 x10 x11 x12 x13 x14 x15 x16 x17 x18 x19 x20 x21 x22 x23 x24 x25 x26 x27 x28 x29 x30 x31 y0 y1 y2 y3 y4 y5 y6 y7 y8 y9 y10 y11 y12 y13 y14 y15 y16 y17 y18 y19 y20 y21 y22 y23 y24 y25 y26 y27 y28 y29 y30 y31 w

theorem st8k (w : World) (k : Nat) (hk : k = w.heap.size) (A : List Int) (hA : A.length = 8) : (stA 80 (.pointer (some ⟨k, 0, none⟩)) (.agg (fV A).toArray)).run Tryd.prog (w.alloc (.cells #[.int .u64 0, .int .u64 0, .int .u64 0, .int .u64 0, .int .u64 0, .int .u64 0, .int .u64 0, .int .u64 0] 80)) = .ok () (w.alloc (.cells (fV A).toArray 80)) := by
  subst hk
  exact st8n w A hA

theorem zc_rpt : Tryd.zeroCells33 = PZ.toArray := by kernel_rfl
theorem rbs_S {W : World} {g h : Nat} (a : Blk 80 W g (fV gxW)) (b : Blk 80 W h (fV gyW)) : (ldA 80 (.pointer (some ⟨g, 0, none⟩))).run Tryd.prog W = .ok (.agg (fV gxW).toArray) W ∧ (ldA 80 (.pointer (some ⟨h, 0, none⟩))).run Tryd.prog W = .ok (.agg (fV gyW).toArray) W := ⟨ldF rfl a, ldF rfl b⟩

set_option maxRecDepth 100000 in
set_option maxHeartbeats 1000000 in
theorem rbase_any (w : World) :
    Calls Tryd.prog 36 #[] w fun e w' => e = .returned (.agg (pL (be GX) (be GY) false).toArray) ∧ Below w.heap.size w w' := by
  have HTX : Hid (∀ W, Calls Tryd.prog 33 #[.agg (fV gxW).toArray] W fun e w' => e = .returned (.agg (bV (be GX)).toArray) ∧ Below W.heap.size W w') := fun W => rto_any gxW GX fw_gxW W
  have HTY : Hid (∀ W, Calls Tryd.prog 33 #[.agg (fV gyW).toArray] W fun e w' => e = .returned (.agg (bV (be GY)).toArray) ∧ Below W.heap.size W w') := fun W => rto_any gyW GY fw_gyW W
  have hlx := be_len GX
  have hly := be_len GY
  generalize be GX = X at *
  generalize be GY = Y at *
  have hbd := bd_rp2 X Y hlx hly
  have HLX := hide hlx
  have HLY := hide hly
  have hs1 := st8k (w.alloc (.cells Tryd.zeroCells33 33)) (w.heap.size + 1) (by simp) gxW rfl
  have hs2 := st8k ((w.alloc (.cells Tryd.zeroCells33 33)).alloc (.cells (fV gxW).toArray 80)) (w.heap.size + 1 + 1) (by simp) gyW rfl
  have A0 : Hid (Blk 80 (((w.alloc (.cells Tryd.zeroCells33 33)).alloc (.cells (fV gxW).toArray 80)).alloc (.cells (fV gyW).toArray 80)) (w.heap.size + 1) (fV gxW)) := (Blk.new _ _ _ _ rfl (by simp)).alloc _
  have B0 : Hid (Blk 80 (((w.alloc (.cells Tryd.zeroCells33 33)).alloc (.cells (fV gxW).toArray 80)).alloc (.cells (fV gyW).toArray 80)) (w.heap.size + 1 + 1) (fV gyW)) := Blk.new _ _ _ _ rfl (by simp)
  have Z0 : Hid (Blk 33 (((w.alloc (.cells Tryd.zeroCells33 33)).alloc (.cells (fV gxW).toArray 80)).alloc (.cells (fV gyW).toArray 80)) w.heap.size PZ) := ((Blk.new w PZ _ _ zc_rpt rfl).alloc _).alloc _
  have HSS : Hid (∀ W g h, Blk 80 W g (fV gxW) → Blk 80 W h (fV gyW) → (ldA 80 (.pointer (some ⟨g, 0, none⟩))).run Tryd.prog W = .ok (.agg (fV gxW).toArray) W ∧ (ldA 80 (.pointer (some ⟨h, 0, none⟩))).run Tryd.prog W = .ok (.agg (fV gyW).toArray) W) := fun W g h a b => rbs_S a b
  have hx : fV gxW = [.int .u64 3633889942, .int .u64 4104206661, .int .u64 770388896, .int .u64 1996717441, .int .u64 1671708914, .int .u64 4173129445, .int .u64 3777774151, .int .u64 1796723186] := rfl
  have hy : fV gyW = [.int .u64 935285237, .int .u64 3417718888, .int .u64 1798397646, .int .u64 734933847, .int .u64 2081398294, .int .u64 2397563722, .int .u64 4263149467, .int .u64 1340293858] := rfl
  simp only [hx, hy] at hs1 hs2 HTX HTY A0 B0 Z0 HSS
  clear hlx hly hx hy
  go_enter Tryd.func36, Tryd.ntmps36
  go_wp2
  go_region_held3 (fun W => (ldA 80 (.pointer (some ⟨w.heap.size + 1, 0, none⟩))).run Tryd.prog W = .ok (.agg #[.int .u64 3633889942, .int .u64 4104206661, .int .u64 770388896, .int .u64 1996717441, .int .u64 1671708914, .int .u64 4173129445, .int .u64 3777774151, .int .u64 1796723186]) W ∧ (ldA 80 (.pointer (some ⟨w.heap.size + 1 + 1, 0, none⟩))).run Tryd.prog W = .ok (.agg #[.int .u64 935285237, .int .u64 3417718888, .int .u64 1798397646, .int .u64 734933847, .int .u64 2081398294, .int .u64 2397563722, .int .u64 4263149467, .int .u64 1340293858]) W) (first | exact HSS.out _ _ _ (A2.out.other (by omega)) (B2.out.other (by omega)) | exact HSS.out _ _ _ A2.out B2.out | exact HSS.out _ _ _ A1.out B1.out | exact HSS.out _ _ _ (A0.out.heap (by rfl)) (B0.out.heap (by rfl))) (first | (go_at_call_of 33 (Value.int .u64 3633889942); refine (HTX.out _).mono ?_; rintro e w1 ⟨rfl, LB⟩; have A1 := hide (A0.out.later LB rfl); have B1 := hide (B0.out.later LB rfl); have Z1 := hide (Z0.out.later LB rfl); have U1 := hide (belowd3 LB); clear LB) | (go_at_call_of 33 (Value.int .u64 935285237); refine (HTY.out _).mono ?_; rintro e w2 ⟨rfl, LB⟩; have A2 := hide (A1.out.below LB); have B2 := hide (B1.out.below LB); have Z2 := hide (Z1.out.below LB); have U2 := hide (below_then U1.out LB); clear LB; have hst := stRp (f := false) HLX.out HLY.out Z2.out rfl))
  go_wp2
  refine bodyPost_ret (v := .agg (pL X Y false).toArray) ?_ rfl ⟨rfl, below_sets U2.out (Nat.le_refl _) U2.out.size _ _⟩
  exact res_one (T := 33) (p := 0) (ty := 33) (g := w.heap.size) (X := pL X Y false) (by kernel_rfl) _ _ rfl Tryd.underlying33 rfl (by rw [pL_len HLX.out HLY.out]; exact info_rpt) (blk_all Z2.out (by rw [pL_len HLX.out HLY.out]; rfl))

end Go.Proofs.YtcijjmncilciiaaDoor
