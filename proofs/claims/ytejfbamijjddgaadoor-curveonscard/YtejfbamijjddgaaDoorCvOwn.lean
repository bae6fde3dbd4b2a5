/-
  The law's own and same; curve.Base and the document's.
-/
import Derived.Test.YtejfbamijjddgaaDoorCrOn
namespace Go.Proofs.YtejfbamijjddgaaDoor
open Go.RowKit Go.IntWalk
attribute [local go_sem ↓] ld_num st_num ld_pln st_pln ld_ops st_ops ld_pnt st_pnt ld_dig st_dig ld_tri st_tri eq_num ne_num eq_pnt ne_pnt bd_pnt ld_F st_F eq_F ld_a32 st_a32 ld_rpt st_rpt eq_rpt bd_rpt

/-- A document's point, built. -/
theorem bd_own' (x0 x1 x2 x3 x4 x5 x6 x7 x8 x9 x10 x11 x12 x13 x14 x15 x16 x17 x18 x19 x20 x21 x22 x23 x24 x25 x26 x27 x28 x29 x30 x31 y0 y1 y2 y3 y4 y5 y6 y7 y8 y9 y10 y11 y12 y13 y14 y15 y16 y17 y18 y19 y20 y21 y22 y23 y24 y25 y26 y27 y28 y29 y30 y31 : Int) (f : Bool) (w : World) : (bdA 25 #[(0, .agg (bV [x0, x1, x2, x3, x4, x5, x6, x7, x8, x9, x10, x11, x12, x13, x14, x15, x16, x17, x18, x19, x20, x21, x22, x23, x24, x25, x26, x27, x28, x29, x30, x31]).toArray), (1, .agg (bV [y0, y1, y2, y3, y4, y5, y6, y7, y8, y9, y10, y11, y12, y13, y14, y15, y16, y17, y18, y19, y20, y21, y22, y23, y24, y25, y26, y27, y28, y29, y30, y31]).toArray), (2, .bool f)]).run Tryd.prog w = .ok (.agg (pL [x0, x1, x2, x3, x4, x5, x6, x7, x8, x9, x10, x11, x12, x13, x14, x15, x16, x17, x18, x19, x20, x21, x22, x23, x24, x25, x26, x27, x28, x29, x30, x31] [y0, y1, y2, y3, y4, y5, y6, y7, y8, y9, y10, y11, y12, y13, y14, y15, y16, y17, y18, y19, y20, y21, y22, y23, y24, y25, y26, y27, y28, y29, y30, y31] f).toArray) w := by kernel_rfl

theorem bd_own (X Y : List Int) (f : Bool) (hX : X.length = 32) (hY : Y.length = 32) (w : World) : (bdA 25 #[(0, .agg (bV X).toArray), (1, .agg (bV Y).toArray), (2, .bool f)]).run Tryd.prog w = .ok (.agg (pL X Y f).toArray) w := by
  match X, hX with
  | [x0, x1, x2, x3, x4, x5, x6, x7, x8, x9, x10, x11, x12, x13, x14, x15, x16, x17, x18, x19, x20, x21, x22, x23, x24, x25, x26, x27, x28, x29, x30, x31], _ =>
    match Y, hY with
    | [y0, y1, y2, y3, y4, y5, y6, y7, y8, y9, y10, y11, y12, y13, y14, y15, y16, y17, y18, y19, y20, y21, y22, y23, y24, y25, y26, y27, y28, y29, y30, y31], _ => exact bd_own' x0 x1 x2 x3 x4 x5 x6 x7 x8 x9 x10 x11 x12 x13 x14 x15 x16 x17 x18 x19 x20 x21 x22 x23 x24 x25 x26 x27 x28 x29 x30 x31 y0 y1 y2 y3 y4 y5 y6 y7 y8 y9 y10 y11 y12 y13 y14 y15 y16 y17 y18 y19 y20 y21 y22 y23 y24 y25 y26 y27 y28 y29 y30 y31 f w

theorem stPt {T : TypeId} {w : World} {g : Nat} {Z : List Value} {X Y : List Int} {f : Bool} (hX : X.length = 32) (hY : Y.length = 32) (h : Blk T w g Z) (hZ : Z.length = 65) : (stA 25 (.pointer (some ⟨g, 0, none⟩)) (.agg (pL X Y f).toArray)).run Tryd.prog w = .ok () (w.setCells g 0 (pL X Y f)) :=
  stA_all (by rw [pL_len hX hY]; exact info_pnt) h (by rw [pL_len hX hY, hZ]) (pL_one _ _ _)
theorem stRp {T : TypeId} {w : World} {g : Nat} {Z : List Value} {X Y : List Int} {f : Bool} (hX : X.length = 32) (hY : Y.length = 32) (h : Blk T w g Z) (hZ : Z.length = 65) : (stA 27 (.pointer (some ⟨g, 0, none⟩)) (.agg (pL X Y f).toArray)).run Tryd.prog w = .ok () (w.setCells g 0 (pL X Y f)) :=
  stA_all (by rw [pL_len hX hY]; exact info_rpt) h (by rw [pL_len hX hY, hZ]) (pL_one _ _ _)

def PZ : List Value := pL z32 z32 false
theorem zc_pnt : Tryd.zeroCells25 = PZ.toArray := by kernel_rfl

set_option maxRecDepth 100000 in
set_option maxHeartbeats 1000000 in
theorem own_any (X Y : List Int) (f : Bool) (hX : X.length = 32) (hY : Y.length = 32) (w : World) :
    Calls Tryd.prog 46 #[.agg (pL X Y f).toArray] w fun e w' => e = .returned (.agg (pL X Y f).toArray) ∧ Below w.heap.size w w' := by
  have K0 := hide ((Blk.new (T := 27) w (pL X Y f) _ _ rfl rfl).alloc (.cells Tryd.zeroCells25 25))
  have Z0 := hide (Blk.new (T := 25) (w.alloc (.cells (pL X Y f).toArray 27)) PZ Tryd.zeroCells25 (w.heap.size + 1) zc_pnt (by simp))
  have U0 := hide (below2 w (.cells (pL X Y f).toArray 27) (.cells Tryd.zeroCells25 25))
  obtain ⟨_, l1, l2⟩ := rpt_ld hX hY K0.out
  have c0 : (pL X Y f)[64]? = some (.bool f) := by simp [pL, hX, hY]
  have hbd := bd_own X Y f hX hY
  have hst := stPt (f := f) hX hY Z0.out rfl
  have hlen := pL_len hX hY f
  have HB := hide (blk_all (vs := pL X Y f) Z0.out (by rw [hlen]; rfl))
  have hone := pL_one X Y f
  have HLn := hide hlen
  generalize pL X Y f = L at *
  clear hX hY hlen
  go_enter Tryd.func46, Tryd.ntmps46
  go_wp2
  refine bodyPost_ret (v := .agg L.toArray) ?_ rfl ⟨rfl, below_sets U0.out (by omega) U0.out.size _ _⟩
  exact res_one (T := 25) (p := 2) (ty := 25) (g := w.heap.size + 1) (X := L) (by kernel_rfl) _ _ rfl Tryd.underlying25 rfl (by rw [HLn.out]; exact info_pnt) HB.out

set_option maxRecDepth 100000 in
set_option maxHeartbeats 1000000 in
theorem same_any (X Y X' Y' : List Int) (f f' : Bool) (hX : X.length = 32) (hY : Y.length = 32) (hX' : X'.length = 32) (hY' : Y'.length = 32) (w : World) :
    Calls Tryd.prog 16 #[.agg (pL X Y f).toArray, .agg (pL X' Y' f').toArray] w fun e w' => e = .returned (.bool (decide (X = X' ∧ Y = Y' ∧ f = f'))) ∧ Below w.heap.size w w' := by
  have HO : Hid (∀ W, Calls Tryd.prog 46 #[.agg (pL X' Y' f').toArray] W fun e w' => e = .returned (.agg (pL X' Y' f').toArray) ∧ Below W.heap.size W w') := fun W => own_any X' Y' f' hX' hY' W
  have K0 := hide ((Blk.new (T := 25) w (pL X Y f) _ _ rfl rfl).alloc (.cells (pL X' Y' f').toArray 27))
  have K1 := hide (Blk.new (T := 27) (w.alloc (.cells (pL X Y f).toArray 25)) (pL X' Y' f') _ (w.heap.size + 1) rfl (by simp))
  have HL0 : Hid (∀ W, Blk 25 W w.heap.size (pL X Y f) → (ldA 25 (.pointer (some ⟨w.heap.size, 0, none⟩))).run Tryd.prog W = .ok (.agg (pL X Y f).toArray) W) := fun W h => (pnt_ld hX hY h).1
  have HL1 : Hid (∀ W, Blk 27 W (w.heap.size + 1) (pL X' Y' f') → (ldA 27 (.pointer (some ⟨w.heap.size + 1, 0, none⟩))).run Tryd.prog W = .ok (.agg (pL X' Y' f').toArray) W) := fun W h => (rpt_ld hX' hY' h).1
  have heq := eqP X Y X' Y' f f' hX hY hX' hY'
  have hone := pL_one X Y f
  have hone' := pL_one X' Y' f'
  generalize decide (X = X' ∧ Y = Y' ∧ f = f') = v at *
  generalize pL X Y f = L at *
  generalize pL X' Y' f' = L' at *
  clear hX hY hX' hY'
  go_enter Tryd.func16, Tryd.ntmps16
  go_wp2
  go_region_held3 (fun W => (ldA 25 (.pointer (some ⟨w.heap.size, 0, none⟩))).run Tryd.prog W = .ok (.agg L.toArray) W ∧ (ldA 27 (.pointer (some ⟨w.heap.size + 1, 0, none⟩))).run Tryd.prog W = .ok (.agg L'.toArray) W) (first | exact ⟨HL0.out _ K2.out, HL1.out _ K3.out⟩ | exact ⟨HL0.out _ (K0.out.heap (by rfl)), HL1.out _ (K1.out.heap (by rfl))⟩) ((go_at_call 46; refine (HO.out _).mono ?_; rintro e w1 ⟨rfl, LB⟩; have K2 := hide (K0.out.later LB rfl); have K3 := hide (K1.out.later LB rfl); have U1 := hide (belowd2 LB); clear LB))
  go_wp2
  go_ret
  exact ⟨rfl, U1.out⟩

end Go.Proofs.YtejfbamijjddgaaDoor
