/-
  The document's Decode.
  The law's theirs; the document's Neg.
-/
import Derived.Test.YtnabmdpgibnkaabDoorZMoreToCvDec
namespace Go.Proofs.YtnabmdpgibnkaabDoor
open Go.RowKit Go.IntWalk
attribute [local go_sem ↓] ld_num st_num ld_pln st_pln ld_ops st_ops ld_pnt st_pnt ld_dig st_dig ld_tri st_tri eq_num ne_num eq_pnt ne_pnt bd_pnt ld_F st_F eq_F ld_a32 st_a32 ld_rpt st_rpt eq_rpt bd_rpt eq_dgs

/-- The first k of 32 bytes, zeros behind them. -/
def dcL (X : List Int) (k : Nat) : List Int := X.take k ++ List.replicate (32 - k) 0
theorem dcL_len {X : List Int} (hX : X.length = 32) (k : Nat) (hk : k ≤ 32) : (dcL X k).length = 32 := by simp [dcL, hX]; omega
theorem dcL_set {X : List Int} (hX : X.length = 32) (k : Nat) (hk : k < 32) : (dcL X k).set k (X.getD k 0) = dcL X (k + 1) := by
  unfold dcL
  have hl : (X.take k).length = k := by simp [hX]; omega
  rw [List.set_append_right _ _ (by omega), hl, Nat.sub_self, show 32 - k = (32 - (k + 1)) + 1 by omega, List.replicate_succ, List.set_cons_zero, List.take_succ_eq_append_getElem (by omega), List.append_assoc]
  simp [List.getD, hX, hk]
theorem dcL_0 (X : List Int) : dcL X 0 = z32 := rfl
theorem dcL_32 {X : List Int} (hX : X.length = 32) : dcL X 32 = X := by simp [dcL, List.take_of_length_le (Nat.le_of_eq hX)]
theorem pL_setX {X Y : List Int} (hX : X.length = 32) (f : Bool) (k : Nat) (hk : k < 32) (u : Int) : (pL X Y f).set k (.int .u8 u) = pL (X.set k u) Y f := by
  unfold pL
  rw [List.append_assoc, List.set_append_left _ _ (by simp [hX, hk]), List.map_set, List.append_assoc]
theorem pL_setY {X Y : List Int} (hX : X.length = 32) (hY : Y.length = 32) (f : Bool) (k : Nat) (hk : k < 32) (u : Int) : (pL X Y f).set (32 + k) (.int .u8 u) = pL X (Y.set k u) f := by
  unfold pL
  rw [List.append_assoc, List.set_append_right _ _ (by simp [hX]), List.length_map, hX, Nat.add_sub_cancel_left, List.set_append_left _ _ (by simp [hY, hk]), List.map_set, List.append_assoc]
theorem ron_any (X Y : List Int) (hX : X.length = 32) (hY : Y.length = 32) (dX : Dg 256 X) (dY : Dg 256 Y) (f : Bool) (w : World) :
    Calls Tryd.prog 15 #[.agg (pL X Y f).toArray] w fun e w' => e = .returned (.bool (onP X Y f)) ∧ Below w.heap.size w w' := by
  cases f
  · exact ron_near X Y hX hY dX dY w
  · exact ron_far X Y hX hY w

end Go.Proofs.YtnabmdpgibnkaabDoor

namespace Go.Proofs.YtnabmdpgibnkaabDoor
open Go.RowKit Go.IntWalk
attribute [local go_sem ↓] ld_num st_num ld_pln st_pln ld_ops st_ops ld_pnt st_pnt ld_dig st_dig ld_tri st_tri eq_num ne_num eq_pnt ne_pnt bd_pnt ld_F st_F eq_F ld_a32 st_a32 ld_rpt st_rpt eq_rpt bd_rpt eq_dgs bd_f8

theorem bd_the' (x0 x1 x2 x3 x4 x5 x6 x7 x8 x9 x10 x11 x12 x13 x14 x15 x16 x17 x18 x19 x20 x21 x22 x23 x24 x25 x26 x27 x28 x29 x30 x31 y0 y1 y2 y3 y4 y5 y6 y7 y8 y9 y10 y11 y12 y13 y14 y15 y16 y17 y18 y19 y20 y21 y22 y23 y24 y25 y26 y27 y28 y29 y30 y31 : Int) (f : Bool) (w : World) : (bdA 41 #[(0, .agg (bV [x0, x1, x2, x3, x4, x5, x6, x7, x8, x9, x10, x11, x12, x13, x14, x15, x16, x17, x18, x19, x20, x21, x22, x23, x24, x25, x26, x27, x28, x29, x30, x31]).toArray), (1, .agg (bV [y0, y1, y2, y3, y4, y5, y6, y7, y8, y9, y10, y11, y12, y13, y14, y15, y16, y17, y18, y19, y20, y21, y22, y23, y24, y25, y26, y27, y28, y29, y30, y31]).toArray), (2, .bool f)]).run Tryd.prog w = .ok (.agg (pL [x0, x1, x2, x3, x4, x5, x6, x7, x8, x9, x10, x11, x12, x13, x14, x15, x16, x17, x18, x19, x20, x21, x22, x23, x24, x25, x26, x27, x28, x29, x30, x31] [y0, y1, y2, y3, y4, y5, y6, y7, y8, y9, y10, y11, y12, y13, y14, y15, y16, y17, y18, y19, y20, y21, y22, y23, y24, y25, y26, y27, y28, y29, y30, y31] f).toArray) w := by kernel_rfl

theorem bd_the (X Y : List Int) (f : Bool) (hX : X.length = 32) (hY : Y.length = 32) (w : World) : (bdA 41 #[(0, .agg (bV X).toArray), (1, .agg (bV Y).toArray), (2, .bool f)]).run Tryd.prog w = .ok (.agg (pL X Y f).toArray) w := by
  match X, hX with
  | [x0, x1, x2, x3, x4, x5, x6, x7, x8, x9, x10, x11, x12, x13, x14, x15, x16, x17, x18, x19, x20, x21, x22, x23, x24, x25, x26, x27, x28, x29, x30, x31], _ =>
    match Y, hY with
    | [y0, y1, y2, y3, y4, y5, y6, y7, y8, y9, y10, y11, y12, y13, y14, y15, y16, y17, y18, y19, y20, y21, y22, y23, y24, y25, y26, y27, y28, y29, y30, y31], _ => exact bd_the' x0 x1 x2 x3 x4 x5 x6 x7 x8 x9 x10 x11 x12 x13 x14 x15 x16 x17 x18 x19 x20 x21 x22 x23 x24 x25 x26 x27 x28 x29 x30 x31 y0 y1 y2 y3 y4 y5 y6 y7 y8 y9 y10 y11 y12 y13 y14 y15 y16 y17 y18 y19 y20 y21 y22 y23 y24 y25 y26 y27 y28 y29 y30 y31 f w

set_option maxRecDepth 100000 in
set_option maxHeartbeats 1000000 in
theorem theirs_any (X Y : List Int) (f : Bool) (hX : X.length = 32) (hY : Y.length = 32) (w : World) :
    Calls Tryd.prog 16 #[.agg (pL X Y f).toArray] w fun e w' => e = .returned (.agg (pL X Y f).toArray) ∧ Below w.heap.size w w' := by
  have K0 := hide ((Blk.new (T := 34) w (pL X Y f) _ _ rfl rfl).alloc (.cells Tryd.zeroCells41 41))
  have Z0 := hide (Blk.new (T := 41) (w.alloc (.cells (pL X Y f).toArray 34)) PZ Tryd.zeroCells41 (w.heap.size + 1) zc_rpt (by simp))
  have U0 := hide (below2 w (.cells (pL X Y f).toArray 34) (.cells Tryd.zeroCells41 41))
  obtain ⟨_, l1, l2, _⟩ := pnt_ld hX hY K0.out
  have c0 : (pL X Y f)[64]? = some (.bool f) := by simp [pL, hX, hY]
  have hbd := bd_the X Y f hX hY
  have hst := stRp (f := f) hX hY Z0.out rfl
  have hlen := pL_len hX hY f
  have HB := hide (blk_all (vs := pL X Y f) Z0.out (by rw [hlen]; rfl))
  have hone := pL_one X Y f
  have HLn := hide hlen
  generalize pL X Y f = L at *
  clear hX hY hlen
  go_enter Tryd.func16, Tryd.ntmps16
  go_wp2
  refine bodyPost_ret (v := .agg L.toArray) ?_ rfl ⟨rfl, below_sets U0.out (by omega) U0.out.size _ _⟩
  exact res_one (T := 41) (p := 2) (ty := 41) (g := w.heap.size + 1) (X := L) (by kernel_rfl) _ _ rfl Tryd.underlying41 rfl (by rw [HLn.out]; exact info_rpt) HB.out

/-- The point across. -/
def negY (Y : List Int) (f : Bool) : List Int := if f = true then Y else be (ps 0 (dn Y))
theorem negY_len {Y : List Int} (hY : Y.length = 32) (f : Bool) : (negY Y f).length = 32 := by
  unfold negY
  split
  · exact hY
  · exact be_len _

end Go.Proofs.YtnabmdpgibnkaabDoor
