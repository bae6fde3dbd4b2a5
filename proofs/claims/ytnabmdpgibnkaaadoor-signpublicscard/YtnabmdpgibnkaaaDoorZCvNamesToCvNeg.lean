/-
  The law's names.
  What a row of bytes is read as; curve.Decode.
  The document's Decode.
  The law's theirs; the document's Neg.
  A point as a triple and back, whatever it is; curve.Neg.
-/
import Derived.Test.YtnabmdpgibnkaaaDoorZCvBase
import Derived.Test.YtnabmdpgibnkaaaDoorZMoreToBCmp
import Derived.Laws.CopyRow
import Derived.Test.YtnabmdpgibnkaaaDoorZCvGat
namespace Go.Proofs.YtnabmdpgibnkaaaDoor
open Go.RowKit Go.IntWalk
attribute [local go_sem ↓] ld_num st_num ld_pln st_pln ld_ops st_ops ld_pnt st_pnt ld_dig st_dig ld_tri st_tri eq_num ne_num eq_pnt ne_pnt bd_pnt ld_F st_F eq_F ld_a32 st_a32 ld_rpt st_rpt eq_rpt bd_rpt eq_dgs

theorem eqDg (X Y : List Int) (hX : X.length = 32) (hY : Y.length = 32) (w : World) : (eqA 23 (.agg (bV X).toArray) (.agg (bV Y).toArray)).run Tryd.prog w = .ok (.bool (decide (X = Y))) w := by
  obtain ⟨inf, hinf⟩ := info_u8
  exact eqA_arr Tryd.underlying23 Tryd.underlying5 hinf (by kernel_rfl) X Y hX hY w
theorem eqDs (X : List Int) (hX : X.length = 32) (w : World) : (eqA 23 (.agg (bV X).toArray) (.agg (bV X).toArray)).run Tryd.prog w = .ok (.bool true) w := by
  rw [eqDg X X hX hX w, decide_eq_true rfl]

end Go.Proofs.YtnabmdpgibnkaaaDoor

namespace Go.Proofs.YtnabmdpgibnkaaaDoor
open Go.RowKit Go.IntWalk
attribute [local go_sem ↓] ld_num st_num ld_pln st_pln ld_ops st_ops ld_pnt st_pnt ld_dig st_dig ld_tri st_tri eq_num ne_num eq_pnt ne_pnt bd_pnt ld_F st_F eq_F ld_a32 st_a32 ld_rpt st_rpt eq_rpt bd_rpt eq_dgs

/-- The two coordinates in a row of 65 bytes. -/
def cX (xs : List Int) : List Int := (xs.drop 1).take 32
def cY (xs : List Int) : List Int := xs.drop 33
def decE (xs : List Int) : Int := if xs.length = 65 ∧ xs.getD 0 0 = 4 then (if onP (cX xs) (cY xs) false = true then 0 else 100) else 20
def decX (xs : List Int) : List Int := if decE xs = 0 then cX xs else z32
def decY (xs : List Int) : List Int := if decE xs = 0 then cY xs else z32

theorem dec_form {xs : List Int} (h : ¬ (xs.length = 65 ∧ xs.getD 0 0 = 4)) : decE xs = 20 ∧ decX xs = z32 ∧ decY xs = z32 := by
  have e : decE xs = 20 := by unfold decE; rw [if_neg h]
  refine ⟨e, ?_, ?_⟩
  · unfold decX; rw [if_neg (by omega)]
  · unfold decY; rw [if_neg (by omega)]
theorem dec_off {xs : List Int} (h : xs.length = 65 ∧ xs.getD 0 0 = 4) (ho : onP (cX xs) (cY xs) false = false) : decE xs = 100 ∧ decX xs = z32 ∧ decY xs = z32 := by
  have e : decE xs = 100 := by unfold decE; rw [if_pos h, ho]; rfl
  refine ⟨e, ?_, ?_⟩
  · unfold decX; rw [if_neg (by omega)]
  · unfold decY; rw [if_neg (by omega)]
theorem dec_on {xs : List Int} (h : xs.length = 65 ∧ xs.getD 0 0 = 4) (ho : onP (cX xs) (cY xs) false = true) : decE xs = 0 ∧ decX xs = cX xs ∧ decY xs = cY xs := by
  have e : decE xs = 0 := by unfold decE; rw [if_pos h, ho]; rfl
  refine ⟨e, ?_, ?_⟩
  · unfold decX; rw [if_pos e]
  · unfold decY; rw [if_pos e]
theorem cX_len {xs : List Int} (h : xs.length = 65) : (cX xs).length = 32 := by simp [cX, h]
theorem cY_len {xs : List Int} (h : xs.length = 65) : (cY xs).length = 32 := by simp [cY, h]
theorem z32_len : z32.length = 32 := rfl
theorem decX_len (xs : List Int) : (decX xs).length = 32 := by
  unfold decX
  split
  · rename_i h
    refine cX_len ?_
    unfold decE at h
    split at h
    · rename_i h1; exact h1.1
    · simp at h
  · rfl
theorem decY_len (xs : List Int) : (decY xs).length = 32 := by
  unfold decY
  split
  · rename_i h
    refine cY_len ?_
    unfold decE at h
    split at h
    · rename_i h1; exact h1.1
    · simp at h
  · rfl
theorem cX_dg {xs : List Int} (h : ∀ x ∈ xs, 0 ≤ x ∧ x < 256) : Dg 256 (cX xs) := fun x hx => h x (List.mem_of_mem_drop (List.mem_of_mem_take hx))
theorem cY_dg {xs : List Int} (h : ∀ x ∈ xs, 0 ≤ x ∧ x < 256) : Dg 256 (cY xs) := fun x hx => h x (List.mem_of_mem_drop hx)

theorem bdP_zero (w : World) : (bdA 25 #[]).run Tryd.prog w = .ok (.agg PZ.toArray) w := by kernel_rfl
theorem bdR_zero (w : World) : (bdA 33 #[]).run Tryd.prog w = .ok (.agg PZ.toArray) w := by kernel_rfl

theorem Tryd.lenAD : Tryd.prog.arrayLen 23 = 32 := by kernel_rfl
theorem Tryd.elemAD : Tryd.prog.elem 23 = 5 := by kernel_rfl
theorem Tryd.arrAD : Tryd.prog.underlying 23 = some (.array (Tryd.prog.arrayLen 23) (Tryd.prog.elem 23)) := by rw [Tryd.lenAD, Tryd.elemAD]; exact Tryd.underlying23
theorem Tryd.sizeAD (w : World) : (sizeOf (Tryd.prog.elem 23)).run Tryd.prog w = .ok 1 w := by rw [Tryd.elemAD]; kernel_rfl
theorem slice_allD (W : World) (b o : Nat) : (Instr.sliceAt 23 (.pointer (some ⟨b, o, none⟩)) none none none).run Tryd.prog W = .ok (.slice (some ⟨b, o, none⟩) 32 32) W := by
  rw [run_sliceAt_array_all W _ _ Tryd.arrAD, Tryd.sizeAD, Tryd.lenAD]
  simp [slicedAt, Result.andThen, addNone]

theorem copyS (W : World) (ty : TypeId) (g o m : Nat) (T : TypeId) (A X C : List Value) (a : Option Addr) (n c dl dc : Nat) (ys : List Int) (hB : Blk T W g (A ++ X ++ C)) (ho : A.length = o) (hs : Src W a n c ys) (hm : X.length = m) (hm2 : Nat.min n dl = m) (h0 : 0 < m) :
    (Builtin.copy_ #[38, 38] ty #[.slice (some ⟨g, o, none⟩) dl dc, .slice a n c]).run Tryd.prog W = .ok (.int .i64 (m : Int)) (W.setCells g o ((ys.take m).map (Value.int .u8))) := by
  have hn : m ≤ n := by rw [← hm2]; exact Nat.min_le_left _ _
  have hl := hs.hlen
  have hy : ys ≠ [] := by intro h; subst h; simp at hl; omega
  obtain ⟨b, off, rfl, hc⟩ := hs.hrd hy
  have hlen : ((ys.take m).map (Value.int .u8)).length = m := by simp; omega
  have := run_copy_cells (P := Tryd.prog) W 38 38 ty 5 g o dl dc ⟨b, off, none⟩ n c ((ys.take m).map (Value.int .u8)) Tryd.underlying38 (by kernel_rfl) (by rw [hlen, hm2]) ?_ ?_ ?_ (ints_one _ _)
  · rw [this, hlen]
    rfl
  · intro j v hv
    have hj : j < m := by have := (List.getElem?_eq_some_iff.1 hv).1; omega
    rw [addNone, hc j (by omega)]
    rw [List.getElem?_map, List.getElem?_take, if_pos hj, List.getElem?_eq_getElem (by omega)] at hv
    simp at hv
    subst hv
    simp [List.getD, show j < ys.length by omega]
  · intro j hj
    exact (hB.there o m (by simp; omega) j (by omega)).1
  · intro j hj
    exact (hB.there o m (by simp; omega) j (by omega)).2

theorem below_dsets {g : Nat} {w W : World} (h : Below w.heap.size w W) (hg : w.heap.size ≤ g) (o : Nat) (vs : List Value) : Below w.heap.size w (W.drew.setCells g o vs) :=
  below_sets (W := W.drew) ⟨h.os, h.tape, h.output, h.size, h.block⟩ hg h.size o vs

/-- What a call answers that reads a point. -/
def Rd (xs : List Int) (w : World) (e : Ending) (w' : World) : Prop := e = .returned (.tuple #[.agg (pL (decX xs) (decY xs) false).toArray, .int .i64 (decE xs)]) ∧ Below w.heap.size w w'

theorem rd_ret {fn : Func} {p q : Tmp} {ty : TypeId} {d : TypeDesc} (h : fn.results = #[.cell p ty, .tmp q]) {tmps : Array Value} {w w1 : World} {T : TypeId} {g : Nat} {xs : List Int} {Z : List Value} {L : List Value} (hp : tmps.getD p undef = .pointer (some ⟨g, 0, none⟩)) (hq : tmps.getD q undef = .int .i64 (decE xs))
    (hu : Tryd.prog.underlying ty = some d) (hd : d.isRow = true) (hi : (Tryd.prog.info? ty).map (·.size) = some 65) (HZ : Blk T w1 g Z) (hZ : Z.length = 65) (hL : L = pL (decX xs) (decY xs) false) (LB : Below w.heap.size w w1) (hg : w.heap.size ≤ g) :
    bodyPost Tryd.prog fn (Rd xs w) .ret { tmps := tmps, defers := [] } (w1.setCells g 0 L) := by
  subst hL
  have hl := pL_len (decX_len xs) (decY_len xs) false
  refine bodyPost_ret (v := .tuple #[.agg (pL (decX xs) (decY xs) false).toArray, .int .i64 (decE xs)]) ?_ rfl ⟨rfl, below_sets LB hg LB.size _ _⟩
  rw [← hq]
  exact res_two (T := T) (p := p) (q := q) (ty := ty) (X := pL (decX xs) (decY xs) false) h _ _ hp hu hd (by rw [hl]; exact hi) (blk_all HZ (by rw [hZ, hl]))

end Go.Proofs.YtnabmdpgibnkaaaDoor

namespace Go.Proofs.YtnabmdpgibnkaaaDoor
open Go.RowKit Go.IntWalk
attribute [local go_sem ↓] ld_num st_num ld_pln st_pln ld_ops st_ops ld_pnt st_pnt ld_dig st_dig ld_tri st_tri eq_num ne_num eq_pnt ne_pnt bd_pnt ld_F st_F eq_F ld_a32 st_a32 ld_rpt st_rpt eq_rpt bd_rpt eq_dgs

end Go.Proofs.YtnabmdpgibnkaaaDoor

namespace Go.Proofs.YtnabmdpgibnkaaaDoor
open Go.RowKit Go.IntWalk
attribute [local go_sem ↓] ld_num st_num ld_pln st_pln ld_ops st_ops ld_pnt st_pnt ld_dig st_dig ld_tri st_tri eq_num ne_num eq_pnt ne_pnt bd_pnt ld_F st_F eq_F ld_a32 st_a32 ld_rpt st_rpt eq_rpt bd_rpt eq_dgs bd_f8

theorem bd_the' (x0 x1 x2 x3 x4 x5 x6 x7 x8 x9 x10 x11 x12 x13 x14 x15 x16 x17 x18 x19 x20 x21 x22 x23 x24 x25 x26 x27 x28 x29 x30 x31 y0 y1 y2 y3 y4 y5 y6 y7 y8 y9 y10 y11 y12 y13 y14 y15 y16 y17 y18 y19 y20 y21 y22 y23 y24 y25 y26 y27 y28 y29 y30 y31 : Int) (f : Bool) (w : World) : (bdA 33 #[(0, .agg (bV [x0, x1, x2, x3, x4, x5, x6, x7, x8, x9, x10, x11, x12, x13, x14, x15, x16, x17, x18, x19, x20, x21, x22, x23, x24, x25, x26, x27, x28, x29, x30, x31]).toArray), (1, .agg (bV [y0, y1, y2, y3, y4, y5, y6, y7, y8, y9, y10, y11, y12, y13, y14, y15, y16, y17, y18, y19, y20, y21, y22, y23, y24, y25, y26, y27, y28, y29, y30, y31]).toArray), (2, .bool f)]).run Tryd.prog w = .ok (.agg (pL [x0, x1, x2, x3, x4, x5, x6, x7, x8, x9, x10, x11, x12, x13, x14, x15, x16, x17, x18, x19, x20, x21, x22, x23, x24, x25, x26, x27, x28, x29, x30, x31] [y0, y1, y2, y3, y4, y5, y6, y7, y8, y9, y10, y11, y12, y13, y14, y15, y16, y17, y18, y19, y20, y21, y22, y23, y24, y25, y26, y27, y28, y29, y30, y31] f).toArray) w := by kernel_rfl

theorem bd_the (X Y : List Int) (f : Bool) (hX : X.length = 32) (hY : Y.length = 32) (w : World) : (bdA 33 #[(0, .agg (bV X).toArray), (1, .agg (bV Y).toArray), (2, .bool f)]).run Tryd.prog w = .ok (.agg (pL X Y f).toArray) w := by
  match X, hX with
  | [x0, x1, x2, x3, x4, x5, x6, x7, x8, x9, x10, x11, x12, x13, x14, x15, x16, x17, x18, x19, x20, x21, x22, x23, x24, x25, x26, x27, x28, x29, x30, x31], _ =>
    match Y, hY with
    | [y0, y1, y2, y3, y4, y5, y6, y7, y8, y9, y10, y11, y12, y13, y14, y15, y16, y17, y18, y19, y20, y21, y22, y23, y24, y25, y26, y27, y28, y29, y30, y31], _ => exact bd_the' x0 x1 x2 x3 x4 x5 x6 x7 x8 x9 x10 x11 x12 x13 x14 x15 x16 x17 x18 x19 x20 x21 x22 x23 x24 x25 x26 x27 x28 x29 x30 x31 y0 y1 y2 y3 y4 y5 y6 y7 y8 y9 y10 y11 y12 y13 y14 y15 y16 y17 y18 y19 y20 y21 y22 y23 y24 y25 y26 y27 y28 y29 y30 y31 f w

/-- The point across. -/
def negY (Y : List Int) (f : Bool) : List Int := if f = true then Y else be (ps 0 (dn Y))
theorem negY_len {Y : List Int} (hY : Y.length = 32) (f : Bool) : (negY Y f).length = 32 := by
  unfold negY
  split
  · exact hY
  · exact be_len _

end Go.Proofs.YtnabmdpgibnkaaaDoor

namespace Go.Proofs.YtnabmdpgibnkaaaDoor
open Go.RowKit Go.IntWalk
attribute [local go_sem ↓] ld_num st_num ld_pln st_pln ld_ops st_ops ld_pnt st_pnt ld_dig st_dig ld_tri st_tri eq_num ne_num eq_pnt ne_pnt bd_pnt

/-- A point's triple. -/
def sx (X : List Int) (f : Bool) : Int := if f = true then 0 else mm (dn X) SQ
def sy (Y : List Int) (f : Bool) : Int := if f = true then ONE else mm (dn Y) SQ
def sz (f : Bool) : Int := if f = true then 0 else ONE

theorem spread_tri (X Y : List Int) (f : Bool) (hX : X.length = 32) (hY : Y.length = 32) (dX : Dg 256 X) (dY : Dg 256 Y) (b0 b1 b2 b3 : Int) (hb : Nw b0 b1 b2 b3 BM) (w : World) (hC : Cv w) :
    Calls Tryd.prog 37 #[.agg (pL X Y f).toArray, .agg (opL b0 b1 b2 b3).toArray] w fun e w' => ∃ x0 x1 x2 x3 y0 y1 y2 y3 z0 z1 z2 z3, e = .returned (.tuple #[.agg (T12 x0 x1 x2 x3 y0 y1 y2 y3 z0 z1 z2 z3).toArray, .bool (onP X Y f)]) ∧ (onP X Y f = true → Nw x0 x1 x2 x3 (sx X f) ∧ Nw y0 y1 y2 y3 (sy Y f) ∧ Nw z0 z1 z2 z3 (sz f)) ∧ Below w.heap.size w w' := by
  cases f
  · refine (spread_any X Y hX hY dX dY b0 b1 b2 b3 hb w hC).mono ?_
    rintro e w1 ⟨x0, x1, x2, x3, y0, y1, y2, y3, rfl, nx, ny, hB⟩
    refine ⟨_, _, _, _, _, _, _, _, _, _, _, _, rfl, ?_, hB⟩
    intro h
    have h' : dn X < PP ∧ dn Y < PP := by simp [onP] at h; exact ⟨h.1, h.2.1⟩
    rw [if_pos h'.1] at nx
    rw [if_pos h'.2] at ny
    exact ⟨nx, ny, one_w⟩
  · refine (spread_far X Y hX hY b0 b1 b2 b3 w hC).mono ?_
    rintro e w1 ⟨rfl, hB⟩
    exact ⟨_, _, _, _, _, _, _, _, _, _, _, _, rfl, fun _ => ⟨nw_zero, one_w, nw_zero⟩, hB⟩

/-- A triple's point. -/
def gX (x z : Int) : List Int := if z = 0 then z32 else be (gxy x z)
theorem gX_len (x z : Int) : (gX x z).length = 32 := by
  unfold gX
  split
  · rfl
  · exact be_len _
theorem nw_none {z0 z1 z2 z3 : Int} (h : Nw z0 z1 z2 z3 0) : z0 = 0 ∧ z1 = 0 ∧ z2 = 0 ∧ z3 = 0 := V4_inj h.i0 h.i1 h.i2 nw_zero.i0 nw_zero.i1 nw_zero.i2 (h.v.trans nw_zero.v.symm)

theorem gathered_any (x0 x1 x2 x3 y0 y1 y2 y3 z0 z1 z2 z3 x y z : Int) (hx : Nw x0 x1 x2 x3 x) (hy : Nw y0 y1 y2 y3 y) (hz : Nw z0 z1 z2 z3 z) (b0 b1 b2 b3 : Int) (w : World) (hC : Cv w) :
    Calls Tryd.prog 38 #[.agg (T12 x0 x1 x2 x3 y0 y1 y2 y3 z0 z1 z2 z3).toArray, .agg (opL b0 b1 b2 b3).toArray] w fun e w' => e = .returned (.agg (pL (gX x z) (gX y z) (decide (z = 0))).toArray) ∧ Below w.heap.size w w' := by
  by_cases h : z = 0
  · subst h
    obtain ⟨rfl, rfl, rfl, rfl⟩ := nw_none hz
    unfold gX
    rw [if_pos rfl, if_pos rfl, decide_eq_true rfl]
    exact gathered_far x0 x1 x2 x3 y0 y1 y2 y3 b0 b1 b2 b3 w hC
  · unfold gX
    rw [if_neg h, if_neg h, decide_eq_false h]
    exact gathered_near x0 x1 x2 x3 y0 y1 y2 y3 z0 z1 z2 z3 x y z hx hy hz h b0 b1 b2 b3 w hC

theorem gxy_one (x : Int) : gxy x ONE = mm x 1 := by
  unfold gxy
  rw [mpw_one, mm_one, mm_mod_l]
theorem sz_none (f : Bool) : decide (sz f = 0) = f := by cases f <;> decide
theorem back_x {X Y : List Int} {f : Bool} (hX : X.length = 32) (dX : Dg 256 X) (h : onP X Y f = true) : gX (sx X f) (sz f) = X := by
  cases f
  · have h' : dn X < PP := by simp [onP] at h; exact h.1
    unfold gX
    rw [if_neg (show ¬ sz false = 0 by decide), show sz false = ONE from rfl, gxy_one, show sx X false = mm (dn X) SQ from rfl, mm_sq, Int.emod_eq_of_lt (dn_bd dX hX).1 h', be_dn dX hX]
  · unfold gX
    rw [if_pos (show sz true = 0 from rfl)]
    have h' : X = z32 ∧ Y = z32 := by simpa [onP] using h
    exact h'.1.symm
theorem back_y {X Y : List Int} {f : Bool} (hY : Y.length = 32) (dY : Dg 256 Y) (h : onP X Y f = true) : gX (sy Y f) (sz f) = Y := by
  cases f
  · have h' : dn Y < PP := by simp [onP] at h; exact h.2.1
    unfold gX
    rw [if_neg (show ¬ sz false = 0 by decide), show sz false = ONE from rfl, gxy_one, show sy Y false = mm (dn Y) SQ from rfl, mm_sq, Int.emod_eq_of_lt (dn_bd dY hY).1 h', be_dn dY hY]
  · unfold gX
    rw [if_pos (show sz true = 0 from rfl)]
    have h' : X = z32 ∧ Y = z32 := by simpa [onP] using h
    exact h'.2.symm
theorem back_n {X Y : List Int} {f : Bool} (h : onP X Y f = true) : gX (ps 0 (sy Y f)) (sz f) = negY Y f := by
  cases f
  · unfold gX
    rw [if_neg (show ¬ sz false = 0 by decide), show sz false = ONE from rfl, gxy_one, show sy Y false = mm (dn Y) SQ from rfl, mm_ps, mm_sq]
    show be (ps (mm 0 1) (dn Y % PP)) = be (ps 0 (dn Y))
    congr 1
    unfold ps
    rw [show mm 0 1 = 0 by decide, Int.sub_emod, Int.emod_emod_of_dvd _ (Int.dvd_refl _), ← Int.sub_emod]
  · unfold gX
    rw [if_pos (show sz true = 0 from rfl)]
    have h' : X = z32 ∧ Y = z32 := by simpa [onP] using h
    show z32 = Y
    exact h'.2.symm

/-- What Neg answers. -/
def ngX (X Y : List Int) (f : Bool) : List Int := if onP X Y f = true then X else z32
def ngY (X Y : List Int) (f : Bool) : List Int := if onP X Y f = true then negY Y f else z32
def ngF (X Y : List Int) (f : Bool) : Bool := onP X Y f && f
def onE (X Y : List Int) (f : Bool) : Int := if onP X Y f = true then 0 else 100
theorem ngX_len {X Y : List Int} (f : Bool) (hX : X.length = 32) : (ngX X Y f).length = 32 := by
  unfold ngX
  split
  · exact hX
  · rfl
theorem ngY_len {X Y : List Int} (f : Bool) (hY : Y.length = 32) : (ngY X Y f).length = 32 := by
  unfold ngY
  split
  · exact negY_len hY f
  · rfl

theorem retPE {fn : Func} {p q : Tmp} (h : fn.results = #[.cell p 25, .tmp q]) {tmps : Array Value} {w w1 : World} {T : TypeId} {g : Nat} {X Y : List Int} {f : Bool} {E : Int} {Z : List Value} {L : List Value} (hp : tmps.getD p undef = .pointer (some ⟨g, 0, none⟩)) (hq : tmps.getD q undef = .int .i64 E)
    (HZ : Blk T w1 g Z) (hZ : Z.length = 65) (hL : L = pL X Y f) (hX : X.length = 32) (hY : Y.length = 32) (LB : Below w.heap.size w w1) (hg : w.heap.size ≤ g) :
    bodyPost Tryd.prog fn (fun e w' => e = .returned (.tuple #[.agg (pL X Y f).toArray, .int .i64 E]) ∧ Below w.heap.size w w') .ret { tmps := tmps, defers := [] } (w1.setCells g 0 L) := by
  subst hL
  have hl := pL_len hX hY f
  refine bodyPost_ret (v := .tuple #[.agg (pL X Y f).toArray, .int .i64 E]) ?_ rfl ⟨rfl, below_sets LB hg LB.size _ _⟩
  rw [← hq]
  exact res_two (T := T) (p := p) (q := q) (ty := 25) (X := pL X Y f) h _ _ hp Tryd.underlying25 rfl (by rw [hl]; exact info_pnt) (blk_all HZ (by rw [hZ, hl]))

theorem stO (w : World) (b0 b1 b2 b3 : Int) : (stA 86 (.pointer (some ⟨w.heap.size, 0, none⟩)) (.agg (opL b0 b1 b2 b3).toArray)).run Tryd.prog (w.alloc (.cells #[.nilFunc, .nilFunc, .nilFunc, .nilFunc, .nilFunc] 86)) = .ok () (w.alloc (.cells (opL b0 b1 b2 b3).toArray 86)) :=
  run_storeAt_new (P := Tryd.prog) w 86 _ (opL b0 b1 b2 b3).toArray (by kernel_rfl) rfl (all_oneCell_toArray (opL_one b0 b1 b2 b3))
theorem stTw (w : World) (x0 x1 x2 x3 y0 y1 y2 y3 z0 z1 z2 z3 : Int) : (stA 91 (.pointer (some ⟨w.heap.size, 0, none⟩)) (.agg (T12 x0 x1 x2 x3 y0 y1 y2 y3 z0 z1 z2 z3).toArray)).run Tryd.prog (w.alloc (.cells #[.int .u64 0, .int .u64 0, .int .u64 0, .int .u64 0, .int .u64 0, .int .u64 0, .int .u64 0, .int .u64 0, .int .u64 0, .int .u64 0, .int .u64 0, .int .u64 0] 91)) = .ok () (w.alloc (.cells (T12 x0 x1 x2 x3 y0 y1 y2 y3 z0 z1 z2 z3).toArray 91)) :=
  run_storeAt_new (P := Tryd.prog) w 91 _ (T12 x0 x1 x2 x3 y0 y1 y2 y3 z0 z1 z2 z3).toArray (by kernel_rfl) rfl (all_oneCell_toArray (T12_one _ _ _ _ _ _ _ _ _ _ _ _))
theorem stTy {T : TypeId} {w : World} {g : Nat} {x0 x1 x2 x3 y0 y1 y2 y3 z0 z1 z2 z3 : Int} (h : Blk T w g (T12 x0 x1 x2 x3 y0 y1 y2 y3 z0 z1 z2 z3)) (r0 r1 r2 r3 : Int) : (stA 89 (.pointer (some ⟨g, 4, none⟩)) (.agg #[.int .u64 r0, .int .u64 r1, .int .u64 r2, .int .u64 r3])).run Tryd.prog w = .ok () (w.setCells g 4 (L4 r0 r1 r2 r3)) ∧ Blk T (w.setCells g 4 (L4 r0 r1 r2 r3)) g (T12 x0 x1 x2 x3 r0 r1 r2 r3 z0 z1 z2 z3) :=
  ⟨stA_mid (A := L4 x0 x1 x2 x3) (X := L4 y0 y1 y2 y3) (C := L4 z0 z1 z2 z3) (vs := L4 r0 r1 r2 r3) (by kernel_rfl) h rfl rfl (L4_one _ _ _ _), Blk.mid (L4 x0 x1 x2 x3) (L4 y0 y1 y2 y3) (L4 z0 z1 z2 z3) (L4 r0 r1 r2 r3) 4 w h rfl rfl⟩
theorem ldTt {T : TypeId} {w : World} {g : Nat} {x0 x1 x2 x3 y0 y1 y2 y3 z0 z1 z2 z3 : Int} (h : Blk T w g (T12 x0 x1 x2 x3 y0 y1 y2 y3 z0 z1 z2 z3)) : (ldA 91 (.pointer (some ⟨g, 0, none⟩))).run Tryd.prog w = .ok (.agg (T12 x0 x1 x2 x3 y0 y1 y2 y3 z0 z1 z2 z3).toArray) w :=
  ldA_all Tryd.underlying91 rfl (by kernel_rfl) h

/-- What stays while a call runs that has a point in a box and its answer in another. -/
structure Np (w : World) (L : List Value) (W : World) : Prop where
  p : Blk 25 W w.heap.size L
  z : Blk 25 W (w.heap.size + 1) PZ
  cv : Cv W
  bl : Below w.heap.size w W
theorem Np.below {w W V : World} {L : List Value} (h : Np w L W) (b : Below W.heap.size W V) : Np w L V := ⟨h.p.below b, h.z.below b, h.cv.below b, below_then h.bl b⟩
theorem Np.alloc {w W : World} {L : List Value} (h : Np w L W) (o : Obj) : Np w L (W.alloc o) := h.below (below1 W o)
theorem Np.sets {w W : World} {L : List Value} (h : Np w L W) (hC : Cv w) {k : Nat} (hk : w.heap.size + 1 < k) (o : Nat) (vs : List Value) : Np w L (W.setCells k o vs) :=
  ⟨h.p.other (by omega), h.z.other (by omega), h.cv.sets (by have := hC.lt; omega), below_sets h.bl (by omega) h.bl.size _ _⟩

end Go.Proofs.YtnabmdpgibnkaaaDoor
