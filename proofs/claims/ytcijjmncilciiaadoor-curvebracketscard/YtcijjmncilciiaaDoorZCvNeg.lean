/-
  A point as a triple and back, whatever it is; curve.Neg.
-/
import Derived.Test.YtcijjmncilciiaaDoorZCvGatToMore
import Derived.Test.YtcijjmncilciiaaDoorZCvDecToCvThe
namespace Go.Proofs.YtcijjmncilciiaaDoor
open Go.RowKit Go.IntWalk
attribute [local go_sem ↓] ld_num st_num ld_pln st_pln ld_ops st_ops ld_pnt st_pnt ld_dig st_dig ld_tri st_tri eq_num ne_num eq_pnt ne_pnt bd_pnt

/-- A point's triple. -/
def sx (X : List Int) (f : Bool) : Int := if f = true then 0 else mm (dn X) SQ
def sy (Y : List Int) (f : Bool) : Int := if f = true then ONE else mm (dn Y) SQ
def sz (f : Bool) : Int := if f = true then 0 else ONE

theorem spread_tri (X Y : List Int) (f : Bool) (hX : X.length = 32) (hY : Y.length = 32) (dX : Dg 256 X) (dY : Dg 256 Y) (b0 b1 b2 b3 : Int) (hb : Nw b0 b1 b2 b3 BM) (w : World) (hC : Cv w) :
    Calls Tryd.prog 29 #[.agg (pL X Y f).toArray, .agg (opL b0 b1 b2 b3).toArray] w fun e w' => ∃ x0 x1 x2 x3 y0 y1 y2 y3 z0 z1 z2 z3, e = .returned (.tuple #[.agg (T12 x0 x1 x2 x3 y0 y1 y2 y3 z0 z1 z2 z3).toArray, .bool (onP X Y f)]) ∧ (onP X Y f = true → Nw x0 x1 x2 x3 (sx X f) ∧ Nw y0 y1 y2 y3 (sy Y f) ∧ Nw z0 z1 z2 z3 (sz f)) ∧ Below w.heap.size w w' := by
  cases f
  · refine (spread_any X Y hX hY dX dY b0 b1 b2 b3 hb w hC).mono ?_
    rintro e w1 ⟨x0, x1, x2, x3, y0, y1, y2, y3, rfl, nx, ny, hB⟩
    refine ⟨_, _, _, _, _, _, _, _, _, _, _, _, rfl, ?_, hB⟩
    intro h
    have h' : dn X < PP ∧ dn Y < PP := by simp [onP] at h; exact ⟨h.1, h.2.1⟩
    rw [if_pos h'.1] at nx
    rw [if_pos h'.2] at ny
    exact ⟨nx, ny, one_w⟩
  · refine (spread_far X Y hX hY b0 b1 b2 b3 w hC).mono ?_
    rintro e w1 ⟨rfl, hB⟩
    exact ⟨_, _, _, _, _, _, _, _, _, _, _, _, rfl, fun _ => ⟨nw_zero, one_w, nw_zero⟩, hB⟩

/-- A triple's point. -/
def gX (x z : Int) : List Int := if z = 0 then z32 else be (gxy x z)
theorem gX_len (x z : Int) : (gX x z).length = 32 := by
  unfold gX
  split
  · rfl
  · exact be_len _
theorem nw_none {z0 z1 z2 z3 : Int} (h : Nw z0 z1 z2 z3 0) : z0 = 0 ∧ z1 = 0 ∧ z2 = 0 ∧ z3 = 0 := V4_inj h.i0 h.i1 h.i2 nw_zero.i0 nw_zero.i1 nw_zero.i2 (h.v.trans nw_zero.v.symm)

theorem gathered_any (x0 x1 x2 x3 y0 y1 y2 y3 z0 z1 z2 z3 x y z : Int) (hx : Nw x0 x1 x2 x3 x) (hy : Nw y0 y1 y2 y3 y) (hz : Nw z0 z1 z2 z3 z) (b0 b1 b2 b3 : Int) (w : World) (hC : Cv w) :
    Calls Tryd.prog 31 #[.agg (T12 x0 x1 x2 x3 y0 y1 y2 y3 z0 z1 z2 z3).toArray, .agg (opL b0 b1 b2 b3).toArray] w fun e w' => e = .returned (.agg (pL (gX x z) (gX y z) (decide (z = 0))).toArray) ∧ Below w.heap.size w w' := by
  by_cases h : z = 0
  · subst h
    obtain ⟨rfl, rfl, rfl, rfl⟩ := nw_none hz
    unfold gX
    rw [if_pos rfl, if_pos rfl, decide_eq_true rfl]
    exact gathered_far x0 x1 x2 x3 y0 y1 y2 y3 b0 b1 b2 b3 w hC
  · unfold gX
    rw [if_neg h, if_neg h, decide_eq_false h]
    exact gathered_near x0 x1 x2 x3 y0 y1 y2 y3 z0 z1 z2 z3 x y z hx hy hz h b0 b1 b2 b3 w hC

theorem gxy_one (x : Int) : gxy x ONE = mm x 1 := by
  unfold gxy
  rw [mpw_one, mm_one, mm_mod_l]
theorem sz_none (f : Bool) : decide (sz f = 0) = f := by cases f <;> decide
theorem back_x {X Y : List Int} {f : Bool} (hX : X.length = 32) (dX : Dg 256 X) (h : onP X Y f = true) : gX (sx X f) (sz f) = X := by
  cases f
  · have h' : dn X < PP := by simp [onP] at h; exact h.1
    unfold gX
    rw [if_neg (show ¬ sz false = 0 by decide), show sz false = ONE from rfl, gxy_one, show sx X false = mm (dn X) SQ from rfl, mm_sq, Int.emod_eq_of_lt (dn_bd dX hX).1 h', be_dn dX hX]
  · unfold gX
    rw [if_pos (show sz true = 0 from rfl)]
    have h' : X = z32 ∧ Y = z32 := by simpa [onP] using h
    exact h'.1.symm
theorem back_y {X Y : List Int} {f : Bool} (hY : Y.length = 32) (dY : Dg 256 Y) (h : onP X Y f = true) : gX (sy Y f) (sz f) = Y := by
  cases f
  · have h' : dn Y < PP := by simp [onP] at h; exact h.2.1
    unfold gX
    rw [if_neg (show ¬ sz false = 0 by decide), show sz false = ONE from rfl, gxy_one, show sy Y false = mm (dn Y) SQ from rfl, mm_sq, Int.emod_eq_of_lt (dn_bd dY hY).1 h', be_dn dY hY]
  · unfold gX
    rw [if_pos (show sz true = 0 from rfl)]
    have h' : X = z32 ∧ Y = z32 := by simpa [onP] using h
    exact h'.2.symm
theorem back_n {X Y : List Int} {f : Bool} (h : onP X Y f = true) : gX (ps 0 (sy Y f)) (sz f) = negY Y f := by
  cases f
  · unfold gX
    rw [if_neg (show ¬ sz false = 0 by decide), show sz false = ONE from rfl, gxy_one, show sy Y false = mm (dn Y) SQ from rfl, mm_ps, mm_sq]
    show be (ps (mm 0 1) (dn Y % PP)) = be (ps 0 (dn Y))
    congr 1
    unfold ps
    rw [show mm 0 1 = 0 by decide, Int.sub_emod, Int.emod_emod_of_dvd _ (Int.dvd_refl _), ← Int.sub_emod]
  · unfold gX
    rw [if_pos (show sz true = 0 from rfl)]
    have h' : X = z32 ∧ Y = z32 := by simpa [onP] using h
    show z32 = Y
    exact h'.2.symm

/-- What Neg answers. -/
def ngX (X Y : List Int) (f : Bool) : List Int := if onP X Y f = true then X else z32
def ngY (X Y : List Int) (f : Bool) : List Int := if onP X Y f = true then negY Y f else z32
def ngF (X Y : List Int) (f : Bool) : Bool := onP X Y f && f
def onE (X Y : List Int) (f : Bool) : Int := if onP X Y f = true then 0 else 100
theorem ngX_len {X Y : List Int} (f : Bool) (hX : X.length = 32) : (ngX X Y f).length = 32 := by
  unfold ngX
  split
  · exact hX
  · rfl
theorem ngY_len {X Y : List Int} (f : Bool) (hY : Y.length = 32) : (ngY X Y f).length = 32 := by
  unfold ngY
  split
  · exact negY_len hY f
  · rfl

theorem retPE {fn : Func} {p q : Tmp} (h : fn.results = #[.cell p 25, .tmp q]) {tmps : Array Value} {w w1 : World} {T : TypeId} {g : Nat} {X Y : List Int} {f : Bool} {E : Int} {Z : List Value} {L : List Value} (hp : tmps.getD p undef = .pointer (some ⟨g, 0, none⟩)) (hq : tmps.getD q undef = .int .i64 E)
    (HZ : Blk T w1 g Z) (hZ : Z.length = 65) (hL : L = pL X Y f) (hX : X.length = 32) (hY : Y.length = 32) (LB : Below w.heap.size w w1) (hg : w.heap.size ≤ g) :
    bodyPost Tryd.prog fn (fun e w' => e = .returned (.tuple #[.agg (pL X Y f).toArray, .int .i64 E]) ∧ Below w.heap.size w w') .ret { tmps := tmps, defers := [] } (w1.setCells g 0 L) := by
  subst hL
  have hl := pL_len hX hY f
  refine bodyPost_ret (v := .tuple #[.agg (pL X Y f).toArray, .int .i64 E]) ?_ rfl ⟨rfl, below_sets LB hg LB.size _ _⟩
  rw [← hq]
  exact res_two (T := T) (p := p) (q := q) (ty := 25) (X := pL X Y f) h _ _ hp Tryd.underlying25 rfl (by rw [hl]; exact info_pnt) (blk_all HZ (by rw [hZ, hl]))

theorem stO (w : World) (b0 b1 b2 b3 : Int) : (stA 67 (.pointer (some ⟨w.heap.size, 0, none⟩)) (.agg (opL b0 b1 b2 b3).toArray)).run Tryd.prog (w.alloc (.cells #[.nilFunc, .nilFunc, .nilFunc, .nilFunc, .nilFunc] 67)) = .ok () (w.alloc (.cells (opL b0 b1 b2 b3).toArray 67)) :=
  run_storeAt_new (P := Tryd.prog) w 67 _ (opL b0 b1 b2 b3).toArray (by kernel_rfl) rfl (all_oneCell_toArray (opL_one b0 b1 b2 b3))
theorem stTw (w : World) (x0 x1 x2 x3 y0 y1 y2 y3 z0 z1 z2 z3 : Int) : (stA 72 (.pointer (some ⟨w.heap.size, 0, none⟩)) (.agg (T12 x0 x1 x2 x3 y0 y1 y2 y3 z0 z1 z2 z3).toArray)).run Tryd.prog (w.alloc (.cells #[.int .u64 0, .int .u64 0, .int .u64 0, .int .u64 0, .int .u64 0, .int .u64 0, .int .u64 0, .int .u64 0, .int .u64 0, .int .u64 0, .int .u64 0, .int .u64 0] 72)) = .ok () (w.alloc (.cells (T12 x0 x1 x2 x3 y0 y1 y2 y3 z0 z1 z2 z3).toArray 72)) :=
  run_storeAt_new (P := Tryd.prog) w 72 _ (T12 x0 x1 x2 x3 y0 y1 y2 y3 z0 z1 z2 z3).toArray (by kernel_rfl) rfl (all_oneCell_toArray (T12_one _ _ _ _ _ _ _ _ _ _ _ _))
theorem stTy {T : TypeId} {w : World} {g : Nat} {x0 x1 x2 x3 y0 y1 y2 y3 z0 z1 z2 z3 : Int} (h : Blk T w g (T12 x0 x1 x2 x3 y0 y1 y2 y3 z0 z1 z2 z3)) (r0 r1 r2 r3 : Int) : (stA 70 (.pointer (some ⟨g, 4, none⟩)) (.agg #[.int .u64 r0, .int .u64 r1, .int .u64 r2, .int .u64 r3])).run Tryd.prog w = .ok () (w.setCells g 4 (L4 r0 r1 r2 r3)) ∧ Blk T (w.setCells g 4 (L4 r0 r1 r2 r3)) g (T12 x0 x1 x2 x3 r0 r1 r2 r3 z0 z1 z2 z3) :=
  ⟨stA_mid (A := L4 x0 x1 x2 x3) (X := L4 y0 y1 y2 y3) (C := L4 z0 z1 z2 z3) (vs := L4 r0 r1 r2 r3) (by kernel_rfl) h rfl rfl (L4_one _ _ _ _), Blk.mid (L4 x0 x1 x2 x3) (L4 y0 y1 y2 y3) (L4 z0 z1 z2 z3) (L4 r0 r1 r2 r3) 4 w h rfl rfl⟩
theorem ldTt {T : TypeId} {w : World} {g : Nat} {x0 x1 x2 x3 y0 y1 y2 y3 z0 z1 z2 z3 : Int} (h : Blk T w g (T12 x0 x1 x2 x3 y0 y1 y2 y3 z0 z1 z2 z3)) : (ldA 72 (.pointer (some ⟨g, 0, none⟩))).run Tryd.prog w = .ok (.agg (T12 x0 x1 x2 x3 y0 y1 y2 y3 z0 z1 z2 z3).toArray) w :=
  ldA_all Tryd.underlying72 rfl (by kernel_rfl) h

/-- What stays while a call runs that has a point in a box and its answer in another. -/
structure Np (w : World) (L : List Value) (W : World) : Prop where
  p : Blk 25 W w.heap.size L
  z : Blk 25 W (w.heap.size + 1) PZ
  cv : Cv W
  bl : Below w.heap.size w W
theorem Np.below {w W V : World} {L : List Value} (h : Np w L W) (b : Below W.heap.size W V) : Np w L V := ⟨h.p.below b, h.z.below b, h.cv.below b, below_then h.bl b⟩
theorem Np.alloc {w W : World} {L : List Value} (h : Np w L W) (o : Obj) : Np w L (W.alloc o) := h.below (below1 W o)
theorem Np.sets {w W : World} {L : List Value} (h : Np w L W) (hC : Cv w) {k : Nat} (hk : w.heap.size + 1 < k) (o : Nat) (vs : List Value) : Np w L (W.setCells k o vs) :=
  ⟨h.p.other (by omega), h.z.other (by omega), h.cv.sets (by have := hC.lt; omega), below_sets h.bl (by omega) h.bl.size _ _⟩

set_option maxRecDepth 100000 in
set_option maxHeartbeats 4000000 in
theorem neg_any (X Y : List Int) (f : Bool) (hX : X.length = 32) (hY : Y.length = 32) (dX : Dg 256 X) (dY : Dg 256 Y) (w : World) (hC : Cv w) :
    Calls Tryd.prog 24 #[.agg (pL X Y f).toArray] w fun e w' => e = .returned (.tuple #[.agg (pL (ngX X Y f) (ngY X Y f) (ngF X Y f)).toArray, .int .i64 (onE X Y f)]) ∧ Below w.heap.size w w' := by
  have HSP : Hid (∀ b0 b1 b2 b3, Nw b0 b1 b2 b3 BM → ∀ W, Cv W → Calls Tryd.prog 29 #[.agg (pL X Y f).toArray, .agg (opL b0 b1 b2 b3).toArray] W fun e w' => ∃ x0 x1 x2 x3 y0 y1 y2 y3 z0 z1 z2 z3, e = .returned (.tuple #[.agg (T12 x0 x1 x2 x3 y0 y1 y2 y3 z0 z1 z2 z3).toArray, .bool (onP X Y f)]) ∧ (onP X Y f = true → Nw x0 x1 x2 x3 (sx X f) ∧ Nw y0 y1 y2 y3 (sy Y f) ∧ Nw z0 z1 z2 z3 (sz f)) ∧ Below W.heap.size W w') := fun b0 b1 b2 b3 hb W hW => spread_tri X Y f hX hY dX dY b0 b1 b2 b3 hb W hW
  have HLD : Hid (∀ W, Blk 25 W w.heap.size (pL X Y f) → (ldA 25 (.pointer (some ⟨w.heap.size, 0, none⟩))).run Tryd.prog W = .ok (.agg (pL X Y f).toArray) W) := fun W h => (pnt_ld hX hY h).1
  have hone := pL_one X Y f
  have S0 : Hid (Np w (pL X Y f) ((w.alloc (.cells (pL X Y f).toArray 25)).alloc (.cells Tryd.zeroCells25 25))) := ⟨(Blk.new w _ _ _ rfl rfl).alloc _, Blk.new _ PZ _ _ zc_pnt (by simp), (hC.alloc _).alloc _, below2 w _ _⟩
  have HC := hide hC
  have HXL := hide hX
  have HYL := hide hY
  obtain ⟨on, hon⟩ : ∃ on, onP X Y f = on := ⟨_, rfl⟩
  have HBX : Hid (on = true → gX (sx X f) (sz f) = X ∧ gX (ps 0 (sy Y f)) (sz f) = negY Y f ∧ decide (sz f = 0) = f) := fun h => ⟨back_x hX dX (hon.trans h), back_n (hon.trans h), sz_none f⟩
  unfold ngX ngY ngF onE
  rw [hon] at HSP ⊢
  obtain ⟨L, hL⟩ : ∃ L, pL X Y f = L := ⟨_, rfl⟩
  rw [hL] at HSP HLD hone S0 ⊢
  clear hX hY dX dY hC hon hL
  cases on with
  | false =>
    rw [if_neg (by decide), if_neg (by decide), if_neg (by decide)]
    have hbz : ∀ W : World, (bdA 25 #[]).run Tryd.prog W = .ok (.agg PZ.toArray) W := fun W => by kernel_rfl
    have HSZ : Hid (∀ W g, Blk 25 W g PZ → (stA 25 (.pointer (some ⟨g, 0, none⟩)) (.agg PZ.toArray)).run Tryd.prog W = .ok () (W.setCells g 0 PZ)) := fun W g h => stPt (f := false) (X := z32) (Y := z32) rfl rfl h rfl
    go_enter Tryd.func24, Tryd.ntmps24
    go_wp2_with fail
    refine (ops_any _ S0.out.cv).mono ?_
    rintro e w1 ⟨b0, b1, b2, b3, rfl, HN, LB⟩
    have HB := hide HN
    have hso := stO w1 b0 b1 b2 b3
    have S1 := hide ((S0.out.below LB).alloc (.cells (opL b0 b1 b2 b3).toArray 67))
    have O1 := hide (Blk.new (T := 67) w1 (opL b0 b1 b2 b3) _ _ rfl rfl)
    have HG1 : Hid (w.heap.size + 1 < w1.heap.size) := (S0.out.below LB).z.lt
    clear LB HN
    have HSPb : Hid (∀ W, Cv W → Calls Tryd.prog 29 #[.agg L.toArray, .agg (opL b0 b1 b2 b3).toArray] W fun e w' => ∃ x0 x1 x2 x3 y0 y1 y2 y3 z0 z1 z2 z3, e = .returned (.tuple #[.agg (T12 x0 x1 x2 x3 y0 y1 y2 y3 z0 z1 z2 z3).toArray, .bool false]) ∧ (false = true → Nw x0 x1 x2 x3 (sx X f) ∧ Nw y0 y1 y2 y3 (sy Y f) ∧ Nw z0 z1 z2 z3 (sz f)) ∧ Below W.heap.size W w') := fun W hW => HSP.out b0 b1 b2 b3 HB.out W hW
    have ldo := ldO O1.out
    have ldp := HLD.out _ S1.out.p
    have hone2 := opL_one b0 b1 b2 b3
    obtain ⟨f1, f2, f3, _⟩ := opcells O1.out
    have HOC : Hid (∀ W T g, Blk T W g (opL b0 b1 b2 b3) → (ldA 67 (.pointer (some ⟨g, 0, none⟩))).run Tryd.prog W = .ok (.agg (opL b0 b1 b2 b3).toArray) W ∧ W.cell? ⟨g, 1, none⟩ = some (.func (.func 61) #[] #[])) := fun W T g h => ⟨ldO h, (opcells h).2.1⟩
    have HGA : Hid (∀ x0 x1 x2 x3 y0 y1 y2 y3 z0 z1 z2 z3 x y z, Nw x0 x1 x2 x3 x → Nw y0 y1 y2 y3 y → Nw z0 z1 z2 z3 z → ∀ W, Cv W → Calls Tryd.prog 31 #[.agg (T12 x0 x1 x2 x3 y0 y1 y2 y3 z0 z1 z2 z3).toArray, .agg (opL b0 b1 b2 b3).toArray] W fun e w' => e = .returned (.agg (pL (gX x z) (gX y z) (decide (z = 0))).toArray) ∧ Below W.heap.size W w') := fun x0 x1 x2 x3 y0 y1 y2 y3 z0 z1 z2 z3 x y z hx hy hz W hW => gathered_any x0 x1 x2 x3 y0 y1 y2 y3 z0 z1 z2 z3 x y z hx hy hz b0 b1 b2 b3 W hW
    generalize opL b0 b1 b2 b3 = LO at *
    go_upto_region 2 with fail
    generalize w1.alloc (.cells LO.toArray 67) = V1 at S1 O1 ldo ldp f1 f2 f3 ⊢
    generalize w1.heap.size = g1 at O1 HG1 ldo f1 f2 f3 ⊢
    clear hso
    go_wp2_with fail
    refine (HSPb.out _ S1.out.cv).mono ?_
    rintro e w2 ⟨x0, x1, x2, x3, y0, y1, y2, y3, z0, z1, z2, z3, rfl, hN, LB⟩
    have HN := hide hN
    have hst2 := stTw w2 x0 x1 x2 x3 y0 y1 y2 y3 z0 z1 z2 z3
    have S2 := hide ((S1.out.below LB).alloc (.cells (T12 x0 x1 x2 x3 y0 y1 y2 y3 z0 z1 z2 z3).toArray 72))
    have O2 := hide ((O1.out.below LB).alloc (.cells (T12 x0 x1 x2 x3 y0 y1 y2 y3 z0 z1 z2 z3).toArray 72))
    have T2 := hide (Blk.new (T := 72) w2 (T12 x0 x1 x2 x3 y0 y1 y2 y3 z0 z1 z2 z3) _ _ rfl rfl)
    have HG2 : Hid (w.heap.size + 1 < w2.heap.size ∧ g1 < w2.heap.size) := ⟨(S1.out.below LB).z.lt, (O1.out.below LB).lt⟩
    clear LB hN ldo ldp f1 f2 f3
    have hsz := HSZ.out _ _ S2.out.z
    have HPZ : Hid (PZ = pL z32 z32 false) := rfl
    have HPL : Hid (PZ.length = 65) := rfl
    obtain ⟨LZ, hLZ⟩ : ∃ LZ, PZ = LZ := ⟨_, rfl⟩
    have S2z : Hid (Blk 25 (w2.alloc (.cells (T12 x0 x1 x2 x3 y0 y1 y2 y3 z0 z1 z2 z3).toArray 72)) (w.heap.size + 1) PZ) := S2.out.z
    have S2b := hide S2.out.bl
    rw [hLZ] at hsz hbz S2z HPZ HPL
    clear hLZ S2
    generalize T12 x0 x1 x2 x3 y0 y1 y2 y3 z0 z1 z2 z3 = LT at *
    go_wp2
    exact retPE (p := 2) (q := 3) (by kernel_rfl) rfl rfl S2z.out HPL.out HPZ.out rfl rfl S2b.out (by omega)
  | true =>
    rw [if_pos rfl, if_pos rfl, if_pos rfl]
    go_enter Tryd.func24, Tryd.ntmps24
    go_wp2_with fail
    refine (ops_any _ S0.out.cv).mono ?_
    rintro e w1 ⟨b0, b1, b2, b3, rfl, HN, LB⟩
    have HB := hide HN
    have hso := stO w1 b0 b1 b2 b3
    have S1 := hide ((S0.out.below LB).alloc (.cells (opL b0 b1 b2 b3).toArray 67))
    have O1 := hide (Blk.new (T := 67) w1 (opL b0 b1 b2 b3) _ _ rfl rfl)
    have HG1 : Hid (w.heap.size + 1 < w1.heap.size) := (S0.out.below LB).z.lt
    clear LB HN
    have HSPb : Hid (∀ W, Cv W → Calls Tryd.prog 29 #[.agg L.toArray, .agg (opL b0 b1 b2 b3).toArray] W fun e w' => ∃ x0 x1 x2 x3 y0 y1 y2 y3 z0 z1 z2 z3, e = .returned (.tuple #[.agg (T12 x0 x1 x2 x3 y0 y1 y2 y3 z0 z1 z2 z3).toArray, .bool true]) ∧ (True → Nw x0 x1 x2 x3 (sx X f) ∧ Nw y0 y1 y2 y3 (sy Y f) ∧ Nw z0 z1 z2 z3 (sz f)) ∧ Below W.heap.size W w') := fun W hW => HSP.out b0 b1 b2 b3 HB.out W hW
    have ldo := ldO O1.out
    have ldp := HLD.out _ S1.out.p
    have hone2 := opL_one b0 b1 b2 b3
    obtain ⟨f1, f2, f3, _⟩ := opcells O1.out
    have HOC : Hid (∀ W T g, Blk T W g (opL b0 b1 b2 b3) → (ldA 67 (.pointer (some ⟨g, 0, none⟩))).run Tryd.prog W = .ok (.agg (opL b0 b1 b2 b3).toArray) W ∧ W.cell? ⟨g, 1, none⟩ = some (.func (.func 61) #[] #[])) := fun W T g h => ⟨ldO h, (opcells h).2.1⟩
    have HGA : Hid (∀ x0 x1 x2 x3 y0 y1 y2 y3 z0 z1 z2 z3 x y z, Nw x0 x1 x2 x3 x → Nw y0 y1 y2 y3 y → Nw z0 z1 z2 z3 z → ∀ W, Cv W → Calls Tryd.prog 31 #[.agg (T12 x0 x1 x2 x3 y0 y1 y2 y3 z0 z1 z2 z3).toArray, .agg (opL b0 b1 b2 b3).toArray] W fun e w' => e = .returned (.agg (pL (gX x z) (gX y z) (decide (z = 0))).toArray) ∧ Below W.heap.size W w') := fun x0 x1 x2 x3 y0 y1 y2 y3 z0 z1 z2 z3 x y z hx hy hz W hW => gathered_any x0 x1 x2 x3 y0 y1 y2 y3 z0 z1 z2 z3 x y z hx hy hz b0 b1 b2 b3 W hW
    generalize opL b0 b1 b2 b3 = LO at *
    go_upto_region 2 with fail
    generalize w1.alloc (.cells LO.toArray 67) = V1 at S1 O1 ldo ldp f1 f2 f3 ⊢
    generalize w1.heap.size = g1 at O1 HG1 ldo f1 f2 f3 ⊢
    clear hso
    go_wp2_with fail
    refine (HSPb.out _ S1.out.cv).mono ?_
    rintro e w2 ⟨x0, x1, x2, x3, y0, y1, y2, y3, z0, z1, z2, z3, rfl, hN, LB⟩
    have HN := hide hN
    have hst2 := stTw w2 x0 x1 x2 x3 y0 y1 y2 y3 z0 z1 z2 z3
    have S2 := hide ((S1.out.below LB).alloc (.cells (T12 x0 x1 x2 x3 y0 y1 y2 y3 z0 z1 z2 z3).toArray 72))
    have O2 := hide ((O1.out.below LB).alloc (.cells (T12 x0 x1 x2 x3 y0 y1 y2 y3 z0 z1 z2 z3).toArray 72))
    have T2 := hide (Blk.new (T := 72) w2 (T12 x0 x1 x2 x3 y0 y1 y2 y3 z0 z1 z2 z3) _ _ rfl rfl)
    have HG2 : Hid (w.heap.size + 1 < w2.heap.size ∧ g1 < w2.heap.size) := ⟨(S1.out.below LB).z.lt, (O1.out.below LB).lt⟩
    clear LB hN ldo ldp f1 f2 f3
    obtain ⟨nx, ny, nz⟩ := HN.out trivial
    have NX := hide nx
    have NY := hide ny
    have NZ := hide nz
    have HMI : Hid (∀ W, Calls Tryd.prog 61 #[.agg #[.int .u64 0, .int .u64 0, .int .u64 0, .int .u64 0], .agg #[.int .u64 y0, .int .u64 y1, .int .u64 y2, .int .u64 y3]] W (Rn (ps 0 (sy Y f)) W)) := fun W => minus_any 0 0 0 0 y0 y1 y2 y3 _ _ nw_zero ny W
    clear nx ny nz HN
    obtain ⟨LT, hLT⟩ : ∃ LT, T12 x0 x1 x2 x3 y0 y1 y2 y3 z0 z1 z2 z3 = LT := ⟨_, rfl⟩
    have ly := (ldT T2.out).2.1
    have HLT := hide hLT
    rw [hLT] at hst2 S2 O2 T2 ly
    clear hLT
    rw [HLT.out]
    go_upto_region 5 with fail
    generalize w2.alloc (.cells LT.toArray 72) = V2 at S2 O2 T2 ly ⊢
    generalize w2.heap.size = g2 at T2 HG2 ly ⊢
    obtain ⟨lo2, cm2⟩ := HOC.out _ _ _ O2.out
    clear hst2
    go_wp2_with fail
    refine (HMI.out _).mono ?_
    rintro e w3 ⟨r0, r1, r2, r3, rfl, hR, LB⟩
    have HR := hide hR
    have hT3 := T2.out.below LB
    rw [← HLT.out] at hT3
    obtain ⟨hst3, hT4⟩ := stTy hT3 r0 r1 r2 r3
    have T4 := hide hT4
    have S4 := hide ((S2.out.below LB).sets HC.out HG2.out.1 4 (L4 r0 r1 r2 r3))
    have O4 := hide ((O2.out.below LB).other (k := g2) (o := 4) (vs := L4 r0 r1 r2 r3) (by have := HG2.out.2; omega))
    have lt4 := ldTt hT4
    clear LB hR hT3 hT4 ly lo2 cm2
    obtain ⟨LR, hLR⟩ : ∃ LR, T12 x0 x1 x2 x3 r0 r1 r2 r3 z0 z1 z2 z3 = LR := ⟨_, rfl⟩
    have HLR := hide hLR
    rw [hLR] at lt4 T4
    have HGB := hide (HGA.out x0 x1 x2 x3 r0 r1 r2 r3 z0 z1 z2 z3 _ _ _ NX.out HR.out NZ.out)
    rw [hLR] at HGB
    clear hLR
    go_upto_region 6 with fail
    generalize w3.setCells g2 4 (L4 r0 r1 r2 r3) = V4' at S4 O4 T4 lt4 ⊢
    obtain ⟨lo4, _⟩ := HOC.out _ _ _ O4.out
    clear hst3
    go_wp2_with fail
    refine (HGB.out _ S4.out.cv).mono ?_
    rintro e w5 ⟨rfl, LB⟩
    obtain ⟨e1, e2, e3⟩ := HBX.out trivial
    rw [e1, e2, e3]
    have S5 := hide (S4.out.below LB)
    have hst5 := stPt (f := f) HXL.out (negY_len HYL.out f) S5.out.z rfl
    obtain ⟨LQ, hLQ⟩ : ∃ LQ, pL X (negY Y f) f = LQ := ⟨_, rfl⟩
    have HLQ := hide hLQ
    rw [hLQ] at hst5 ⊢
    clear LB e1 e2 e3 hLQ lo4 lt4
    go_wp2
    rw [← HLQ.out]
    exact retPE (p := 2) (q := 3) (by kernel_rfl) rfl rfl S5.out.z rfl rfl HXL.out (negY_len HYL.out f) S5.out.bl (by omega)

end Go.Proofs.YtcijjmncilciiaaDoor
