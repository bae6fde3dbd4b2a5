/-
  curve.Field, Order, Base; the law's own, same.
  The document's On, its first part: a point's two numbers read.
-/
import Derived.Test.YtnabmdpgibnkaaaDoorZCrNew
namespace Go.Proofs.YtnabmdpgibnkaaaDoor
open Go.RowKit Go.IntWalk
theorem ld_rpt (v : Value) : Instr.loadAt 33 v = ldA 33 v := rfl
theorem st_rpt (v u : Value) : Instr.storeAt 33 v u = stA 33 v u := rfl
attribute [local go_sem ↓] ld_num st_num ld_pln st_pln ld_ops st_ops ld_pnt st_pnt ld_dig st_dig ld_tri st_tri eq_num ne_num eq_pnt ne_pnt bd_pnt ld_F st_F eq_F ld_a32 st_a32 ld_rpt st_rpt

theorem z32_lit : bV z32 = [.int .u8 0, .int .u8 0, .int .u8 0, .int .u8 0, .int .u8 0, .int .u8 0, .int .u8 0, .int .u8 0, .int .u8 0, .int .u8 0, .int .u8 0, .int .u8 0, .int .u8 0, .int .u8 0, .int .u8 0, .int .u8 0, .int .u8 0, .int .u8 0, .int .u8 0, .int .u8 0, .int .u8 0, .int .u8 0, .int .u8 0, .int .u8 0, .int .u8 0, .int .u8 0, .int .u8 0, .int .u8 0, .int .u8 0, .int .u8 0, .int .u8 0, .int .u8 0] := rfl

theorem stD {T : TypeId} {w : World} {g : Nat} {Z : List Value} {D : List Int} (hD : D.length = 32) (h : Blk T w g Z) (hZ : Z.length = 32) : (stA 23 (.pointer (some ⟨g, 0, none⟩)) (.agg (bV D).toArray)).run Tryd.prog w = .ok () (w.setCells g 0 (bV D)) :=
  stA_all (by rw [bV_len, hD]; exact info_dig) h (by rw [bV_len, hD, hZ]) (ints_one _ _)
theorem retD {fn : Func} {p : Tmp} (h : fn.results = #[.cell p 23]) {tmps : Array Value} {w w1 : World} {T : TypeId} {g : Nat} {Z : List Value} {D : List Int} (hp : tmps.getD p undef = .pointer (some ⟨g, 0, none⟩))
    (HZ : Blk T w1 g Z) (hZ : Z.length = 32) (hD : D.length = 32) (LB : Below w.heap.size w w1) (hg : w.heap.size ≤ g) :
    bodyPost Tryd.prog fn (fun e w' => e = .returned (.agg (bV D).toArray) ∧ Below w.heap.size w w') .ret { tmps := tmps, defers := [] } (w1.setCells g 0 (bV D)) := by
  refine bodyPost_ret (v := .agg (bV D).toArray) ?_ rfl ⟨rfl, below_sets LB hg LB.size _ _⟩
  exact res_one (T := T) (p := p) (ty := 23) (X := bV D) h _ _ hp Tryd.underlying23 rfl (by rw [bV_len, hD]; exact info_dig) (blk_all HZ (by rw [hZ, bV_len, hD]))

/-- The package's other constants. -/
structure Cn (w : World) : Prop where
  od : w.rangeAt 2 0 (L4 17562291160714782033 13611842547513532036 18446744073709551615 18446744069414584320)
  bx : w.rangeAt 0 0 (L4 17627433388654248598 8575836109218198432 17923454489921339634 7716867327612699207)
  by_ : w.rangeAt 1 0 (L4 14678990851816772085 3156516839386865358 10297457778147434006 5756518291402817435)
theorem Cn.below {w w' : World} (h : Cn w) (hb : Below w.heap.size w w') : Cn w' := ⟨range_carry h.od hb, range_carry h.bx hb, range_carry h.by_ hb⟩
theorem Cn.alloc {w : World} (h : Cn w) (o : Obj) : Cn (w.alloc o) := h.below (below1 w o)

theorem i64c {x : Int} (h : 0 ≤ x) (h' : x < 18446744073709551616) : is64 x := ⟨h, h'⟩
theorem pp_v : V4 18446744073709551615 4294967295 0 18446744069414584321 = PP := by decide
theorem nn_v : V4 17562291160714782033 13611842547513532036 18446744073709551615 18446744069414584320 = NN := by decide

set_option maxRecDepth 100000 in
theorem order_any (w : World) (hC : Cn w) : Calls Tryd.prog 21 #[] w fun e w' => e = .returned (.agg (bV (be NN)).toArray) ∧ Below w.heap.size w w' := by
  have HT : Hid (∀ W, Calls Tryd.prog 40 #[.agg #[.int .u64 17562291160714782033, .int .u64 13611842547513532036, .int .u64 18446744073709551615, .int .u64 18446744069414584320]] W fun e w' => e = .returned (.agg (bV (be NN)).toArray) ∧ Below W.heap.size W w') := fun W => toDigest_any _ _ _ _ NN ⟨by decide, by decide⟩ ⟨by decide, by decide⟩ ⟨by decide, by decide⟩ ⟨by decide, by decide⟩ nn_v W
  have hl := be_len NN
  generalize be NN = D at HT hl ⊢
  have K0 := hide (Blk.new (T := 23) w (bV z32) _ _ rfl rfl)
  have hgl : (ldA 97 (.pointer (some ⟨2, 0, none⟩))).run Tryd.prog (w.alloc (.cells (bV z32).toArray 23)) = .ok (.agg #[.int .u64 17562291160714782033, .int .u64 13611842547513532036, .int .u64 18446744073709551615, .int .u64 18446744069414584320]) (w.alloc (.cells (bV z32).toArray 23)) := ldA_range Tryd.underlying97 rfl (by kernel_rfl) (hC.alloc _).od
  rw [z32_lit] at hgl
  have HL := hide hl
  clear hl hC
  go_enter Tryd.func21, Tryd.ntmps21
  go_wp2_with fail
  refine (HT.out _).mono ?_
  rintro e w1 ⟨rfl, LB⟩
  have K1 := hide (K0.out.below LB)
  have U1 := hide (below_then (below1 w _) LB)
  have hst := stD HL.out K1.out rfl
  clear LB
  go_wp2
  exact retD (p := 0) (by kernel_rfl) rfl K1.out rfl HL.out U1.out (by omega)

end Go.Proofs.YtnabmdpgibnkaaaDoor

namespace Go.Proofs.YtnabmdpgibnkaaaDoor
open Go.RowKit Go.IntWalk
theorem bd_rpt (ps : Array (Nat × Value)) : Instr.build 33 ps = bdA 33 ps := rfl
theorem bdr_far (w : World) : (bdA 33 #[(2, .bool true)]).run Tryd.prog w = .ok (.agg (pL z32 z32 true).toArray) w := by kernel_rfl
attribute [local go_sem ↓] ld_F st_F eq_F ld_a32 st_a32 ld_rpt st_rpt eq_rpt bd_rpt
theorem info_rpt : (Tryd.prog.info? 33).map (·.size) = some 65 := by kernel_rfl

theorem rpt_ld {T : TypeId} {w : World} {g : Nat} {X Y : List Int} {f : Bool} (hX : X.length = 32) (hY : Y.length = 32) (h : Blk T w g (pL X Y f)) :
    (ldA 33 (.pointer (some ⟨g, 0, none⟩))).run Tryd.prog w = .ok (.agg (pL X Y f).toArray) w ∧ (ldA 22 (.pointer (some ⟨g, 0, none⟩))).run Tryd.prog w = .ok (.agg (bV X).toArray) w ∧ (ldA 22 (.pointer (some ⟨g, 32, none⟩))).run Tryd.prog w = .ok (.agg (bV Y).toArray) w := by
  refine ⟨?_, ?_, ?_⟩
  · exact ldA_all Tryd.underlying33 rfl (by rw [pL_len hX hY]; exact info_rpt) h
  · refine ldA_mid (T := T) (A := []) (X := bV X) (C := bV Y ++ [.bool f]) Tryd.underlying22 rfl (by rw [bV_len, hX]; exact info_a32) ?_ rfl
    rw [List.nil_append, ← List.append_assoc]
    exact h
  · exact ldA_mid (A := bV X) (X := bV Y) (C := [.bool f]) Tryd.underlying22 rfl (by rw [bV_len, hY]; exact info_a32) h (by rw [bV_len, hX])

/-- What stays while the document's On runs. -/
structure Kr (w : World) (L : List Value) (W : World) : Prop where
  blk : Blk 33 W w.heap.size L
  bl : Below w.heap.size w W
theorem Kr.below {w W V : World} {L : List Value} (h : Kr w L W) (b : Below W.heap.size W V) : Kr w L V := ⟨h.blk.below b, below_then h.bl b⟩
theorem Kr.alloc {w W : World} {L : List Value} (h : Kr w L W) (o : Obj) : Kr w L (W.alloc o) := h.below (below1 W o)
theorem Kr.drew {w W : World} {L : List Value} (h : Kr w L W) : Kr w L W.drew := ⟨h.blk.heap rfl, Drew.below (by exact ⟨rfl, rfl, rfl, rfl⟩) h.bl⟩
theorem Kr.sets {w W : World} {L : List Value} (h : Kr w L W) {k : Nat} (hk : w.heap.size < k) (o : Nat) (vs : List Value) : Kr w L (W.setCells k o vs) := ⟨h.blk.other (by omega), below_sets h.bl (by omega) h.bl.size _ _⟩

/-- Two variables more. -/
structure Kz (w : World) (L : List Value) (A B : List Int) (W : World) (g3 g4 : Nat) : Prop where
  kr : Kr w L W
  b3 : Blk 52 W g3 (fV A)
  b4 : Blk 52 W g4 (fV B)
  n3 : w.heap.size < g3
  n4 : w.heap.size < g4
  n34 : g3 ≠ g4

theorem Kz.set3 {w W : World} {L : List Value} {A B R : List Int} {g3 g4 : Nat} (h : Kz w L A B W g3 g4) (hl : A.length = R.length) : Kz w L R B (W.setCells g3 0 (fV R)) g3 g4 := ⟨h.kr.sets h.n3 _ _, blk_all h.b3 (by rw [fV_len, fV_len, hl]), h.b4.other (Ne.symm h.n34), h.n3, h.n4, h.n34⟩
theorem Kz.set4 {w W : World} {L : List Value} {A B R : List Int} {g3 g4 : Nat} (h : Kz w L A B W g3 g4) (hl : B.length = R.length) : Kz w L A R (W.setCells g4 0 (fV R)) g3 g4 := ⟨h.kr.sets h.n4 _ _, h.b3.other h.n34, blk_all h.b4 (by rw [fV_len, fV_len, hl]), h.n3, h.n4, h.n34⟩
theorem Kz.below {w W V : World} {L : List Value} {A B : List Int} {g3 g4 : Nat} (h : Kz w L A B W g3 g4) (b : Below W.heap.size W V) : Kz w L A B V g3 g4 := ⟨h.kr.below b, h.b3.below b, h.b4.below b, h.n3, h.n4, h.n34⟩
theorem Kz.drew {w W : World} {L : List Value} {A B : List Int} {g3 g4 : Nat} (h : Kz w L A B W g3 g4) : Kz w L A B W.drew g3 g4 := ⟨h.kr.drew, h.b3.heap rfl, h.b4.heap rfl, h.n3, h.n4, h.n34⟩

/-- The words of a number. -/
def cw (x : Int) : List Int := w8 (be x) 32
theorem fw_cw {x : Int} (h0 : 0 ≤ x) (h1 : x < RR) : Fw (cw x) x := ⟨rfl, w8_dg _ (be_dg x) 32 (by omega), by unfold cw; rw [w8_dn _ (be_len x), dn_be h0 h1]⟩
theorem fw_md (x : Int) : Fw (cw (x % PP)) (x % PP) := fw_cw (md_bd x).1 (Int.lt_trans (md_bd x).2 PP_RR)
theorem fw_mm (x y : Int) : Fw (cw (mm x y)) (mm x y) := fw_md _
theorem fw_pa (x y : Int) : Fw (cw (pa x y)) (pa x y) := fw_md _
theorem fw_ps (x y : Int) : Fw (cw (ps x y)) (ps x y) := fw_md _

/-- The point and the field stay. -/
structure Kv (w : World) (L : List Value) (gf : Nat) (W : World) : Prop where
  kr : Kr w L W
  fd : Fd W gf oneW sqW 1
theorem Kv.below {w W V : World} {L : List Value} {gf : Nat} (h : Kv w L gf W) (b : Below W.heap.size W V) : Kv w L gf V := ⟨h.kr.below b, h.fd.below b⟩
theorem Kv.drew {w W : World} {L : List Value} {gf : Nat} (h : Kv w L gf W) : Kv w L gf W.drew := ⟨h.kr.drew, h.fd.heap rfl⟩
theorem Kv.alloc {w W : World} {L : List Value} {gf : Nat} (h : Kv w L gf W) (o : Obj) : Kv w L gf (W.alloc o) := h.below (below1 W o)
theorem Kv.sets {w W : World} {L : List Value} {gf : Nat} (h : Kv w L gf W) {k : Nat} (hk : w.heap.size < k) (hn : gf ≠ k) (o : Nat) (vs : List Value) : Kv w L gf (W.setCells k o vs) := ⟨h.kr.sets hk o vs, ⟨h.fd.blk.other hn, h.fd.lo, h.fd.ls⟩⟩

/-- The point, the field and the two numbers stay. -/
structure Kw (w : World) (L : List Value) (gf g3 g4 : Nat) (A B : List Int) (W : World) : Prop where
  kv : Kv w L gf W
  b3 : Blk 52 W g3 (fV A)
  b4 : Blk 52 W g4 (fV B)
theorem Kw.below {w W V : World} {L : List Value} {gf g3 g4 : Nat} {A B : List Int} (h : Kw w L gf g3 g4 A B W) (b : Below W.heap.size W V) : Kw w L gf g3 g4 A B V := ⟨h.kv.below b, h.b3.below b, h.b4.below b⟩
theorem Kw.drew {w W : World} {L : List Value} {gf g3 g4 : Nat} {A B : List Int} (h : Kw w L gf g3 g4 A B W) : Kw w L gf g3 g4 A B W.drew := ⟨h.kv.drew, h.b3.heap rfl, h.b4.heap rfl⟩
theorem Kw.alloc {w W : World} {L : List Value} {gf g3 g4 : Nat} {A B : List Int} (h : Kw w L gf g3 g4 A B W) (o : Obj) : Kw w L gf g3 g4 A B (W.alloc o) := h.below (below1 W o)
/-- A variable behind all these. -/
structure N6 (w : World) (gf g3 g4 g6 : Nat) : Prop where
  a : w.heap.size < g6
  b : g3 < g6
  c : g4 < g6
  d : gf < g6
theorem Kw.n6 {w W : World} {L : List Value} {gf g3 g4 : Nat} {A B : List Int} (h : Kw w L gf g3 g4 A B W) : N6 w gf g3 g4 W.heap.size := ⟨h.kv.kr.blk.lt, h.b3.lt, h.b4.lt, h.kv.fd.blk.lt⟩
theorem Kw.sets {w W : World} {L : List Value} {gf g3 g4 g6 : Nat} {A B : List Int} (h : Kw w L gf g3 g4 A B W) (n : N6 w gf g3 g4 g6) (o : Nat) (vs : List Value) : Kw w L gf g3 g4 A B (W.setCells g6 o vs) :=
  ⟨h.kv.sets n.a (by have := n.d; omega) o vs, h.b3.other (by have := n.b; omega), h.b4.other (by have := n.c; omega)⟩
theorem pa_comm (x y : Int) : pa x y = pa y x := by unfold pa; rw [Int.add_comm]
theorem mk_restN {K : World → Nat → Prop} {P : World → Nat → Prop} {G : Prop} (h : Hid (∀ W x, K W x → P W x) → G) (k : ∀ W x, K W x → P W x) : G := h k

theorem mk_restW {K : World → Prop} {P : World → Prop} {G : Prop} (h : Hid (∀ W, K W → P W) → G) (k : ∀ W, K W → P W) : G := h k
theorem mk_rest2 {K : World → Nat → Nat → Prop} {P : World → Nat → Nat → Prop} {G : Prop} (h : Hid (∀ W x y, K W x y → P W x y) → G) (k : ∀ W x y, K W x y → P W x y) : G := h k

end Go.Proofs.YtnabmdpgibnkaaaDoor
