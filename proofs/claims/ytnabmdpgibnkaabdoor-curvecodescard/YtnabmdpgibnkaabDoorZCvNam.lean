/-
  curve.Field, Order, Base; the law's own, same.
-/
import Derived.Test.YtnabmdpgibnkaabDoorZCrNew
namespace Go.Proofs.YtnabmdpgibnkaabDoor
open Go.RowKit Go.IntWalk
theorem ld_rpt (v : Value) : Instr.loadAt 41 v = ldA 41 v := rfl
theorem st_rpt (v u : Value) : Instr.storeAt 41 v u = stA 41 v u := rfl
attribute [local go_sem ↓] ld_num st_num ld_pln st_pln ld_ops st_ops ld_pnt st_pnt ld_dig st_dig ld_tri st_tri eq_num ne_num eq_pnt ne_pnt bd_pnt ld_F st_F eq_F ld_a32 st_a32 ld_rpt st_rpt

theorem z32_lit : bV z32 = [.int .u8 0, .int .u8 0, .int .u8 0, .int .u8 0, .int .u8 0, .int .u8 0, .int .u8 0, .int .u8 0, .int .u8 0, .int .u8 0, .int .u8 0, .int .u8 0, .int .u8 0, .int .u8 0, .int .u8 0, .int .u8 0, .int .u8 0, .int .u8 0, .int .u8 0, .int .u8 0, .int .u8 0, .int .u8 0, .int .u8 0, .int .u8 0, .int .u8 0, .int .u8 0, .int .u8 0, .int .u8 0, .int .u8 0, .int .u8 0, .int .u8 0, .int .u8 0] := rfl

theorem stD {T : TypeId} {w : World} {g : Nat} {Z : List Value} {D : List Int} (hD : D.length = 32) (h : Blk T w g Z) (hZ : Z.length = 32) : (stA 24 (.pointer (some ⟨g, 0, none⟩)) (.agg (bV D).toArray)).run Tryd.prog w = .ok () (w.setCells g 0 (bV D)) :=
  stA_all (by rw [bV_len, hD]; exact info_dig) h (by rw [bV_len, hD, hZ]) (ints_one _ _)
theorem retD {fn : Func} {p : Tmp} (h : fn.results = #[.cell p 24]) {tmps : Array Value} {w w1 : World} {T : TypeId} {g : Nat} {Z : List Value} {D : List Int} (hp : tmps.getD p undef = .pointer (some ⟨g, 0, none⟩))
    (HZ : Blk T w1 g Z) (hZ : Z.length = 32) (hD : D.length = 32) (LB : Below w.heap.size w w1) (hg : w.heap.size ≤ g) :
    bodyPost Tryd.prog fn (fun e w' => e = .returned (.agg (bV D).toArray) ∧ Below w.heap.size w w') .ret { tmps := tmps, defers := [] } (w1.setCells g 0 (bV D)) := by
  refine bodyPost_ret (v := .agg (bV D).toArray) ?_ rfl ⟨rfl, below_sets LB hg LB.size _ _⟩
  exact res_one (T := T) (p := p) (ty := 24) (X := bV D) h _ _ hp Tryd.underlying24 rfl (by rw [bV_len, hD]; exact info_dig) (blk_all HZ (by rw [hZ, bV_len, hD]))

/-- The package's other constants. -/
structure Cn (w : World) : Prop where
  od : w.rangeAt 2 0 (L4 17562291160714782033 13611842547513532036 18446744073709551615 18446744069414584320)
  bx : w.rangeAt 0 0 (L4 17627433388654248598 8575836109218198432 17923454489921339634 7716867327612699207)
  by_ : w.rangeAt 1 0 (L4 14678990851816772085 3156516839386865358 10297457778147434006 5756518291402817435)
theorem Cn.below {w w' : World} (h : Cn w) (hb : Below w.heap.size w w') : Cn w' := ⟨range_carry h.od hb, range_carry h.bx hb, range_carry h.by_ hb⟩
theorem Cn.alloc {w : World} (h : Cn w) (o : Obj) : Cn (w.alloc o) := h.below (below1 w o)

theorem i64c {x : Int} (h : 0 ≤ x) (h' : x < 18446744073709551616) : is64 x := ⟨h, h'⟩
theorem pp_v : V4 18446744073709551615 4294967295 0 18446744069414584321 = PP := by decide
theorem nn_v : V4 17562291160714782033 13611842547513532036 18446744073709551615 18446744069414584320 = NN := by decide

set_option maxRecDepth 100000 in
theorem field_any (w : World) : Calls Tryd.prog 42 #[] w fun e w' => e = .returned (.agg (bV (be PP)).toArray) ∧ Below w.heap.size w w' := by
  have HT : Hid (∀ W, Calls Tryd.prog 60 #[.agg #[.int .u64 18446744073709551615, .int .u64 4294967295, .int .u64 0, .int .u64 18446744069414584321]] W fun e w' => e = .returned (.agg (bV (be PP)).toArray) ∧ Below W.heap.size W w') := fun W => toDigest_any _ _ _ _ PP ⟨by decide, by decide⟩ ⟨by decide, by decide⟩ ⟨by decide, by decide⟩ ⟨by decide, by decide⟩ pp_v W
  have hl := be_len PP
  generalize be PP = D at HT hl ⊢
  have K0 := hide (Blk.new (T := 24) w (bV z32) _ _ rfl rfl)
  have HL := hide hl
  clear hl
  go_enter Tryd.func42, Tryd.ntmps42
  go_wp2_with fail
  refine (HT.out _).mono ?_
  rintro e w1 ⟨rfl, LB⟩
  have K1 := hide (K0.out.below LB)
  have U1 := hide (below_then (below1 w _) LB)
  have hst := stD HL.out K1.out rfl
  clear LB
  go_wp2
  exact retD (p := 0) (by kernel_rfl) rfl K1.out rfl HL.out U1.out (by omega)

set_option maxRecDepth 100000 in
theorem order_any (w : World) (hC : Cn w) : Calls Tryd.prog 22 #[] w fun e w' => e = .returned (.agg (bV (be NN)).toArray) ∧ Below w.heap.size w w' := by
  have HT : Hid (∀ W, Calls Tryd.prog 60 #[.agg #[.int .u64 17562291160714782033, .int .u64 13611842547513532036, .int .u64 18446744073709551615, .int .u64 18446744069414584320]] W fun e w' => e = .returned (.agg (bV (be NN)).toArray) ∧ Below W.heap.size W w') := fun W => toDigest_any _ _ _ _ NN ⟨by decide, by decide⟩ ⟨by decide, by decide⟩ ⟨by decide, by decide⟩ ⟨by decide, by decide⟩ nn_v W
  have hl := be_len NN
  generalize be NN = D at HT hl ⊢
  have K0 := hide (Blk.new (T := 24) w (bV z32) _ _ rfl rfl)
  have hgl : (ldA 117 (.pointer (some ⟨2, 0, none⟩))).run Tryd.prog (w.alloc (.cells (bV z32).toArray 24)) = .ok (.agg #[.int .u64 17562291160714782033, .int .u64 13611842547513532036, .int .u64 18446744073709551615, .int .u64 18446744069414584320]) (w.alloc (.cells (bV z32).toArray 24)) := ldA_range Tryd.underlying117 rfl (by kernel_rfl) (hC.alloc _).od
  rw [z32_lit] at hgl
  have HL := hide hl
  clear hl hC
  go_enter Tryd.func22, Tryd.ntmps22
  go_wp2_with fail
  refine (HT.out _).mono ?_
  rintro e w1 ⟨rfl, LB⟩
  have K1 := hide (K0.out.below LB)
  have U1 := hide (below_then (below1 w _) LB)
  have hst := stD HL.out K1.out rfl
  clear LB
  go_wp2
  exact retD (p := 0) (by kernel_rfl) rfl K1.out rfl HL.out U1.out (by omega)

end Go.Proofs.YtnabmdpgibnkaabDoor
