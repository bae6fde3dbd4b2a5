/-
  The document's numbers, each by its one row of eight words; what its small calls answer, told so.
  The document's points and 32 bytes, told for the walks of its at and point.
-/
import Derived.Test.YtnabmdpgibnkaabDoorYCrOn
import Derived.Test.YtnabmdpgibnkaabDoorYBxMToCvN
import Derived.Test.YtnabmdpgibnkaabDoorYCrFrom
import Derived.Test.YtnabmdpgibnkaabDoorYCrDecToCvThe
namespace Go.Proofs.YtnabmdpgibnkaabDoor
open Go.RowKit Go.IntWalk
theorem ld_J (v : Value) : Instr.loadAt 110 v = ldA 110 v := rfl
theorem st_J (v u : Value) : Instr.storeAt 110 v u = stA 110 v u := rfl
theorem bd_J (ps : Array (Nat × Value)) : Instr.build 110 ps = bdA 110 ps := rfl
theorem bd_F (ps : Array (Nat × Value)) : Instr.build 98 ps = bdA 98 ps := rfl

/-- Boxes that are new. -/
def zF : List Value := [.int .u64 0, .int .u64 0, .int .u64 0, .int .u64 0, .int .u64 0, .int .u64 0, .int .u64 0, .int .u64 0]
def z24 : List Value := [.int .u64 0, .int .u64 0, .int .u64 0, .int .u64 0, .int .u64 0, .int .u64 0, .int .u64 0, .int .u64 0, .int .u64 0, .int .u64 0, .int .u64 0, .int .u64 0, .int .u64 0, .int .u64 0, .int .u64 0, .int .u64 0, .int .u64 0, .int .u64 0, .int .u64 0, .int .u64 0, .int .u64 0, .int .u64 0, .int .u64 0, .int .u64 0]
/-- A number's eight cells. -/
def fL (x : Int) : List Value := fV (cw x)
theorem fL_len (x : Int) : (fL x).length = 8 := rfl
theorem fL_one (x : Int) : ∀ v ∈ fL x, v.oneCell' = true := ints_one _ _
theorem fw_nb {x : Int} (h : Nb x) : Fw (cw x) x := fw_cw h.1 (Int.lt_trans h.2 PP_RR)
theorem fw_fL {R : List Int} {x : Int} (h : Fw R x) (b : Nb x) : fV R = fL x := by
  have : R = cw x := (h.inj (fw_nb b)).2 rfl
  rw [this]
  rfl
theorem cw_zero : cw 0 = z8 := by decide +kernel
theorem fL_zero : fL 0 = [.int .u64 0, .int .u64 0, .int .u64 0, .int .u64 0, .int .u64 0, .int .u64 0, .int .u64 0, .int .u64 0] := by unfold fL; rw [cw_zero]; rfl
theorem one_nb : Nb ONE := by unfold Nb; decide
theorem sq_nb : Nb SQ := by unfold Nb; decide
theorem zero_nb : Nb 0 := by unfold Nb; decide
theorem oneW_fL : fV oneW = fL ONE := fw_fL fw_oneW one_nb
theorem sqW_fL : fV sqW = fL SQ := fw_fL fw_sqW sq_nb
theorem ldf {T : TypeId} {w : World} {g : Nat} {x : Int} (h : Blk T w g (fL x)) : (ldA 98 (.pointer (some ⟨g, 0, none⟩))).run Tryd.prog w = .ok (.agg (fL x).toArray) w :=
  ldA_all Tryd.underlying98 rfl (by kernel_rfl) h
theorem stf {T : TypeId} {w : World} {g : Nat} {Z : List Value} (h : Blk T w g Z) (hZ : Z.length = 8) (x : Int) : (stA 98 (.pointer (some ⟨g, 0, none⟩)) (.agg (fL x).toArray)).run Tryd.prog w = .ok () (w.setCells g 0 (fL x)) :=
  stA_all (vs := fL x) (by kernel_rfl) h hZ (fL_one x)
theorem stfn (w : World) (x : Int) : (stA 98 (.pointer (some ⟨w.heap.size, 0, none⟩)) (.agg (fL x).toArray)).run Tryd.prog (w.alloc (.cells #[.int .u64 0, .int .u64 0, .int .u64 0, .int .u64 0, .int .u64 0, .int .u64 0, .int .u64 0, .int .u64 0] 98)) = .ok () (w.alloc (.cells (fL x).toArray 98)) :=
  run_storeAt_new (P := Tryd.prog) w 98 _ (fL x).toArray (by kernel_rfl) rfl (all_oneCell_toArray (fL_one x))

/-- Three of them: a point by x / z z, y / z z z. -/
def j3 (x y z : Int) : List Value := fL x ++ fL y ++ fL z
theorem j3_one (x y z : Int) : ∀ v ∈ j3 x y z, v.oneCell' = true := by
  intro v hv
  rcases List.mem_append.1 hv with hv | hv
  · rcases List.mem_append.1 hv with hv | hv
    · exact fL_one x v hv
    · exact fL_one y v hv
  · exact fL_one z v hv
theorem ldj3 {T : TypeId} {w : World} {g : Nat} {x y z : Int} (h : Blk T w g (j3 x y z)) :
    (ldA 98 (.pointer (some ⟨g, 0, none⟩))).run Tryd.prog w = .ok (.agg (fL x).toArray) w ∧ (ldA 98 (.pointer (some ⟨g, 8, none⟩))).run Tryd.prog w = .ok (.agg (fL y).toArray) w ∧ (ldA 98 (.pointer (some ⟨g, 16, none⟩))).run Tryd.prog w = .ok (.agg (fL z).toArray) w :=
  ⟨ldA_mid (A := []) (X := fL x) (C := fL y ++ fL z) Tryd.underlying98 rfl (by kernel_rfl) (by rw [List.nil_append, ← List.append_assoc]; exact h) rfl, ldA_mid (A := fL x) (X := fL y) (C := fL z) Tryd.underlying98 rfl (by kernel_rfl) h rfl, ldA_mid (A := fL x ++ fL y) (X := fL z) (C := []) Tryd.underlying98 rfl (by kernel_rfl) (by rw [List.append_nil]; exact h) rfl⟩
theorem ldj {T : TypeId} {w : World} {g : Nat} {x y z : Int} (h : Blk T w g (j3 x y z)) : (ldA 110 (.pointer (some ⟨g, 0, none⟩))).run Tryd.prog w = .ok (.agg (j3 x y z).toArray) w :=
  ldA_all Tryd.underlying110 rfl (by kernel_rfl) h
theorem stj {T : TypeId} {w : World} {g : Nat} {Z : List Value} (h : Blk T w g Z) (hZ : Z.length = 24) (x y z : Int) : (stA 110 (.pointer (some ⟨g, 0, none⟩)) (.agg (j3 x y z).toArray)).run Tryd.prog w = .ok () (w.setCells g 0 (j3 x y z)) :=
  stA_all (vs := j3 x y z) (by kernel_rfl) h hZ (j3_one x y z)

theorem bdj3 (x y z : Int) (w : World) : (bdA 110 #[(0, .agg (fL x).toArray), (1, .agg (fL y).toArray), (2, .agg (fL z).toArray)]).run Tryd.prog w = .ok (.agg (j3 x y z).toArray) w := by kernel_rfl
theorem bdf0 (w : World) : (bdA 98 #[]).run Tryd.prog w = .ok (.agg (fL 0).toArray) w := by rw [fL_zero]; kernel_rfl

/-- The field lies at gf. -/
def FF (w : World) (gf : Nat) : Prop := Fd w gf oneW sqW 1
theorem FF.at {w W : World} {gf : Nat} (h : FF w gf) (b : Below w.heap.size w W) : FF W gf := Fd.below h b
theorem FF.ld1 {w : World} {gf : Nat} (h : FF w gf) : (ldA 98 (.pointer (some ⟨gf, 8, none⟩))).run Tryd.prog w = .ok (.agg (fL ONE).toArray) w := by rw [← oneW_fL]; exact Fd.ldOne h
theorem FF.ldS {w : World} {gf : Nat} (h : FF w gf) : (ldA 98 (.pointer (some ⟨gf, 16, none⟩))).run Tryd.prog w = .ok (.agg (fL SQ).toArray) w := by rw [← sqW_fL]; exact Fd.ldSq h

theorem rmulN {gf : Nat} {x y : Int} (hx : Nb x) (hy : Nb y) (w : World) (hF : FF w gf) : Calls Tryd.prog 50 #[.pointer (some ⟨gf, 0, none⟩), .agg (fL x).toArray, .agg (fL y).toArray] w (Ans (.agg (fL (mm x y)).toArray) w) := by
  refine (rmul_any gf _ _ x y (fw_nb hx) (fw_nb hy) hx.2 w (Fd.fm hF) (Fd.low hF)).mono ?_
  rintro e w1 ⟨R, rfl, hR, LB⟩
  rw [fw_fL hR (mm_bd _ _)]
  exact ⟨rfl, LB⟩
theorem raddN {gf : Nat} {x y : Int} (hx : Nb x) (hy : Nb y) (w : World) (hF : FF w gf) : Calls Tryd.prog 52 #[.pointer (some ⟨gf, 0, none⟩), .agg (fL x).toArray, .agg (fL y).toArray] w (Ans (.agg (fL (pa x y)).toArray) w) := by
  refine (radd_any gf _ _ x y (fw_nb hx) (fw_nb hy) hx.2 hy.2 w (Fd.fm hF)).mono ?_
  rintro e w1 ⟨R, rfl, hR, LB⟩
  rw [fw_fL hR (pa_bd _ _)]
  exact ⟨rfl, LB⟩
theorem rsubN {gf : Nat} {x y : Int} (hx : Nb x) (hy : Nb y) (w : World) (hF : FF w gf) : Calls Tryd.prog 51 #[.pointer (some ⟨gf, 0, none⟩), .agg (fL x).toArray, .agg (fL y).toArray] w (Ans (.agg (fL (ps x y)).toArray) w) := by
  refine (rsub_any gf _ _ x y (fw_nb hx) (fw_nb hy) hx.2 hy.2 w (Fd.fm hF)).mono ?_
  rintro e w1 ⟨R, rfl, hR, LB⟩
  rw [fw_fL hR (ps_bd _ _)]
  exact ⟨rfl, LB⟩
theorem rzeroN {x : Int} (hx : Nb x) (w : World) : Calls Tryd.prog 89 #[.agg (fL x).toArray] w (Ans (.bool (decide (x = 0))) w) :=
  rzero_any _ x (fw_nb hx) w

end Go.Proofs.YtnabmdpgibnkaabDoor

namespace Go.Proofs.YtnabmdpgibnkaabDoor
open Go.RowKit Go.IntWalk

theorem rpt_inf {T : TypeId} {w : World} {g : Nat} {X Y : List Int} {f : Bool} (hX : X.length = 32) (hY : Y.length = 32) (h : Blk T w g (pL X Y f)) : w.cell? ⟨g, 64, none⟩ = some (.bool f) := by
  rw [h.cell]
  simp [pL, hX, hY]
theorem rfromN {X : List Int} (hX : X.length = 32) (dX : Dg 256 X) (h : Nb (dn X)) (w : World) : Calls Tryd.prog 47 #[.agg (bV X).toArray] w (Ans (.agg (fL (dn X)).toArray) w) := by
  refine (rfrom_any X dX hX w).mono ?_
  rintro e w1 ⟨R, rfl, hR, LB⟩
  rw [fw_fL hR h]
  exact ⟨rfl, LB⟩
theorem rtoN {x : Int} (h : Nb x) (w : World) : Calls Tryd.prog 43 #[.agg (fL x).toArray] w (Ans (.agg (bV (be x)).toArray) w) := rto_any _ x (fw_nb h) w
theorem stR {T : TypeId} {w : World} {g : Nat} {Z : List Value} {X Y : List Int} {f : Bool} (h : Blk T w g Z) (hZ : Z.length = 65) (hX : X.length = 32) (hY : Y.length = 32) : (stA 41 (.pointer (some ⟨g, 0, none⟩)) (.agg (pL X Y f).toArray)).run Tryd.prog w = .ok () (w.setCells g 0 (pL X Y f)) :=
  stA_all (by rw [pL_len hX hY]; exact info_rpt) h (by rw [hZ, pL_len hX hY]) (pL_one X Y f)
theorem nb_1 : Nb 1 := by unfold Nb; decide
theorem cw_1 : cw 1 = [1, 0, 0, 0, 0, 0, 0, 0] := by decide +kernel
theorem bdf1 (w : World) : (bdA 98 #[(0, .int .u64 1)]).run Tryd.prog w = .ok (.agg (fL 1).toArray) w := by unfold fL; rw [cw_1]; kernel_rfl

end Go.Proofs.YtnabmdpgibnkaabDoor
