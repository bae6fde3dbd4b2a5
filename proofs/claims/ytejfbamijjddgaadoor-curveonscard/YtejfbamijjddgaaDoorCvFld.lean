/-
  curve.fieldOperations, thrice, products, cubic.
-/
import Derived.Test.YtejfbamijjddgaaDoorCvLift
import Derived.Deep.WholeRow
namespace Go.Proofs.YtejfbamijjddgaaDoor
open Go.RowKit Go.IntWalk

attribute [local go_sem ↓] ld_num st_num ld_pln st_pln ld_ops st_ops

/-- The chapter's b, and b as it is reckoned with. -/
def BC : Int := 41058363725152142129326129780047268409114441015993725554835256314039467401291
def BM : Int := mm BC SQ
theorem bc_v : V4 4309448131093880907 7285987128567378166 12964664127075681980 6540974713487397863 = BC := by decide

theorem st4n (w : World) (a0 a1 a2 a3 : Int) : (stA 84 (.pointer (some ⟨w.heap.size, 0, none⟩)) (.agg #[.int .u64 a0, .int .u64 a1, .int .u64 a2, .int .u64 a3])).run Tryd.prog (w.alloc (.cells #[.int .u64 0, .int .u64 0, .int .u64 0, .int .u64 0] 84)) = .ok () (w.alloc (.cells #[.int .u64 a0, .int .u64 a1, .int .u64 a2, .int .u64 a3] 84)) :=
  run_storeAt_new (P := Tryd.prog) w 84 #[.int .u64 0, .int .u64 0, .int .u64 0, .int .u64 0] #[.int .u64 a0, .int .u64 a1, .int .u64 a2, .int .u64 a3] (by kernel_rfl) rfl (all_oneCell_toArray (L4_one a0 a1 a2 a3))

/-- The operations that the formulas are handed: those of the field, and those with b. -/
def opL (b0 b1 b2 b3 : Int) : List Value := [.func (.func 66) #[] #[], .func (.func 67) #[] #[], .func (.func 68) #[] #[], .func (.func 66) #[.agg #[.int .u64 b0, .int .u64 b1, .int .u64 b2, .int .u64 b3]] #[], .func (.func 68) #[.agg #[.int .u64 b0, .int .u64 b1, .int .u64 b2, .int .u64 b3]] #[]]
theorem opL_one (b0 b1 b2 b3 : Int) : ∀ v ∈ opL b0 b1 b2 b3, v.oneCell' = true := by
  intro v hv
  simp only [opL, List.mem_cons, List.not_mem_nil, or_false] at hv
  rcases hv with rfl | rfl | rfl | rfl | rfl <;> rfl
theorem ldO {T : TypeId} {w : World} {g : Nat} {b0 b1 b2 b3 : Int} (h : Blk T w g (opL b0 b1 b2 b3)) : (ldA 81 (.pointer (some ⟨g, 0, none⟩))).run Tryd.prog w = .ok (.agg (opL b0 b1 b2 b3).toArray) w :=
  ldA_all Tryd.underlying81 rfl (by kernel_rfl) h

/-- What fieldOperations answers. -/
def Do (v : Value) : Prop := ∃ b0 b1 b2 b3, v = .agg (opL b0 b1 b2 b3).toArray ∧ Nw b0 b1 b2 b3 BM

set_option maxRecDepth 100000 in
set_option maxHeartbeats 1000000 in
theorem ops_any (w : World) (hC : Cv w) :
    Calls Tryd.prog 39 #[] w fun e w' => ∃ b0 b1 b2 b3, e = .returned (.agg (opL b0 b1 b2 b3).toArray) ∧ Nw b0 b1 b2 b3 BM ∧ Below w.heap.size w w' := by
  have HL : Hid (∀ W, Cv W → Calls Tryd.prog 65 #[.agg #[.int .u64 4309448131093880907, .int .u64 7285987128567378166, .int .u64 12964664127075681980, .int .u64 6540974713487397863]] W (Lf BC W)) := fun W hW => lifted_any _ _ _ _ BC ⟨by decide, by decide⟩ ⟨by decide, by decide⟩ ⟨by decide, by decide⟩ ⟨by decide, by decide⟩ bc_v W hW
  have hgl : ∀ W : World, Cv W → (ldA 104 (.pointer (some ⟨3, 0, none⟩))).run Tryd.prog W = .ok (.agg #[.int .u64 4309448131093880907, .int .u64 7285987128567378166, .int .u64 12964664127075681980, .int .u64 6540974713487397863]) W := fun W hW => ldA_range Tryd.underlying104 rfl (by kernel_rfl) hW.co
  have HG := hide hgl
  clear hgl
  go_enter Tryd.func39, Tryd.ntmps39
  have HC0 := hide (hC.alloc (.cells #[.nilFunc, .nilFunc, .nilFunc, .nilFunc, .nilFunc] 81))
  have hgl0 := HG.out _ HC0.out
  go_wp2_with fail
  refine (HL.out _ HC0.out).mono ?_
  rintro e w1 ⟨b0, b1, b2, b3, rfl, HN, LB⟩
  have hst := st4n w1 b0 b1 b2 b3
  have hK : Blk 84 (w1.alloc (.cells #[.int .u64 b0, .int .u64 b1, .int .u64 b2, .int .u64 b3] 84)) w1.heap.size (L4 b0 b1 b2 b3) := Blk.new _ _ _ _ rfl rfl
  have hld := ld4 hK
  have HK := hide hK
  clear hK
  have HN : Nw b0 b1 b2 b3 BM := by have hlt : BC < PP := by decide
                                    rw [if_pos hlt] at HN; exact HN
  have HN := hide HN
  have hO : Blk 81 (w1.alloc (.cells #[.int .u64 b0, .int .u64 b1, .int .u64 b2, .int .u64 b3] 84)) w.heap.size [.nilFunc, .nilFunc, .nilFunc, .nilFunc, .nilFunc] := ((Blk.new w _ _ _ rfl rfl).below LB).alloc _
  have hso := stA_all (t := 81) (vs := opL b0 b1 b2 b3) (by kernel_rfl) hO rfl (opL_one _ _ _ _)
  simp only [opL] at hso
  have HO := hide hO
  have LB1 := hide ((below_then (below1 w _) LB).alloc (below_then (below1 w _) LB).size (.cells #[.int .u64 b0, .int .u64 b1, .int .u64 b2, .int .u64 b3] 84))
  clear hO LB hC
  go_wp2
  refine bodyPost_ret (v := .agg (opL b0 b1 b2 b3).toArray) ?_ rfl ⟨b0, b1, b2, b3, rfl, HN.out, below_sets LB1.out (Nat.le_refl _) LB1.out.size _ _⟩
  exact res_one (T := 81) (p := 0) (ty := 81) (g := w.heap.size) (X := opL b0 b1 b2 b3) (by kernel_rfl) _ _ rfl Tryd.underlying81 rfl (by kernel_rfl) (blk_all HO.out rfl)

end Go.Proofs.YtejfbamijjddgaaDoor
