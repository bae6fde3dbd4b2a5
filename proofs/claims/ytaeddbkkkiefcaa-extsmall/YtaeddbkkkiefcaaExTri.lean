/-
  Three calls in turn, each answering bytes in new memory. Printed by gext.py.
-/
import Derived.Test.YtaeddbkkkiefcaaExO
import Derived.Deep.RegionHeld3
import Derived.Deep.MidRow
namespace Go.Proofs.Ytaeddbkkkiefcaa
open Go.RowKit Go.IntWalk

/-- A load of a whole array, kept whole in the walk. -/
def ldX (t : TypeId) (v : Value) : Sem Value := Instr.loadAt t v
theorem ld_key (v : Value) : Instr.loadAt 26 v = ldX 26 v := rfl
theorem info_key : (Try.prog.info? 26).map (·.size) = some 20 := by kernel_rfl
theorem ldX_key {W : World} {g : Nat} {T : TypeId} {X : List Int} (hX : X.length = 20) (h : W.heap[g]? = some (.cells (X.map (Value.int .u8)).toArray T)) : (ldX 26 (.pointer (some ⟨g, 0, none⟩))).run Try.prog W = .ok (.agg (X.map (Value.int .u8)).toArray) W := by
  refine run_loadAt_mid W g 0 26 (X.map (Value.int .u8)) _ ?_ Try.underlying26 rfl (by rw [List.length_map, hX]; exact info_key)
  intro j v hv
  simp [World.cell?, h]
  simpa using hv

structure TriT (U : World) (C : List Int) (W : World) (x y z : Value) : Prop where
  bel : Below U.heap.size U W
  o1 : OwnB W U.heap.size x C
  o2 : OwnB W U.heap.size y C
  o3 : OwnB W U.heap.size z C
  a12 : ∀ k, x.ownBlock = some k → y.ownBlock ≠ some k
  a13 : ∀ k, x.ownBlock = some k → z.ownBlock ≠ some k
  a23 : ∀ k, y.ownBlock = some k → z.ownBlock ≠ some k
theorem tri_mk {U W1 W2 W3 : World} {C : List Int} {a1 a2 a3 : Option Addr} {m1 m2 m3 c1 c2 c3 : Nat} (B1 : Below U.heap.size U W1) (o1 : OwnB W1 U.heap.size (.slice a1 m1 c1) C) (b2 : Below W1.heap.size W1 W2) (o2 : OwnB W2 W1.heap.size (.slice a2 m2 c2) C) (b3 : Below W2.heap.size W2 W3) (o3 : OwnB W3 W2.heap.size (.slice a3 m3 c3) C) :
    TriT U C W3 (.slice a1 m1 c1) (.slice a2 m2 c2) (.slice a3 m3 c3) :=
  ⟨(B1.trans (b2.mono B1.size)).trans (b3.mono (Nat.le_trans B1.size b2.size)), (o1.belowA b2).belowA b3, (o2.belowA b3).rebaseX B1.size, o3.rebaseX (Nat.le_trans B1.size b2.size), own_two o1 o2 (Nat.le_refl _), own_two o1 o3 b2.size, own_two o2 o3 (Nat.le_refl _)⟩


end Go.Proofs.Ytaeddbkkkiefcaa
