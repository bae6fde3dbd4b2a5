/-
  The statement SlipPuts: its walk.
-/
import Derived.Test.YtilkbjohekhjcaaDoorSlLaw
import Derived.Test.YtilkbjohekhjcaaDoorSlRPut
import Derived.Deep.DeepCutAuto
namespace Go.Proofs.YtilkbjohekhjcaaDoor
open Go.RowKit Go.IntWalk

theorem putS_bd (bs : List Int) (k : Int) (ds : List Int) (hb : ∀ x ∈ bs, 0 ≤ x ∧ x < 256) (hd : ∀ x ∈ ds, 0 ≤ x ∧ x < 256) : ∀ x ∈ (putS bs k ds).1, 0 ≤ x ∧ x < 256 := by
  unfold putS
  split
  · simp
  · split
    · simp
    · intro x hx
      rcases List.mem_append.1 hx with h | h
      · exact hb x h
      · exact slipB_bd k ds (by omega) hd x h
theorem putS_len (bs : List Int) (k : Int) (ds : List Int) : (putS bs k ds).1.length ≤ bs.length + 65542 := by
  unfold putS
  split
  · simp
  · split
    · simp
    · simp [slipB_len]; omega

/-- A row of the call's own keeps through a change of another's. -/
theorem OwnB.apartB {w w' : World} {base b2 : Nat} {v x : Value} {xs ys : List Int} {u : World} (h : OwnB w base v xs) (hx : OwnB u b2 x ys) (hlt : u.heap.size ≤ base) (hg : w.grownBy w' x.ownBlock) : OwnB w' base v xs := by
  refine h.kept hg ?_
  cases hv : v.ownBlock with
  | none => exact .inl rfl
  | some g =>
    right
    intro he
    have h1 := (h.lt g hv).1
    have h2 := (hx.lt g he.symm).2
    omega
theorem Src.apartB {w w' : World} {ao : Option Addr} {n c b2 : Nat} {x : Value} {xs ys : List Int} {u V : World} (h : Src w ao n c xs) (h0 : Src V ao n c xs) (hx : OwnB u b2 x ys) (hlt : V.heap.size ≤ b2) (hg : w.grownBy w' x.ownBlock) : Src w' ao n c xs := by
  refine h.grown hg fun b off he hne hb => ?_
  have h1 := h0.blk b off he hne
  have h2 := (hx.lt b hb.symm).1
  omega

end Go.Proofs.YtilkbjohekhjcaaDoor
