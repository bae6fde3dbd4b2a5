/-
  The document's Sum and Size.
-/
import Derived.Test.YtilkbjohekhjcaaDoorSlFind
namespace Go.Proofs.YtilkbjohekhjcaaDoor
open Go.RowKit Go.IntWalk

theorem lsb_num (q : W32) : q.getLsbD 0 = decide (num32 q % 2 = 1) := by
  unfold num32
  rw [BitVec.getLsbD, Nat.testBit_zero]
  by_cases h : q.toNat % 2 = 1
  · rw [decide_eq_true h, decide_eq_true (by omega)]
  · rw [decide_eq_false h, decide_eq_false (by omega)]
theorem half_num (q : W32) : num32 q / (2 : Int) = num32 (q >>> 1) := shr_num q 1
theorem stp_odd (q : W32) (h : num32 q % 2 = 1) : bits .xor .u32 (num32 q / 2) 3988292384 = num32 (stp q) := by
  have e : (3988292384 : Int) = num32 (0xedb88320#32) := by decide
  rw [half_num, e, xor_num]
  unfold stp
  rw [lsb_num, decide_eq_true h]
  simp
theorem stp_evn (q : W32) (h : ¬ num32 q % 2 = 1) : num32 q / (2 : Int) = num32 (stp q) := by
  rw [half_num]
  unfold stp
  rw [lsb_num, decide_eq_false h]
  simp
theorem stpN_succ (k : Nat) (q : W32) : stpN (k + 1) q = stp (stpN k q) := by rw [stpN_add]; rfl

end Go.Proofs.YtilkbjohekhjcaaDoor
