/-
  slip.moved, slip.Sum: the register behind bytes; the sum of pieces.
-/
import Derived.Test.YtilkbjohekhjcaaDoorMore
import Derived.Test.YtilkbjohekhjcaaDoorSlM
import Derived.WalkKit
import Derived.WalkMore
import Derived.BigQuiet
import Derived.Deep.QuietTactic
import Derived.Deep.MidRow
namespace Go.Proofs.YtilkbjohekhjcaaDoor
open Go.RowKit Go.IntWalk

/-- The table. -/
def Tab (w : World) : Prop := w.rangeAt 0 0 (tabL.map (Value.int .u32))

theorem Tab.cell {w : World} (h : Tab w) (t : Nat) (ht : t < 16) : w.cell? ⟨0, t, none⟩ = some (.int .u32 (tabL.getD t 0)) := by
  have := h t (.int .u32 (tabL.getD t 0)) (by rw [List.getElem?_map, List.getElem?_eq_getElem (show t < tabL.length from ht)]; simp [List.getD, List.getElem?_eq_getElem (show t < tabL.length from ht)])
  simpa using this
theorem Tab.lt {w : World} (h : Tab w) : 0 < w.heap.size := lt_of_cell (h.cell 0 (by omega))
theorem Tab.carry {w w' : World} (h : Tab w) (hb : w'.heap[0]? = w.heap[0]?) : Tab w' := fun j v hv => (World.cell?_of_block hb).trans (h j v hv)
theorem Tab.below {w w' : World} {B : Nat} (h : Tab w) (hb : Below B w w') (hB : 1 ≤ B) : Tab w' := h.carry (hb.block _ (by omega))
theorem Tab.belowA {w w' : World} (h : Tab w) (hb : Below w.heap.size w w') : Tab w' := h.below hb h.lt
theorem Tab.heap {w w' : World} (h : Tab w) (e : w'.heap = w.heap) : Tab w' := h.carry (by rw [e])
theorem Tab.kept {w w' : World} (h : Tab w) {row : Option Nat} (hg : w.grownBy w' row) (h2 : ∀ g, row = some g → 1 ≤ g) : Tab w' := h.carry (hg.block _ h.lt (fun e => by have := h2 _ e.symm; omega))
theorem Tab.alloc {w : World} (h : Tab w) (o : Obj) : Tab (w.alloc o) := h.belowA ((Below.refl _ _).alloc (Nat.le_refl _) _)

set_option maxRecDepth 100000 in
set_option maxHeartbeats 4000000 in
theorem moved_any (r : W32) (ao : Option Addr) (n cap : Nat) (xs : List Int) (w : World) (hT : Tab w) (hs : Src w ao n cap xs) :
    Calls Tryd.prog 17 #[.int .u32 (num32 r), .slice ao n cap] w fun e w' => e = .returned (.int .u32 (num32 (reg r xs))) ∧ w' = w := by
  have HS := hide hs
  have HT := hide hT
  have hlen : xs.length = n := hs.hlen
  have hcap : (n : Int) ≤ 9223372036854775807 := by have h1 := hs.hcap; have h2 := hs.hmax; unfold maxLen at h2; omega
  clear hs hT
  go_enter Tryd.func17, Tryd.ntmps17
  go_wp2
  go_loopw [0, 9] (fun a i wr => ∃ t : Nat, t ≤ n ∧ i = .int .i64 t ∧ a = .int .u32 (num32 (reg r (xs.take t))) ∧ wr = w) (fun _ i _ => n - (intOf i).toNat)
  case atStart => exact ⟨0, by omega, rfl, rfl, rfl⟩
  case round =>
    obtain ⟨t, ht, rfl, rfl, rfl⟩ := hrel
    by_cases hlt : t < n
    · obtain ⟨b, off, rfl, hc⟩ := HS.out.hrd (by intro h; subst h; simp at hlen; omega)
      have hcx := hc t (by omega)
      have hbx := HS.out.hbyt (xs.getD t 0) (by rw [List.getD, List.getElem?_eq_getElem (show t < xs.length by omega)]; simp)
      have hnx : reg r (xs.take (t + 1)) = byt (reg r (xs.take t)) (xs.getD t 0) := by
        rw [List.take_add_one, List.getElem?_eq_getElem (show t < xs.length by omega), reg_append]; simp [reg, List.getD, List.getElem?_eq_getElem (show t < xs.length by omega)]
      generalize xs.getD t 0 = x at hcx hbx hnx
      generalize reg r (xs.take t) = q at hnx ⊢
      rw [byt_num] at hnx
      have e1 : bits .xor .u32 (num32 q) x = num32 (q ^^^ BitVec.ofInt 32 x) := by rw [← xor_num, num_ofInt x (by omega)]
      generalize q ^^^ BitVec.ofInt 32 x = q1 at hnx e1
      have e2 := and_num q1
      have e3 := nib_num q1
      have k1 : q1.toNat % 16 < 16 := Nat.mod_lt _ (by omega)
      have c1 := HT.out.cell _ k1
      generalize stpN 4 q1 = q2 at hnx e3
      have e4 := and_num q2
      have e5 := nib_num q2
      have k2 : q2.toNat % 16 < 16 := Nat.mod_lt _ (by omega)
      have c2 := HT.out.cell _ k2
      generalize q1.toNat % 16 = i1 at e2 e3 k1 c1
      generalize q2.toNat % 16 = i2 at e4 e5 k2 c2
      have z1 : ((i1 : Nat) : Int) < 16 := by omega
      have z2 : ((i2 : Nat) : Int) < 16 := by omega
      generalize tabL.getD i1 0 = y1 at *
      generalize tabL.getD i2 0 = y2 at *
      have hltI : (t : Int) < (n : Int) := by omega
      have g1 := num32_bd q1
      have g2 := num32_bd q2
      have HNX := hide hnx
      clear hc hnx
      go_wp2
      go_roundw
      case rel => exact ⟨t + 1, by omega, by go_num, by rw [HNX.out], trivial⟩
      case measure => simp [intOf]; omega
    · obtain rfl : t = n := by omega
      go_wp2
      go_ret
      exact ⟨by rw [List.take_of_length_le (by omega)]; rfl, rfl⟩

/-- Pieces that a row of slices leads to. -/
structure Pc where
  ao : Option Addr
  n : Nat
  cap : Nat
  xs : List Int
def Pc.val (p : Pc) : Value := .slice p.ao p.n p.cap
def Pc.ok (w : World) (p : Pc) : Prop := Src w p.ao p.n p.cap p.xs
def allOf (L : List Pc) : List Int := (L.map Pc.xs).flatten

theorem allOf_take (L : List Pc) (t : Nat) (p : Pc) (h : L[t]? = some p) : allOf (L.take (t + 1)) = allOf (L.take t) ++ p.xs := by
  unfold allOf
  rw [List.take_add_one, h]
  simp

set_option maxRecDepth 100000 in
set_option maxHeartbeats 4000000 in
theorem sum_any (L : List Pc) (ao : Option Addr) (n c : Nat) (w : World) (hT : Tab w) (hn : L.length = n) (hm : n ≤ maxLen) (hc : ∀ i p, L[i]? = some p → ∃ g o, ao = some ⟨g, o, none⟩ ∧ w.cell? ⟨g, o + i, none⟩ = some p.val) (hs : ∀ p ∈ L, p.ok w) :
    Calls Tryd.prog 10 #[.slice ao n c] w fun e w' => e = .returned (.int .u32 (sumS (allOf L))) ∧ w' = w := by
  have HS := hide hs
  have HT := hide hT
  have HC := hide hc
  have hmI : (n : Int) ≤ 9223372036854775807 := by unfold maxLen at hm; omega
  clear hs hT hc hm
  go_enter Tryd.func10, Tryd.ntmps10
  go_wp2
  go_loopw [3, 8] (fun a i wr => ∃ t : Nat, t ≤ n ∧ i = .int .i64 t ∧ a = .int .u32 (num32 (reg (BitVec.allOnes 32) (allOf (L.take t)))) ∧ wr = w) (fun _ i _ => n - (intOf i).toNat)
  case atStart => exact ⟨0, by omega, rfl, rfl, rfl⟩
  case round =>
    obtain ⟨t, ht, rfl, rfl, rfl⟩ := hrel
    by_cases hlt : t < n
    · obtain ⟨⟨pa, pn, pc, px⟩, hget⟩ : ∃ p, L[t]? = some p := ⟨_, List.getElem?_eq_getElem (show t < L.length by omega)⟩
      obtain ⟨g, o, rfl, hcx⟩ := HC.out t _ hget
      have hsx := HS.out _ (List.mem_of_getElem? hget)
      have hnx := congrArg (reg (BitVec.allOnes 32)) (allOf_take L t _ hget)
      rw [reg_append] at hnx
      simp only [Pc.val, Pc.ok] at hcx hsx hnx
      generalize reg (BitVec.allOnes 32) (allOf (L.take t)) = q at hnx ⊢
      have hltI : (t : Int) < (n : Int) := by omega
      have HNX := hide hnx
      clear hnx hget
      go_wp2_with (go_at_call 17; refine (moved_any q pa pn pc px _ HT.out hsx).mono ?_; rintro e w1 ⟨rfl, rfl⟩)
      go_roundw
      case rel => exact ⟨t + 1, by omega, by go_num, by rw [HNX.out], trivial⟩
      case measure => simp [intOf]; omega
    · obtain rfl : t = n := by omega
      have hnot := not_num (reg (BitVec.allOnes 32) (allOf (L.take t)))
      go_wp2
      go_ret
      refine ⟨?_, rfl⟩
      unfold sumS
      rw [List.take_of_length_le (by omega)] at hnot ⊢
      rw [← hnot]
      rfl

end Go.Proofs.YtilkbjohekhjcaaDoor
