/-
  name.May: may a name be?
  name.put: the bytes of an element.
-/
import Derived.Test.YtgbbgfjamneioaaDoorXNmThereToNmMay
import Derived.Test.YtgbbgfjamneioaaDoorXTxL0ToPut
import Derived.Test.YtgbbgfjamneioaaDoorXLenToRMay
import Derived.Test.YtgbbgfjamneioaaDoorXOEnc
namespace Go.Proofs.YtgbbgfjamneioaaDoor
open Go.RowKit Go.IntWalk Go.Shelf

theorem all_dropN (p : Int × ByteArray → Bool) (xs : List (Int × ByteArray)) (k : Nat) (h : k < xs.length) : (xs.drop k).all p = (p (xs.getD k (0, ByteArray.empty)) && (xs.drop (k + 1)).all p) := by
  rw [List.drop_eq_getElem_cons h, List.all_cons]
  simp [List.getD, h]

set_option maxRecDepth 100000 in
set_option maxHeartbeats 2000000 in
theorem mayN_any (ao : Option Addr) (n cap : Nat) (xs : List (Int × ByteArray)) (w : World) (hA : Ats w ao n cap xs) (hz : ∀ x ∈ xs, x.2.size ≤ 140737488355328) :
    Calls Tryd.prog 12 #[.slice ao n cap] w fun e w' => e = .returned (.bool (nameL xs)) ∧ Below w.heap.size w w' := by
  have HL := hide hA.hl
  have hc := hA.hcap
  have hm := hA.hmax
  unfold maxLen at hm
  have HA := hide hA
  have HZ := hide hz
  clear hA hz
  by_cases h16 : n ≤ 16
  · have hR : Hid (nameL xs = xs.all (fun x => attrL x.1 x.2.data.toList)) := by unfold Hid nameL; rw [HL.out, decide_eq_true h16, Bool.true_and]
    have i16 : ¬ (16 : Int) < (n : Int) := by omega
    generalize nameL xs = R at hR
    go_enter Tryd.func12, Tryd.ntmps12
    go_wp2
    go_loopw [10] (fun v wr => ∃ k : Nat, v = .int .i64 k ∧ k ≤ n ∧ Hid (R = (xs.drop k).all (fun x => attrL x.1 x.2.data.toList)) ∧ Hid (Below w.heap.size w wr)) (fun v _ => n - (intOf v).toNat)
    case atStart => exact ⟨0, rfl, Nat.zero_le _, hR, Below.refl _ _⟩
    case round =>
      obtain ⟨k, rfl, hk, hE, hQ⟩ := hrel
      by_cases hlt : k < n
      · have ltI : (k : Int) < (n : Int) := by omega
        obtain ⟨b, off, rfl, hcl⟩ := (HA.out.below hQ.out).hrd (by omega)
        obtain ⟨c0, c1⟩ := hcl k hlt
        have hst := hide (all_dropN (fun x => attrL x.1 x.2.data.toList) xs k (by rw [HL.out]; exact hlt))
        have hsz := HZ.out _ (getD_mem (xs := xs) (i := k) (by rw [HL.out]; exact hlt))
        generalize xs.getD k (0, ByteArray.empty) = x at c0 c1 hst hsz
        obtain ⟨t, s⟩ := x
        simp only [] at c0 c1 hsz
        clear hcl
        have hB := hide (fun W => mayBe_any t s hsz W)
        replace hst : Hid ((xs.drop k).all (fun x => attrL x.1 x.2.data.toList) = (attrL t s.data.toList && (xs.drop (k + 1)).all (fun x => attrL x.1 x.2.data.toList))) := hst.out
        have B2 := hide (hQ.out.alloc hQ.out.size (.cells #[.int .i64 t, .string s] 52))
        generalize attrL t s.data.toList = q at hB hst
        cases q with
        | true =>
          have hE2 : Hid (R = (xs.drop (k + 1)).all (fun x => attrL x.1 x.2.data.toList)) := by unfold Hid; rw [hE.out, hst.out, Bool.true_and]
          go_wp2_with fail
          refine (hB.out _).mono ?_
          rintro e w1 ⟨rfl, L1⟩
          go_wp2
          go_roundw
          case rel => exact ⟨k + 1, by simp, by omega, hE2, B2.out.trans (L1.mono B2.out.size)⟩
          case measure => simp [intOf]; omega
        | false =>
          have hF : Hid (R = false) := by unfold Hid; rw [hE.out, hst.out]; rfl
          go_wp2_with fail
          refine (hB.out _).mono ?_
          rintro e w1 ⟨rfl, L1⟩
          go_wp2
          go_ret
          exact ⟨by rw [hF.out]; rfl, B2.out.trans (L1.mono B2.out.size)⟩
      · have ltI : ¬ (k : Int) < (n : Int) := by omega
        have hF : Hid (R = true) := by unfold Hid; rw [hE.out, List.drop_eq_nil_of_le (by rw [HL.out]; omega)]; rfl
        go_wp2
        go_ret
        exact ⟨by rw [hF.out]; rfl, hQ.out⟩
  · have hR : Hid (nameL xs = false) := by unfold Hid nameL; rw [HL.out, decide_eq_false h16, Bool.false_and]
    have i16 : (16 : Int) < (n : Int) := by omega
    go_enter Tryd.func12, Tryd.ntmps12
    go_wp2
    go_ret
    exact ⟨by rw [hR.out]; rfl, Below.refl _ _⟩

end Go.Proofs.YtgbbgfjamneioaaDoor

namespace Go.Proofs.YtgbbgfjamneioaaDoor
open Go.RowKit Go.IntWalk Go.Shelf

theorem srcN_none (w : World) : Src w none 0 0 [] := ⟨rfl, Nat.le_refl _, by decide, fun _ => ⟨rfl, rfl⟩, fun h => absurd rfl h, by intro x hx; cases hx⟩
/-- Bytes each. -/
def Byt (xs : List Int) : Prop := ∀ x ∈ xs, 0 ≤ x ∧ x < 256
theorem putS_byte (tag : Int) (ls : List (List Int)) (h : ∀ l ∈ ls, Byt l) : Byt (putS [] tag ls).1 := by
  unfold putS
  split
  · intro x hx; cases hx
  · split
    · intro x hx; cases hx
    · rename_i h1 h2
      have ht := tag_bd (t := tag) (by simpa using h1)
      intro x hx
      simp only [List.nil_append, List.mem_append, List.mem_flatten] at hx
      rcases hx with (hx | hx) | ⟨l, hl, hx⟩
      · simp at hx; subst hx; omega
      · exact lenB_byte _ (by omega) x hx
      · exact h l hl x hx

theorem Parts.one {w : World} {b : Nat} {a : Option Addr} {m c : Nat} {xs : List Int} (h : w.cell? ⟨b, 0, none⟩ = some (.slice a m c)) (hs : Src w a m c xs) : Parts w (some ⟨b, 0, none⟩) 1 1 [.slice a m c] [xs] := by
  refine ⟨rfl, rfl, Nat.le_refl _, by decide, fun _ => ⟨b, 0, rfl, fun i hi => ?_⟩, fun i hi => ?_⟩
  · obtain rfl : i = 0 := by omega
    exact h
  · obtain rfl : i = 0 := by omega
    exact ⟨a, m, c, rfl, hs⟩
theorem Parts.two {w : World} {b : Nat} {a a2 : Option Addr} {m c m2 c2 : Nat} {xs ys : List Int} (h : w.cell? ⟨b, 0, none⟩ = some (.slice a m c)) (h2 : w.cell? ⟨b, 1, none⟩ = some (.slice a2 m2 c2)) (hs : Src w a m c xs) (hs2 : Src w a2 m2 c2 ys) : Parts w (some ⟨b, 0, none⟩) 2 2 [.slice a m c, .slice a2 m2 c2] [xs, ys] := by
  refine ⟨rfl, rfl, Nat.le_refl _, by decide, fun _ => ⟨b, 0, rfl, fun i hi => ?_⟩, fun i hi => ?_⟩
  · rcases (by omega : i = 0 ∨ i = 1) with rfl | rfl
    · exact h
    · exact h2
  · rcases (by omega : i = 0 ∨ i = 1) with rfl | rfl
    · exact ⟨a, m, c, rfl, hs⟩
    · exact ⟨a2, m2, c2, rfl, hs2⟩

set_option maxRecDepth 100000 in
theorem nput_any (tag : Int) (ao : Option Addr) (n cap : Nat) (vs : List Value) (ls : List (List Int)) (w : World) (hp : Parts w ao n cap vs ls) (hn : (n : Int) ≤ 140737488355328) :
    Calls Tryd.prog 26 #[.int .i64 tag, .slice ao n cap] w fun e w' => ∃ a m c, e = .returned (.slice a m c) ∧ OwnB w' w.heap.size (.slice a m c) (putS [] tag ls).1 ∧ Below w.heap.size w w' := by
  have hC := hide (put_any none 0 0 [] tag ao n cap vs ls w (srcN_none w) hp (by decide) hn)
  generalize putS [] tag ls = P at hC ⊢
  go_enter Tryd.func26, Tryd.ntmps26
  go_wp2_with fail
  refine hC.out.mono ?_
  rintro e w1 ⟨a, m, c, rfl, O1, B1⟩
  go_wp2
  go_ret
  exact ⟨a, m, c, rfl, O1, B1⟩

end Go.Proofs.YtgbbgfjamneioaaDoor
