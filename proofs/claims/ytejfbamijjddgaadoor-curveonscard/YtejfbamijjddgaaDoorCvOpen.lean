/-
  How a row's arguments of type Point and Digest are opened into what the walks are told of them.
-/
import Derived.Test.YtejfbamijjddgaaDoorOpen
import Derived.Test.YtejfbamijjddgaaDoorCvEqP
import Derived.Test.YtejfbamijjddgaaDoorCvDig
import Derived.Lib.LaidTab
namespace Go.Proofs.YtejfbamijjddgaaDoor
open Go.ChangeShapes Go.WideShapes Go.ChangeAt Go.RowKit

/-- The number in a cell. -/
def cellN : Value → Int
  | .int _ z => z
  | _ => 0

set_option maxRecDepth 100000 in
theorem bytes_of_arr {H : Type} {enc : TypeId × Value → H} {W : World} {base : Nat} {sp : Nat → Bool} {held : Bool} {fuel : Nat} {t : TypeId} {n : Nat} {cs : List Value} {x : DataW H × List MemPlace}
    (ht : Tryd.prog.underlying t = some (.array n 5)) (hct : Tryd.prog.cellsOf t = n) (h : DataW.trod enc Tryd.prog W base sp held fuel t cs = some x) : ∃ X : List Int, cs = X.map (Value.int .u8) ∧ X.length = n ∧ Dg 256 X := by
  cases fuel with
  | zero => simp [DataW.trod] at h
  | succ fuel =>
    simp only [DataW.trod, ht, Tryd.cellsB, hct, Nat.mul_one] at h
    split at h
    · rename_i hl
      obtain ⟨xs, hm, hx⟩ := Option.map_eq_some_iff.1 h
      have key : ∀ i, i < n → ∃ z, cs[i]? = some (.int .u8 z) ∧ 0 ≤ z ∧ z < 256 := by
        intro i hi
        obtain ⟨b, hb, hf⟩ := Lib.mapM_at hm i i (by simp [hi])
        obtain ⟨z, hc, _, hw⟩ := DataW.trod_int Tryd.underlying5 hf
        refine ⟨z, ?_, ?_⟩
        · have := congrArg (·[0]?) hc
          simpa [List.getElem?_take, List.getElem?_drop] using this
        · have := bounds_u8 hw
          omega
      have hlen : cs.length = n := by simpa using hl
      refine ⟨cs.map cellN, ?_, by simpa using hlen, ?_⟩
      · apply List.ext_getElem?
        intro i
        by_cases hi : i < n
        · obtain ⟨z, hz, _⟩ := key i hi
          simp [hz, cellN]
        · rw [List.getElem?_eq_none (by omega), List.getElem?_eq_none (by simp; omega)]
      · intro y hy
        obtain ⟨v, hv, rfl⟩ := List.mem_map.1 hy
        obtain ⟨i, hi, rfl⟩ := List.getElem_of_mem hv
        obtain ⟨z, hz, hb⟩ := key i (by omega)
        rw [List.getElem?_eq_getElem hi] at hz
        simp only [Option.some.injEq] at hz
        rw [hz]
        exact hb
    · cases h

set_option maxRecDepth 100000 in
theorem okWide_arr {W : World} {r : Reach} {b0 n : Nat} {t e : TypeId} {v : Value} (ht : Tryd.prog.underlying t = some (.array n e)) (h : Value.okWide Tryd.prog W r b0 t v) : ∃ cs, v = .agg cs := by
  simp only [Value.okWide, ht] at h
  obtain ⟨cs, h1, _⟩ := h
  exact ⟨cs, h1⟩

set_option maxRecDepth 100000 in
theorem open_digest {H : Type} {enc : TypeId × Value → H} {W : World} {r : Reach} {b0 : Nat} {v : Value} {d : DataW H} {p : List MemPlace}
    (hv : Value.okWide Tryd.prog W r b0 23 v) (h : DataW.Trod enc Tryd.prog W 0 (fun _ => true) true 23 v d p) :
    ∃ X, v = .agg (bV X).toArray ∧ X.length = 32 ∧ Dg 256 X := by
  obtain ⟨cs, rfl⟩ := okWide_arr Tryd.underlying23 hv
  obtain ⟨fuel, hf⟩ := h
  obtain ⟨X, hX, hl, hd⟩ := bytes_of_arr Tryd.underlying23 (by kernel_rfl) hf
  refine ⟨X, ?_, hl, hd⟩
  have : cs.toList = bV X := by simpa [Value.cells, bV] using hX
  rw [← this]

set_option maxRecDepth 100000 in
theorem open_point {H : Type} {enc : TypeId × Value → H} {W : World} {r : Reach} {b0 : Nat} {v : Value} {d : DataW H} {p : List MemPlace}
    (hv : Value.okWide Tryd.prog W r b0 25 v) (h : DataW.Trod enc Tryd.prog W 0 (fun _ => true) true 25 v d p) :
    ∃ X Y f, v = .agg (pL X Y f).toArray ∧ X.length = 32 ∧ Y.length = 32 ∧ Dg 256 X ∧ Dg 256 Y := by
  have hs := Tryd.underlying25
  obtain ⟨cs, rfl, hsz⟩ := okWide_struct hs hv
  obtain ⟨fuel, hf⟩ := h
  obtain ⟨xs, n, _, _, hl, hlen, hfs⟩ := DataW.trod_struct hs hf
  have h65 : cs.toList.length = 65 := by simpa using hsz.trans (show Tryd.prog.cellsOf 25 = 65 by kernel_rfl)
  have g0 := hfs 0 _ rfl
  have g1 := hfs 1 _ rfl
  have g2 := hfs 2 _ rfl
  simp only [Value.cells] at g0 g1 g2
  match xs, hlen with
  | [y0, y1, y2], _ =>
    have k0 : DataW.trod enc Tryd.prog W 0 (fun _ => true) true n 23 ((cs.toList.drop 0).take 32) = some y0 := g0
    have k1 : DataW.trod enc Tryd.prog W 0 (fun _ => true) true n 23 ((cs.toList.drop 32).take 32) = some y1 := g1
    have k2 : DataW.trod enc Tryd.prog W 0 (fun _ => true) true n 4 ((cs.toList.drop 64).take 1) = some y2 := g2
    obtain ⟨X, hX, lX, dX⟩ := bytes_of_arr Tryd.underlying23 (by kernel_rfl) k0
    obtain ⟨Y, hY, lY, dY⟩ := bytes_of_arr Tryd.underlying23 (by kernel_rfl) k1
    obtain ⟨f, hf, _⟩ := DataW.trod_bool Tryd.underlying4 k2
    refine ⟨X, Y, f, ?_, lX, lY, dX, dY⟩
    have e : cs.toList = pL X Y f := by
      unfold pL
      rw [← hX, ← hY, ← hf, List.drop_zero]
      have e1 : (cs.toList.drop 32).take 32 ++ (cs.toList.drop 64).take 1 = cs.toList.drop 32 := by
        rw [List.take_of_length_le (l := cs.toList.drop 64) (by simp at h65 ⊢; omega), show (64 : Nat) = 32 + 32 from rfl, ← List.drop_drop, List.take_append_drop]
      rw [List.append_assoc, e1, List.take_append_drop]
    rw [← e]

end Go.Proofs.YtejfbamijjddgaaDoor
