/-
  How a row's arguments of type Basic and KeyId are opened into what the walks are told of them.
-/
import Derived.Test.YtaeddbkkkiefcaaOpen
import Derived.Test.YtaeddbkkkiefcaaExG
import Derived.Lib.LaidTab
namespace Go.Proofs.Ytaeddbkkkiefcaa
open Go.ChangeShapes Go.WideShapes Go.ChangeAt Go.RowKit

/-- The number in a cell. -/
def cellNX : Value → Int
  | .int _ z => z
  | _ => 0

set_option maxRecDepth 100000 in
theorem bytes_of_arrX {H : Type} {enc : TypeId × Value → H} {W : World} {base : Nat} {sp : Nat → Bool} {held : Bool} {fuel : Nat} {t : TypeId} {n : Nat} {cs : List Value} {x : DataW H × List MemPlace}
    (ht : Try.prog.underlying t = some (.array n 5)) (hct : Try.prog.cellsOf t = n) (h : DataW.trod enc Try.prog W base sp held fuel t cs = some x) : ∃ X : List Int, cs = X.map (Value.int .u8) ∧ X.length = n ∧ (∀ x ∈ X, 0 ≤ x ∧ x < 256) := by
  cases fuel with
  | zero => simp [DataW.trod] at h
  | succ fuel =>
    simp only [DataW.trod, ht, Try.cellsB, hct, Nat.mul_one] at h
    split at h
    · rename_i hl
      obtain ⟨xs, hm, hx⟩ := Option.map_eq_some_iff.1 h
      have key : ∀ i, i < n → ∃ z, cs[i]? = some (.int .u8 z) ∧ 0 ≤ z ∧ z < 256 := by
        intro i hi
        obtain ⟨b, hb, hf⟩ := Lib.mapM_at hm i i (by simp [hi])
        obtain ⟨z, hc, _, hw⟩ := DataW.trod_int Try.underlying5 hf
        refine ⟨z, ?_, ?_⟩
        · have := congrArg (·[0]?) hc
          simpa [List.getElem?_take, List.getElem?_drop] using this
        · have := bounds_u8 hw
          omega
      have hlen : cs.length = n := by simpa using hl
      refine ⟨cs.map cellNX, ?_, by simpa using hlen, ?_⟩
      · apply List.ext_getElem?
        intro i
        by_cases hi : i < n
        · obtain ⟨z, hz, _⟩ := key i hi
          simp [hz, cellNX]
        · rw [List.getElem?_eq_none (by omega), List.getElem?_eq_none (by simp; omega)]
      · intro y hy
        obtain ⟨v, hv, rfl⟩ := List.mem_map.1 hy
        obtain ⟨i, hi, rfl⟩ := List.getElem_of_mem hv
        obtain ⟨z, hz, hb⟩ := key i (by omega)
        rw [List.getElem?_eq_getElem hi] at hz
        simp only [Option.some.injEq] at hz
        rw [hz]
        exact hb
    · cases h

set_option maxRecDepth 100000 in
theorem okWide_arrX {W : World} {r : Reach} {b0 n : Nat} {t e : TypeId} {v : Value} (ht : Try.prog.underlying t = some (.array n e)) (h : Value.okWide Try.prog W r b0 t v) : ∃ cs, v = .agg cs := by
  simp only [Value.okWide, ht] at h
  obtain ⟨cs, h1, _⟩ := h
  exact ⟨cs, h1⟩

set_option maxRecDepth 100000 in
theorem open_key {H : Type} {enc : TypeId × Value → H} {W : World} {r : Reach} {b0 : Nat} {v : Value} {d : DataW H} {p : List MemPlace}
    (hv : Value.okWide Try.prog W r b0 26 v) (h : DataW.Trod enc Try.prog W 0 (fun _ => true) true 26 v d p) :
    ∃ X, v = kv X ∧ X.length = 20 ∧ (∀ x ∈ X, 0 ≤ x ∧ x < 256) := by
  obtain ⟨cs, rfl⟩ := okWide_arrX Try.underlying26 hv
  obtain ⟨fuel, hf⟩ := h
  obtain ⟨X, hX, hl, hd⟩ := bytes_of_arrX Try.underlying26 (by kernel_rfl) hf
  refine ⟨X, ?_, hl, hd⟩
  have : cs.toList = X.map (Value.int .u8) := by simpa [Value.cells] using hX
  unfold kv
  rw [← this]

set_option maxRecDepth 100000 in
theorem open_basic {H : Type} {enc : TypeId × Value → H} {W : World} {r : Reach} {b0 : Nat} {v : Value} {d : DataW H} {p : List MemPlace}
    (hv : Value.okWide Try.prog W r b0 23 v) (h : DataW.Trod enc Try.prog W 0 (fun _ => true) true 23 v d p) :
    ∃ (f : Bool) (n : Int), v = .agg #[.bool f, .int .i64 n] ∧ (Lit.int .i64 n).wf = true := by
  have hs := Try.underlying23
  obtain ⟨cs, rfl, hsz⟩ := okWide_struct hs hv
  obtain ⟨fuel, hf⟩ := h
  obtain ⟨xs, n, _, _, hl, hlen, hfs⟩ := DataW.trod_struct hs hf
  have h2 : cs.toList.length = 2 := by simpa using hsz.trans (show Try.prog.cellsOf 23 = 2 by kernel_rfl)
  have g0 := hfs 0 _ rfl
  have g1 := hfs 1 _ rfl
  simp only [Value.cells] at g0 g1
  match xs, hlen with
  | [y0, y1], _ =>
    have k0 : DataW.trod enc Try.prog W 0 (fun _ => true) true n 4 ((cs.toList.drop 0).take 1) = some y0 := g0
    have k1 : DataW.trod enc Try.prog W 0 (fun _ => true) true n 3 ((cs.toList.drop 1).take 1) = some y1 := g1
    obtain ⟨f, hf, _⟩ := DataW.trod_bool Try.underlying4 k0
    obtain ⟨z, hz, _, hw⟩ := DataW.trod_int Try.underlying3 k1
    refine ⟨f, z, ?_, hw⟩
    have e : cs.toList = [.bool f, .int .i64 z] := by
      match hcs : cs.toList, h2 with
      | [p, q], _ =>
        rw [hcs] at hf hz
        simp at hf hz
        rw [hf, hz]
    have : cs = #[.bool f, .int .i64 z] := by
      apply Array.toList_inj.1
      rw [e]
    rw [this]

end Go.Proofs.Ytaeddbkkkiefcaa
