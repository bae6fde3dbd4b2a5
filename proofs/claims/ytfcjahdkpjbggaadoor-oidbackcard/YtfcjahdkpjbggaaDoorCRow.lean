/-
  A row of bytes that a call has made by '[]byte(s)': it can be read and written.
-/
import Derived.Test.YtfcjahdkpjbggaaDoorBts
import Derived.Lib.ConvBytes
namespace Go.Proofs.YtfcjahdkpjbggaaDoor
open Go.RowKit

/-- A row of the bytes xs, of so much room, at block g, made behind 'base'. -/
structure RowB (w : World) (base g n cap : Nat) (xs : List Int) : Prop where
  src : Src w (some ⟨g, 0, none⟩) n cap xs
  lo : base ≤ g
  hi : g < w.heap.size
  fz : ∀ j, j < n → w.frozen? ⟨g, j, none⟩ = false

theorem RowB.below {w w' : World} {base g n cap : Nat} {xs : List Int} (h : RowB w base g n cap xs) (hb : Below w.heap.size w w') : RowB w' base g n cap xs :=
  ⟨h.src.below hb, h.lo, Nat.lt_of_lt_of_le h.hi hb.size, fun j hj => (hb.frozen (p := ⟨g, j, none⟩) h.hi).trans (h.fz j hj)⟩

theorem RowB.cell {w : World} {base g n cap : Nat} {xs : List Int} (h : RowB w base g n cap xs) (j : Nat) (hj : j < n) : w.cell? ⟨g, j, none⟩ = some (.int .u8 (xs.getD j 0)) := by
  have hl := h.src.hlen
  obtain ⟨b, off, he, hc⟩ := h.src.hrd (by intro e; rw [e] at hl; simp at hl; omega)
  simp at he
  obtain ⟨rfl, rfl⟩ := he
  have := hc j (by omega)
  rwa [Nat.zero_add] at this

theorem RowB.stored {w : World} {base g n cap : Nat} {xs : List Int} (h : RowB w base g n cap xs) (j : Nat) (hj : j < n) (u : Int) (hu : 0 ≤ u ∧ u < 256) :
    RowB (w.setCell ⟨g, j, none⟩ (.int .u8 u)) base g n cap (xs.set j u) := by
  have hl := h.src.hlen
  refine ⟨⟨by rw [List.length_set]; exact hl, h.src.hcap, h.src.hmax, h.src.hnil, ?_, ?_⟩, h.lo, by rw [World.size_setCell]; exact h.hi, fun k hk => by rw [World.frozen?_setCell]; exact h.fz k hk⟩
  · intro _
    refine ⟨g, 0, rfl, fun i hi => ?_⟩
    rw [List.length_set] at hi
    rw [Nat.zero_add]
    by_cases hij : i = j
    · subst hij
      rw [World.cell?_setCell_same w _ _ (h.cell i hj)]
      simp [List.getD, hi]
    · rw [World.cell?_setCell_other w _ _ _ (fun e => hij (congrArg Addr.off e).symm), h.cell i (by omega)]
      simp [List.getD, List.getElem?_set_ne (Ne.symm hij)]
  · intro x hx
    rcases List.mem_or_eq_of_mem_set hx with hx | rfl
    · exact h.src.hbyt x hx
    · exact hu

/-- What is stored into another block leaves a row as it was. -/
theorem RowB.other {w : World} {base g n cap : Nat} {xs : List Int} (h : RowB w base g n cap xs) (a : Addr) (v : Value) (ha : a.block ≠ g) : RowB (w.setCell a v) base g n cap xs := by
  have hl := h.src.hlen
  refine ⟨⟨hl, h.src.hcap, h.src.hmax, h.src.hnil, ?_, h.src.hbyt⟩, h.lo, by rw [World.size_setCell]; exact h.hi, fun k hk => by rw [World.frozen?_setCell]; exact h.fz k hk⟩
  intro _
  refine ⟨g, 0, rfl, fun i hi => ?_⟩
  rw [Nat.zero_add, World.cell?_setCell_other w _ _ _ (by intro e; exact ha (by rw [e])), h.cell i (by omega)]

theorem bytes_back (xs : List Int) (hb : ∀ x ∈ xs, 0 ≤ x ∧ x < 256) (i : Nat) (hi : i < xs.length) : (((strOfNums xs).data.toList.getD i 0).toNat : Int) = xs.getD i 0 := by
  rw [strOfNums_data]
  have h := hb (xs[i]) (List.getElem_mem _)
  simp only [List.getD, List.getElem?_map, List.getElem?_eq_getElem hi, Option.map_some, Option.getD_some]
  rw [UInt8.toNat_ofNat']
  omega

/-- '[]byte(s)'. -/
theorem bytes_of (w : World) (xs : List Int) (hb : ∀ x ∈ xs, 0 ≤ x ∧ x < 256) (hm : xs.length ≤ 1048576) :
    ∃ cap w', (convert 9 23 (.string (strOfNums xs))).run Tryd.prog w = .ok (.slice (some ⟨w.heap.size, 0, none⟩) xs.length cap) w' ∧ RowB w' w.heap.size w.heap.size xs.length cap xs ∧ Below w.heap.size w w' := by
  have hr := Lib.run_convert_string_bytes (P := Tryd.prog) w 9 23 5 (strOfNums xs) Tryd.underlying9 Tryd.underlying23 Tryd.underlying5
  rw [strOfNums_size] at hr
  have hz := Lib.bytesWorld_size w 5 (strOfNums xs)
  have hc := grownCap_ge w xs.length 0 5
  refine ⟨_, _, hr, ⟨⟨rfl, hc, grownCap_le_maxLen w xs.length 0 5 (by unfold maxLen; omega), by simp, ?_, hb⟩, Nat.le_refl _, by rw [hz]; omega, ?_⟩, ⟨rfl, rfl, rfl, by rw [hz]; omega, fun k hk => Lib.bytesWorld_at_old w 5 (strOfNums xs) k hk⟩⟩
  · intro _
    refine ⟨w.heap.size, 0, rfl, fun i hi => ?_⟩
    rw [Nat.zero_add, Lib.bytesWorld_cell w 5 (strOfNums xs) i (by rw [strOfNums_size]; exact hi), bytes_back xs hb i hi]
  · intro j hj
    have hs : xs.length ≤ (Lib.bytesCells w 5 (strOfNums xs)).size := by
      unfold Lib.bytesCells
      rw [Array.size_append, Array.size_map]
      have : (strOfNums xs).data.size = xs.length := by simp [strOfNums]
      omega
    unfold World.frozen?
    rw [Lib.bytesWorld_at_new]
    generalize (Lib.bytesCells w 5 (strOfNums xs)).size = z at *
    simp
    omega

end Go.Proofs.YtfcjahdkpjbggaaDoor
