/-
  The document's Take.
-/
import Derived.Test.YtilkbjohekhjcaaDoorSlEq
import Derived.Test.YtilkbjohekhjcaaDoorSlRPut
import Derived.Deep.DeepCutAuto
namespace Go.Proofs.YtilkbjohekhjcaaDoor
open Go.RowKit Go.IntWalk

theorem u8_inj {x y : Int} (hx : 0 ≤ x ∧ x < 256) (hy : 0 ≤ y ∧ y < 256) (h : UInt8.ofNat x.toNat = UInt8.ofNat y.toNat) : x = y := by
  have := congrArg UInt8.toNat h
  simp at this
  omega
theorem str_inj : ∀ (xs ys : List Int), (∀ x ∈ xs, 0 ≤ x ∧ x < 256) → (∀ x ∈ ys, 0 ≤ x ∧ x < 256) → strOfNums xs = strOfNums ys → xs = ys := by
  have key : ∀ (xs ys : List Int), (∀ x ∈ xs, 0 ≤ x ∧ x < 256) → (∀ x ∈ ys, 0 ≤ x ∧ x < 256) → (xs.map fun n => UInt8.ofNat n.toNat) = (ys.map fun n => UInt8.ofNat n.toNat) → xs = ys := by
    intro xs
    induction xs with
    | nil => intro ys _ _ h; cases ys with
      | nil => rfl
      | cons y ys => simp at h
    | cons x xs ih => intro ys hx hy h; cases ys with
      | nil => simp at h
      | cons y ys =>
        simp only [List.map_cons, List.cons.injEq] at h
        rw [u8_inj (hx x (by simp)) (hy y (by simp)) h.1, ih ys (fun a ha => hx a (by simp [ha])) (fun a ha => hy a (by simp [ha])) h.2]
  intro xs ys hx hy h
  refine key xs ys hx hy ?_
  rw [← strOfNums_data, ← strOfNums_data, h]

theorem OwnB.ne_typed {w : World} {base g n c m : Nat} {xs : List Int} {C : Array Value} {T : TypeId} (h : OwnB w base (.slice (some ⟨g, 0, none⟩) n c) xs) (hm : w.heap[m]? = some (Obj.cells C T (0, 0))) (hT : T ≠ 5) : g ≠ m := by
  intro e
  subst e
  obtain ⟨_, h | ⟨g', cap, cur, he, _, hh, _⟩⟩ := h
  · simp at h
  · simp at he
    obtain ⟨rfl, _, _⟩ := he
    rw [hm] at hh
    cases hh
    exact hT rfl
theorem grownBy_setCell0 (w : World) (g i : Nat) (v : Value) : w.grownBy (w.setCell ⟨g, i, none⟩ v) (some g) :=
  ⟨rfl, rfl, rfl, by simp, fun k _ hk => heap_setCell_other w ⟨g, i, none⟩ k v (fun e => hk (by simp [e]))⟩

end Go.Proofs.YtilkbjohekhjcaaDoor
