/-
  A number's last digits, plainly, and several of them with a sign between.
-/
import Derived.Test.YtnpimjfdidbdfaaDoorBts
import Derived.Lib.Join
namespace Go.Proofs.YtnpimjfdidbdfaaDoor
open Go.RowKit

/-- A number's last k digits, as bytes. -/
def dg : Nat → Nat → List Int
  | 0, _ => []
  | k + 1, n => (48 + ((n / 10 ^ k % 10 : Nat) : Int)) :: dg k n

theorem dg_len (k n : Nat) : (dg k n).length = k := by
  induction k with
  | zero => rfl
  | succ k ih => rw [dg, List.length_cons, ih]

theorem dg_byte (k n : Nat) : ∀ x ∈ dg k n, 48 ≤ x ∧ x ≤ 57 := by
  induction k with
  | zero => intro x hx; cases hx
  | succ k ih =>
    intro x hx
    rw [dg, List.mem_cons] at hx
    rcases hx with rfl | hx
    · omega
    · exact ih x hx

theorem dg_bytes (k n : Nat) : ∀ x ∈ dg k n, 0 ≤ x ∧ x < 256 := fun x hx => by have := dg_byte k n x hx; omega

/-- Numbers by their last k digits, with a sign between one and the next. -/
def joinI (k : Nat) (sep : List Int) : List Nat → List Int
  | [] => []
  | x :: l => dg k x ++ (l.map fun y => sep ++ dg k y).flatten

theorem joinTail_dg (k : Nat) (sep : List Int) : ∀ l : List Nat, Lib.joinTail (strOfNums sep).data.toList ((l.map fun x => strOfNums (dg k x)).map (·.data.toList)) = ((l.map fun y => sep ++ dg k y).flatten).map fun n => UInt8.ofNat n.toNat
  | [] => rfl
  | x :: l => by
    have ih := joinTail_dg k sep l
    unfold Lib.joinTail at ih ⊢
    simp only [List.map_cons, List.flatten_cons, List.map_append]
    rw [ih, strOfNums_data, strOfNums_data]

theorem join_dg (k : Nat) (sep : List Int) (l : List Nat) : (⟨(Lib.join ((l.map fun x => strOfNums (dg k x)).map (·.data.toList)) (strOfNums sep).data.toList).toArray⟩ : ByteArray) = strOfNums (joinI k sep l) := by
  cases l with
  | nil => rfl
  | cons x l =>
    simp only [List.map_cons]
    rw [Lib.join_cons, joinTail_dg]
    unfold strOfNums joinI
    simp

theorem joinI_len (k : Nat) (sep : List Int) (l : List Nat) (hs : sep.length ≤ 1) : (joinI k sep l).length ≤ (k + 1) * l.length := by
  have h : ∀ l : List Nat, ((l.map fun y => sep ++ dg k y).flatten).length ≤ (k + 1) * l.length := by
    intro l
    induction l with
    | nil => simp
    | cons x l ih =>
      rw [List.map_cons, List.flatten_cons, List.length_append, List.length_append, dg_len, List.length_cons, Nat.mul_add]
      omega
  cases l with
  | nil => simp [joinI]
  | cons x l =>
    have := h l
    rw [joinI, List.length_append, dg_len, List.length_cons, Nat.mul_add]
    omega

end Go.Proofs.YtnpimjfdidbdfaaDoor
