/-
  A text as it is compared: what is laid of its words. No program, but for the letters' call.
-/
import Derived.Test.YtfoacocnkdkdeaaGreatDoorTxW
import Derived.Test.YtfoacocnkdkdeaaGreatDoorBts
namespace Go.Proofs.YtfoacocnkdkdeaaGreatDoor
open Go.RowKit Go.IntWalk

/-- The small letter of a great one. -/
def smallB (b : UInt8) : UInt8 := if 65 ≤ b.toNat ∧ b.toNat ≤ 90 then b + 32 else b
/-- What is laid, with one blank ahead of the next word. -/
def gap (acc : List UInt8) : List UInt8 := if acc.length = 0 then acc else acc ++ [32]
/-- What is laid of some words behind what lies. -/
def lay (acc : List UInt8) : List (List UInt8) → List UInt8
  | [] => acc
  | u :: ws => lay (gap acc ++ u.map smallB) ws
/-- A text as it is compared. -/
def foldL (l : List UInt8) : List UInt8 := lay [] (wordsL l)
/-- Bytes as numbers. -/
def nums (l : List UInt8) : List Int := l.map (fun b => (b.toNat : Int))

theorem gap_len (acc : List UInt8) : (gap acc).length ≤ acc.length + 1 := by unfold gap; split <;> simp

theorem lay_len : ∀ (ws : List (List UInt8)) (acc : List UInt8), (lay acc ws).length ≤ acc.length + spanW ws
  | [], acc => by simp [lay, spanW]
  | u :: ws, acc => by
    have h := lay_len ws (gap acc ++ u.map smallB)
    have g := gap_len acc
    rw [List.length_append, List.length_map] at h
    simp only [lay, spanW]
    omega

theorem nums_len (l : List UInt8) : (nums l).length = l.length := by simp [nums]
theorem nums_append (a b : List UInt8) : nums (a ++ b) = nums a ++ nums b := by simp [nums]
theorem nums_bytes (l : List UInt8) : ∀ x ∈ nums l, 0 ≤ x ∧ x < 256 := by
  intro x hx
  obtain ⟨b, _, rfl⟩ := List.mem_map.1 hx
  have := b.toNat_lt
  omega

theorem nums_text (l : List UInt8) : strOfNums (nums l) = ⟨l.toArray⟩ := by
  apply ByteArray.ext
  apply Array.ext'
  rw [strOfNums_data]
  unfold nums
  rw [List.map_map]
  show l.map _ = l
  conv => rhs; rw [← List.map_id l]
  apply List.map_congr_left
  intro b _
  show UInt8.ofNat ((b.toNat : Int).toNat) = b
  simp

theorem small_num (b : UInt8) : ((smallB b).toNat : Int) = if (65 : Int) ≤ (b.toNat : Int) ∧ (b.toNat : Int) ≤ 90 then (b.toNat : Int) + 32 else (b.toNat : Int) := by
  unfold smallB
  by_cases h : 65 ≤ b.toNat ∧ b.toNat ≤ 90
  · rw [if_pos h, if_pos (by omega), UInt8.toNat_add]
    have e : (32 : UInt8).toNat = 32 := rfl
    rw [e]
    omega
  · rw [if_neg h, if_neg (by omega)]

theorem take_nextI (u : List UInt8) (k : Nat) (h : k < u.length) : (u.take (k + 1)).map smallB = (u.take k).map smallB ++ [smallB (u[k]'h)] := by
  rw [List.take_succ_eq_append_getElem h, List.map_append]
  rfl

end Go.Proofs.YtfoacocnkdkdeaaGreatDoor
