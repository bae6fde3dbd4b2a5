/-
  The document's Text: the numbers in decimal digits, points between them (txtC), or a refusal.
-/
import Derived.Test.YtfcjahdkpjbggaaDoorOEnc
import Derived.Test.YtfcjahdkpjbggaaDoorRDig
import Derived.Lib.Join
namespace Go.Proofs.YtfcjahdkpjbggaaDoor
open Go.RowKit Go.IntWalk

def txtL (xs : List Int) : List UInt8 := Lib.join (xs.map Lib.itoa) [46]
def txtC (xs : List Int) : ByteArray := if mayS xs = true then ⟨(txtL xs).toArray⟩ else ⟨#[]⟩

theorem itoa_dec (x : Int) (h : 0 ≤ x) : Lib.itoa x = Lib.decDigits x.toNat := by
  obtain ⟨u, rfl⟩ := Int.eq_ofNat_of_zero_le h
  rw [Lib.itoa_nonneg]
  rfl

theorem txtL_cons (x : Int) (ys : List Int) : txtL (x :: ys) = Lib.itoa x ++ Lib.joinTail [46] (ys.map Lib.itoa) := by
  unfold txtL
  rw [List.map_cons, Lib.join_cons]

theorem tail_next (ys : List Int) (k : Nat) (h : k < ys.length) : Lib.joinTail [46] ((ys.take (k + 1)).map Lib.itoa) = Lib.joinTail [46] ((ys.take k).map Lib.itoa) ++ [46] ++ Lib.itoa (ys.getD k 0) := by
  rw [List.map_take, List.map_take]
  exact Lib.joinTail_take_succ [46] (ys.map Lib.itoa) k _ (by simp [List.getD, h])

theorem tail_len : ∀ ys : List Int, (∀ x ∈ ys, 0 ≤ x ∧ x ≤ 2147483647) → (Lib.joinTail [46] (ys.map Lib.itoa)).length ≤ 22 * ys.length
  | [], _ => by simp [Lib.joinTail]
  | x :: l, h => by
    have h1 := tail_len l (fun y hy => h y (List.mem_cons_of_mem _ hy))
    have h2 := h x (List.mem_cons_self ..)
    have h3 := Lib.itoa_length_le x (by omega) (by omega)
    unfold Lib.joinTail at *
    rw [List.map_cons, List.map_cons, List.flatten_cons, List.length_append, List.length_append, List.length_cons]
    simp only [List.length_cons, List.length_nil]
    omega

end Go.Proofs.YtfcjahdkpjbggaaDoor
