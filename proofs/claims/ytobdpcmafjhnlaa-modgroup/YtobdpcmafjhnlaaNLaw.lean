/-
  The statements' own helpers: lent, kept, same, own, two, names.
-/
import Derived.Test.YtobdpcmafjhnlaaNRefSum
import Derived.OwnWalk
namespace Go.Proofs.Ytobdpcmafjhnlaa
open Go.RowKit Go.IntWalk

/-- Limbs that were lent: copied, with a mark in the room behind them. -/
structure Lent (w : World) (base g n c : Nat) (xs : List Int) : Prop where
  own : OwnG .u64 52 w base (.slice (some ⟨g, 0, none⟩) (n + 1) c) (xs ++ [77])
  cap : n + 1 ≤ c
  max : c ≤ maxLen
  dg : Dg 18446744073709551616 xs
  len : xs.length = n

theorem Lent.dg2 {w : World} {base g n c : Nat} {xs : List Int} (h : Lent w base g n c xs) : Dg 18446744073709551616 (xs ++ [77]) := h.dg.append (by intro x hx; simp at hx; omega)

theorem Lent.src {w : World} {base g n c : Nat} {xs : List Int} (h : Lent w base g n c xs) : SrcG .u64 18446744073709551616 w (some ⟨g, 0, none⟩) n c xs :=
  h.own.src h.dg2 n (by omega) (by rw [List.take_append_of_le_length (by rw [h.len]; exact Nat.le_refl _), List.take_of_length_le (by rw [h.len]; exact Nat.le_refl _)]) h.max

theorem Lent.below {w w' : World} {base g n c : Nat} {xs : List Int} (h : Lent w base g n c xs) (hb : Below w.heap.size w w') : Lent w' base g n c xs := ⟨h.own.belowA hb, h.cap, h.max, h.dg, h.len⟩

theorem Lent.drew {w w' : World} {base g n c : Nat} {xs : List Int} (h : Lent w base g n c xs) (hb : Drew w w') : Lent w' base g n c xs := ⟨h.own.heap hb.heap, h.cap, h.max, h.dg, h.len⟩

theorem pw_base {a b : Int} (ha : 1 ≤ a) (hab : a ≤ b) : ∀ i, pw a i ≤ pw b i
  | 0 => Int.le_refl _
  | i + 1 => by
    have h1 := pw_base ha hab i
    have h2 := pw_pos (b := a) (by omega) i
    exact Int.mul_le_mul hab h1 (by omega) (by omega)

theorem tr_short {zs : List Int} (hz : Dg 18446744073709551616 zs) (ht : Tr zs) (L : Nat) (h : val 18446744073709551616 zs < pw 65536 L) : zs.length ≤ L := by
  have h1 := pw_base (a := 65536) (b := 18446744073709551616) (by decide) (by decide) L
  rcases Nat.lt_or_ge L zs.length with h2 | h2
  · exfalso
    have h3 := tr_low (b := 18446744073709551616) (by decide) hz ht (by intro h'; rw [h'] at h2; simp at h2)
    have h4 := pw_mono (b := 18446744073709551616) (by decide) L (zs.length - 1) (by omega)
    omega
  · exact h2

end Go.Proofs.Ytobdpcmafjhnlaa
