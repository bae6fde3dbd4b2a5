/-
  nat.Sub and nat.Mul: the difference and the product of numbers that may be.
-/
import Derived.Test.YtekhobmjjoegpabDoorNSum
namespace Go.Proofs.YtekhobmjjoegpabDoor
open Go.RowKit Go.IntWalk

/-- What is borrowed beyond a row that holds no less: nothing. -/
theorem no_borrow (P Z k s : Int) (hP : 0 < P) (hZ : Z < P) (hk : 0 ≤ k) (h : Z - P * k = s) (hs : 0 ≤ s) : k = 0 := by
  rcases Int.lt_or_le 0 k with h1 | h1
  · exfalso
    have := Int.mul_le_mul_of_nonneg_left (show 1 ≤ k by omega) (show 0 ≤ P by omega)
    omega
  · omega

theorem prod_lt (a b p q : Int) (ha : 0 ≤ a) (hap : a < p) (hb : 0 ≤ b) (hbq : b < q) : a * b < p * q := by
  have h1 := Int.mul_le_mul_of_nonneg_left (show b ≤ q by omega) ha
  have h2 := Int.mul_lt_mul_of_pos_right hap (show 0 < q by omega)
  omega

theorem sliceG_lhm {P : Program} {T : TypeId} (sT : TypeId) (hT : P.elem sT = T) (hu : P.underlying sT = some (.slice T)) (hsz : ∀ w : World, (sizeOf T).run P w = .ok 1 w) (w : World) (g n c : Nat) (l h : Int) (L k : Nat) (hl : l = (L : Int)) (hh : h = (L : Int) + (k : Int)) (hk : 0 < k) (hc : L + k ≤ c) :
    (Instr.slice sT (.slice (some ⟨g, 0, none⟩) n c) (some (.int .i64 l)) (some (.int .i64 h)) (some (.int .i64 h))).run P w = .ok (.slice (some ⟨g, L, none⟩) k k) w := by
  have hu' : P.underlying sT = some (.slice (P.elem sT)) := by rw [hT]; exact hu
  rw [run_slice_lhm w _ _ _ _ hu' .i64 .i64 .i64 l h h (by omega) (by omega) (by omega) (by omega), hT, hsz]
  have e1 : l.toNat = L := by omega
  have e2 : h.toNat = L + k := by omega
  simp only [Result.andThen_ok, sliced, e1, e2, Nat.mul_one]
  rw [if_neg (by omega), show L + k - L = k by omega]
  simp [addNone]

theorem mul_step (Z Z1 x V y P : Int) (h1 : Z = x * V) (h2 : Z1 = Z + P * (y * x)) : Z1 = x * (V + y * P) := by
  subst h1 h2
  grind

end Go.Proofs.YtekhobmjjoegpabDoor
