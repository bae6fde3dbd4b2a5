/-
  math/bits.Len16 as a plain function of a number.
-/
import Derived.Test.YtaeddbkkkiefcaaRev
namespace Go.Proofs.Ytaeddbkkkiefcaa
open Go.RowKit Go.IntWalk

theorem fold_len : ({ data := (([0, 1, 2, 2, 3, 3, 3, 3, 4, 4, 4, 4, 4, 4, 4, 4, 5, 5, 5, 5, 5, 5, 5, 5, 5, 5, 5, 5, 5, 5, 5, 5, 6, 6, 6, 6, 6, 6, 6, 6, 6, 6, 6, 6, 6, 6, 6, 6, 6, 6, 6, 6, 6, 6, 6, 6, 6, 6, 6, 6, 6, 6, 6, 6].append [7, 7, 7, 7, 7, 7, 7, 7, 7, 7, 7, 7, 7, 7, 7, 7, 7, 7, 7, 7, 7, 7, 7, 7, 7, 7, 7, 7, 7, 7, 7, 7, 7, 7, 7, 7, 7, 7, 7, 7, 7, 7, 7, 7, 7, 7, 7, 7, 7, 7, 7, 7, 7, 7, 7, 7, 7, 7, 7, 7, 7, 7, 7, 7]).append ([8, 8, 8, 8, 8, 8, 8, 8, 8, 8, 8, 8, 8, 8, 8, 8, 8, 8, 8, 8, 8, 8, 8, 8, 8, 8, 8, 8, 8, 8, 8, 8, 8, 8, 8, 8, 8, 8, 8, 8, 8, 8, 8, 8, 8, 8, 8, 8, 8, 8, 8, 8, 8, 8, 8, 8, 8, 8, 8, 8, 8, 8, 8, 8].append [8, 8, 8, 8, 8, 8, 8, 8, 8, 8, 8, 8, 8, 8, 8, 8, 8, 8, 8, 8, 8, 8, 8, 8, 8, 8, 8, 8, 8, 8, 8, 8, 8, 8, 8, 8, 8, 8, 8, 8, 8, 8, 8, 8, 8, 8, 8, 8, 8, 8, 8, 8, 8, 8, 8, 8, 8, 8, 8, 8, 8, 8, 8, 8])).toArray } : ByteArray) = Go.Lib.len8tab := by decide +kernel
attribute [local go_sem ↓] fold_len

theorem len8_le : ∀ i : Nat, i < 256 → 0 ≤ Go.Lib.len8 i ∧ Go.Lib.len8 i ≤ 8 := by decide +kernel

theorem len8_in (x : Int) (h0 : 0 ≤ x) (h1 : x < 256) : 0 ≤ Go.Lib.len8 x ∧ Go.Lib.len8 x ≤ 8 := by
  obtain ⟨n, rfl⟩ := Int.eq_ofNat_of_zero_le h0
  exact len8_le n (by omega)

/-- How many bits a number has. -/
def lenS (s : Int) : Int := if 256 ≤ s then 8 + Go.Lib.len8 (s / 256) else Go.Lib.len8 s

theorem lenS_in (s : Int) (h0 : 0 ≤ s) (h1 : s < 65536) : 0 ≤ lenS s ∧ lenS s ≤ 16 := by
  unfold lenS
  split
  · have := len8_in (s / 256) (by omega) (by omega); omega
  · have := len8_in s h0 (by omega); omega

set_option maxRecDepth 100000 in
set_option maxHeartbeats 1000000 in
theorem len16_any (s : Int) (h0 : 0 ≤ s) (h1 : s < 65536) (w : World) :
    Calls Try.prog 81 #[.int .u16 s] w fun e w' => e = .returned (.int .i64 (lenS s)) ∧ w' = w := by
  by_cases h : 256 ≤ s
  · have e1 := hide (show lenS s = 8 + Go.Lib.len8 (s / 256) by unfold lenS; rw [if_pos h])
    have d0 : 0 ≤ s / 256 := by omega
    have d1 : s / 256 ≤ 255 := by omega
    obtain ⟨p0, p1⟩ := len8_in (s / 256) d0 (by omega)
    go_enter Try.func81, Try.ntmps81
    go_wp2
    go_ret
    rw [e1.out]
    exact ⟨rfl, rfl⟩
  · have e1 := hide (show lenS s = Go.Lib.len8 s by unfold lenS; rw [if_neg h])
    have d1 : s ≤ 255 := by omega
    obtain ⟨p0, p1⟩ := len8_in s h0 (by omega)
    go_enter Try.func81, Try.ntmps81
    go_wp2
    go_ret
    rw [e1.out]
    exact ⟨by first | rfl | (simp; done), rfl⟩

end Go.Proofs.Ytaeddbkkkiefcaa
