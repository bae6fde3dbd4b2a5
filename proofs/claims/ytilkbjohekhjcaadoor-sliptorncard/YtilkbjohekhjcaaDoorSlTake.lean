/-
  slip.read, slip.Take: the slip with which bytes begin.
-/
import Derived.Test.YtilkbjohekhjcaaDoorSlPut
import Derived.Test.YtilkbjohekhjcaaDoorClone
import Derived.WalkSpells
namespace Go.Proofs.YtilkbjohekhjcaaDoor
open Go.RowKit Go.IntWalk

def dataOf (xs : List Int) : List Int := (xs.take (xs.length - 4)).drop 3

set_option maxRecDepth 100000 in
set_option maxHeartbeats 2000000 in
theorem read_any (ao : Option Addr) (n cap : Nat) (xs : List Int) (w : World) (hs : Src w ao n cap xs) (hn : 7 ≤ n) (hN : n ≤ 140737488355328) :
    Calls Tryd.prog 16 #[.slice ao n cap] w fun e w' => ∃ ao' c', e = .returned (.agg #[.int .i64 (xs.getD 0 0), .slice ao' (n - 7) c']) ∧ OwnB w' w.heap.size (.slice ao' (n - 7) c') (dataOf xs) ∧ Below w.heap.size w w' := by
  obtain ⟨b, off, rfl, h0⟩ := src_byte hs 0 (by omega)
  have b0 := byte_bd hs.hbyt 0
  have hlen := hs.hlen
  have hcap := hs.hcap
  have hs1 := hs.cut 3 (n - 4) (by omega) (by omega)
  have sl := fun W => slice_lh W (some ⟨b, off, none⟩) n cap 3 ((n : Int) - 4) 3 (n - 4) rfl (by omega) (by omega) (by omega)
  have hw4 : IntKind.i64.wrap ((n : Int) - 4) = (n : Int) - 4 := i64_in _ (by omega)
  have hz0 : (0 : Int) < (n : Int) := by omega
  have hc0 : IntKind.i64.wrap (xs.getD 0 0) = xs.getD 0 0 := i64_in _ (by omega)
  rw [show n - 4 - 3 = n - 7 by omega] at hs1 sl
  have hy : (xs.take (n - 4)).drop 3 = dataOf xs := by unfold dataOf; rw [hlen]
  rw [hy] at hs1
  generalize dataOf xs = ys at hs1 ⊢
  generalize cutA (some ⟨b, off, none⟩) cap 3 = A at hs1 sl
  simp only [Nat.add_zero] at h0
  generalize xs.getD 0 0 = x0 at *
  have HS1 := hide hs1
  have hbl : b < w.heap.size := lt_of_cell h0
  have hne : ¬ b = w.heap.size := by omega
  have hne' : ¬ w.heap.size = b := by omega
  have hzN : 0 < n := by omega
  clear hs hs1 hy
  go_enter Tryd.func16, Tryd.ntmps16
  go_wp2
  go_region_held3 (fun W => W.cell? ⟨b, off, none⟩ = some (.int .u8 x0)) (go_keep) (first | (go_at_call 14; refine (cloneN_any _ _ _ ys _ (by exact (HS1.out.alloc _).drewN 1) (by omega)).mono ?_; rintro e w1 ⟨ao', c', rfl, hv, hb1⟩; obtain ⟨hc, hf⟩ := bcell hb1; have k0 : w1.cell? ⟨b, off, none⟩ = some (.int .u8 x0) := ((hc _ _ (by simp; omega)).trans ((Below.cell (p := ⟨b, off, none⟩) (((Below.refl _ _).alloc (Nat.le_refl _) _).drew) hbl).trans h0)); have hz : w.heap.size < w1.heap.size := by (have := hb1.size; simp at this; omega)))
  go_wp2
  refine bodyPost_ret (v := .agg #[.int .i64 x0, .slice ao' (n - 7) c']) (by simp [results, Tryd.results16, go_sem, hc]) rfl ⟨ao', c', rfl, ?_, ?_⟩
  · exact ((hv.setBelow (by simp) _).setBelow (by simp) _).rebase (by simp)
  · exact (((((Below.refl _ _).alloc (Nat.le_refl _) _).drew).trans (hb1.mono (by simp))).setCell (by simp) _).setCell (by simp) _

theorem findS_cases (xs : List Int) (hb : ∀ x ∈ xs, 0 ≤ x ∧ x < 256) : (∃ err : Int, err ≠ 0 ∧ (err = 90 ∨ err = 91) ∧ findS xs = (0, err)) ∨ (∃ D : Nat, D ≤ 65535 ∧ dataN xs = (D : Int) ∧ D + 7 ≤ xs.length ∧ sumS (xs.take (D + 3)) = le4 (xs.drop (D + 3)) ∧ findS xs = ((D : Int) + 7, 0)) := by
  have hd := dataN_bd hb
  obtain ⟨D, hD⟩ : ∃ D : Nat, dataN xs = (D : Int) := ⟨_, (Int.toNat_of_nonneg hd.1).symm⟩
  unfold findS
  rw [hD] at hd ⊢
  by_cases h1 : xs.length < 3
  · exact .inl ⟨90, by decide, .inl rfl, by rw [if_pos h1]⟩
  · rw [if_neg h1]
    by_cases h2 : (xs.length : Int) < (D : Int) + 7
    · exact .inl ⟨90, by decide, .inl rfl, by rw [if_pos h2]⟩
    · rw [if_neg h2]
      simp only [Int.toNat_natCast]
      by_cases h3 : sumS (xs.take (D + 3)) = le4 (xs.drop (D + 3))
      · exact .inr ⟨D, by omega, rfl, by omega, h3, by rw [if_neg (by simpa using h3)]⟩
      · exact .inl ⟨91, by decide, .inr rfl, by rw [if_pos (by simpa using h3)]⟩

/-- The slip that is told of bytes. -/
def slipK (xs : List Int) : Int := if (findS xs).2 = 0 then xs.getD 0 0 else 0
def slipD (xs : List Int) : List Int := if (findS xs).2 = 0 then dataOf (xs.take (findS xs).1.toNat) else []

theorem slipD_len (xs : List Int) (hb : ∀ x ∈ xs, 0 ≤ x ∧ x < 256) : (slipD xs).length ≤ 65535 := by
  unfold slipD
  split
  · rcases findS_cases xs hb with ⟨err, h1, h2, he⟩ | ⟨D, h1, h2, h3, h4, he⟩
    · rename_i h; rw [he] at h; exact absurd h h1
    · rw [he]; unfold dataOf; simp; omega
  · simp

end Go.Proofs.YtilkbjohekhjcaaDoor
