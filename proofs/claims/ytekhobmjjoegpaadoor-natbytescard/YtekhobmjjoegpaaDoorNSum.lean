/-
  nat.Compare, nat.Add, nat.Sub, nat.Mul: what they answer of any limbs that may be, or that they may not be.
-/
import Derived.Test.YtekhobmjjoegpaaDoorNTimes
import Derived.Deep.RegionHeld3
namespace Go.Proofs.YtekhobmjjoegpaaDoor
open Go.RowKit Go.IntWalk

theorem SrcG.trm {κ : IntKind} {B : Int} {w : World} {ao : Option Addr} {n c : Nat} {xs : List Int} (hs : SrcG κ B w ao n c xs) : SrcG κ B w ao (trm xs).length (trm xs).length (trm xs) := by
  obtain ⟨m, hm, he⟩ := trm_take xs
  have hl : (Go.Proofs.YtekhobmjjoegpaaDoor.trm xs).length = m := by rw [he, List.length_take]; omega
  rw [hl, he]
  exact hs.head m (by rw [← hs.hlen]; exact hm)

theorem makeU (M : Nat) (m : Int) (hm : m = (M : Int)) (hM : M ≤ 1000000) (W : World) :
    (Instr.makeSlice 24 (.int .i64 m) (.int .i64 m)).run Tryd.prog W = .ok (.slice (some ⟨W.heap.size, 0, none⟩) M M) (W.alloc (.cells (madeCells #[.int .u64 0] M) 48)) := by
  subst hm
  obtain ⟨i0, hi, hz0, hz1, hz2⟩ := info_parts Tryd.infoU
  rw [run_make W _ _ i0 (.int .u64 0) Tryd.underlying24 hi hz0 .i64 .i64 (M : Int) (M : Int) (by omega) (by omega) (by rw [hz2]; omega) (by omega)]
  rw [hz1]
  simp [Value.cells]

theorem trm_rest (xs : List Int) : ∃ rest, xs = trm xs ++ rest := by
  obtain ⟨m, _, he⟩ := trm_take xs
  exact ⟨xs.drop m, by rw [he, List.take_append_drop]⟩

theorem RowG.got {κ : IntKind} {B : Int} {T : TypeId} {w : World} {g base : Nat} {Z : List Int} (h : RowG κ B T w g Z) (hb : base ≤ g) (hl : Z.length ≤ 1000000) : GotG κ B T w base (.slice (some ⟨g, 0, none⟩) (trm Z).length (trm Z).length) (trm Z) := by
  obtain ⟨rest, he⟩ := trm_rest Z
  exact ⟨g, rest, rfl, hb, by rw [← he]; exact h, by have := trm_len Z; omega⟩

theorem tr_len_le {b : Int} (hb : 0 < b) {zs : List Int} (hz : Dg b zs) (ht : Tr zs) (m : Nat) (hv : val b zs < pw b m) : zs.length ≤ m := by
  rcases Nat.lt_or_ge m zs.length with h | h
  · exfalso
    have h1 := tr_low hb hz ht (by intro h'; subst h'; simp at h)
    have h2 := pw_mono (show 1 ≤ b by omega) m (zs.length - 1) (by omega)
    omega
  · exact h

/-- What is carried out of a row that is long enough: nothing. -/
theorem no_carry (P Z k s : Int) (hP : 0 < P) (hZ : 0 ≤ Z) (hk : 0 ≤ k) (h : Z + P * k = s) (hs : s < P) : k = 0 := by
  rcases Int.lt_or_le 0 k with h1 | h1
  · exfalso
    have := Int.mul_le_mul_of_nonneg_left (show 1 ≤ k by omega) (show 0 ≤ P by omega)
    omega
  · omega


theorem val_pad (b : Int) (X : List Int) (k : Nat) : val b (X ++ List.replicate k 0) = val b X := by rw [val_append, val_rep]; omega

/-- A number copied to the beginning of a row of noughts. -/
theorem copyU (w : World) (g M m c : Nat) (so : Option Addr) (X : List Int) (hrow : RowG .u64 18446744073709551616 48 w g (List.replicate M 0)) (hsrc : SrcG .u64 18446744073709551616 w so m c X) (hm : m ≤ M) (D : Nat) (w0 : World) (hb : Below D w0 w) (hD : D ≤ g) :
    ∃ w', (Builtin.copy_ #[24, 24] 3 #[.slice (some ⟨g, 0, none⟩) M M, .slice so m c]).run Tryd.prog w = .ok (goInt m) w' ∧ RowG .u64 18446744073709551616 48 w' g (X ++ List.replicate (M - m) 0) ∧ Below D w0 w' := by
  have hl := hsrc.hlen
  have hc : w.heap[g]? = some (.cells (List.replicate M (Value.int .u64 0)).toArray 48 (0, 0)) := by
    have := hrow.1
    simpa using this
  rcases Nat.eq_zero_or_pos m with h0 | h0
  · subst h0
    obtain rfl : X = [] := List.eq_nil_of_length_eq_zero hl
    exact ⟨w, run_copy_none (P := Tryd.prog) w _ _ _ 48 _ _ _ _ _ _ Tryd.underlying24 (by kernel_rfl) (Nat.zero_min _), by simpa using hrow, hb⟩
  · obtain ⟨b, off, rfl, hcell⟩ := hsrc.hrd (by intro h; subst h; simp at hl; omega)
    refine ⟨_, ?_, ?_, below_setRow hb hD ((X.map (Value.int .u64)) ++ List.replicate (M - m) (Value.int .u64 0)).toArray⟩
    · have := run_copy_row (P := Tryd.prog) w 24 24 3 48 g 0 M M ⟨b, off, none⟩ m c _ 48 (X.map (Value.int .u64)) Tryd.underlying24 (by kernel_rfl) hc (by rw [List.length_map, hl]; exact (Nat.min_eq_left hm).symm) ?_ (by simp; omega) (ints_one _ _)
      · rw [this]
        simp [hl]
      · intro j v hj
        have hjl : j < X.length := by
          rcases Nat.lt_or_ge j X.length with h | h
          · exact h
          · simp [List.getElem?_eq_none (show (X.map (Value.int .u64)).length ≤ j by simpa using h)] at hj
        rw [addNone, hcell j hjl]
        simp [List.getElem?_eq_getElem hjl] at hj
        subst hj
        simp [List.getD, List.getElem?_eq_getElem hjl]
    · refine ⟨?_, hsrc.hdg.append (fun x hx => by simp [List.mem_replicate] at hx; omega)⟩
      rw [setRow_heap w g _ _ 48 _ hc]
      simp

theorem SrcG.away {κ : IntKind} {B : Int} {w : World} {ao : Option Addr} {n c : Nat} {xs : List Int} (h : SrcG κ B w ao n c xs) {g : Nat} (hg : w.heap.size ≤ g) : ∀ b o, ao = some ⟨b, o, none⟩ → xs ≠ [] → b ≠ g := by
  intro b o he hx hb
  have := h.blk b o he hx
  omega

end Go.Proofs.YtekhobmjjoegpaaDoor
