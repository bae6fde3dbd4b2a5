/-
  nat.moveDown: a row divided by a power of two below that of a limb.
-/
import Derived.Test.YtobdpcmafjhnlaaNDivRow
namespace Go.Proofs.Ytobdpcmafjhnlaa
open Go.RowKit Go.IntWalk

/-- What is known of a shift: its power of two, and what is missing to a limb's. -/
structure Sh (S D E : Int) : Prop where
  s0 : 0 ≤ S
  s1 : S ≤ 63
  d : D = 2 ^ S.toNat
  e : E = 2 ^ (64 - S).toNat
  m : D * E = 18446744073709551616
  d0 : 1 ≤ D
  e0 : 1 ≤ E

theorem sh_of (S : Int) (h0 : 0 ≤ S) (h1 : S ≤ 63) : Sh S (2 ^ S.toNat) (2 ^ (64 - S).toNat) := by
  refine ⟨h0, h1, rfl, rfl, ?_, ?_, ?_⟩
  · rw [← Int.pow_add, show S.toNat + (64 - S).toNat = 64 by omega]; decide
  · have := Int.pow_pos (n := 2) (m := S.toNat) (by decide); omega
  · have := Int.pow_pos (n := 2) (m := (64 - S).toNat) (by decide); omega

theorem shr_is {S D E : Int} (h : Sh S D E) (x : Int) : x / 2 ^ S.toNat = x / D := by rw [h.d]

theorem shl_is {S D E : Int} (h : Sh S D E) (z : Int) : IntKind.u64.wrap (z * 2 ^ (64 - S).toNat) = z % D * E := by
  rw [← h.e, IntKind.wrap_u64, ← h.m, Int.mul_comm z E, Int.mul_comm D E, Int.mul_emod_mul_of_pos _ _ (by have := h.e0; omega), Int.mul_comm]

theorem or_is {S D E : Int} (h : Sh S D E) (x z : Int) (hx0 : 0 ≤ x) (hx1 : x < 18446744073709551616) : bits .or .u64 (x / D) (z % D * E) = x / D + z % D * E ∧ 0 ≤ x / D + z % D * E ∧ x / D + z % D * E < 18446744073709551616 := by
  have d0 := h.d0
  have e0 := h.e0
  have a0 : 0 ≤ x / D := Int.ediv_nonneg hx0 (by omega)
  have a1 : x / D < E := Int.ediv_lt_of_lt_mul (by omega) (by have := h.m; rw [Int.mul_comm]; omega)
  have b0 := Int.emod_nonneg z (show D ≠ 0 by omega)
  have b1 := Int.emod_lt_of_pos z (show 0 < D by omega)
  have c0 := Int.mul_nonneg b0 (show 0 ≤ E by omega)
  have c1 := Int.mul_le_mul_of_nonneg_right (show z % D + 1 ≤ D by omega) (show 0 ≤ E by omega)
  have c2 : (z % D + 1) * E = z % D * E + E := by grind
  rw [c2, h.m] at c1
  refine ⟨?_, by omega, by omega⟩
  obtain ⟨A, hA⟩ := Int.eq_ofNat_of_zero_le a0
  obtain ⟨M, hM⟩ := Int.eq_ofNat_of_zero_le b0
  have hE : E = ((2 ^ (64 - S).toNat : Nat) : Int) := by rw [h.e, Int.natCast_pow]; rfl
  rw [hA, hM, hE, ← Int.natCast_mul]
  rw [hM, hE, ← Int.natCast_mul] at c1
  rw [hA, hE] at a1
  have h1 := bits_or_u64_nat A (M * 2 ^ (64 - S).toNat) (by omega) (by omega)
  rw [h1]
  have h2 := Nat.two_pow_add_eq_or_of_lt (show A < 2 ^ (64 - S).toNat by omega) M
  rw [Nat.or_comm, Nat.mul_comm M, ← h2]
  omega

/-- One limb of what is moved down. -/
theorem down_limb {S D E : Int} (h : Sh S D E) (x z : Int) : D * (x / D + z % D * E) = x - x % D + z % D * 18446744073709551616 := by
  have h1 := Int.mul_ediv_add_emod x D
  have h2 : D * (x / D + z % D * E) = D * (x / D) + z % D * (D * E) := by grind
  rw [h2, h.m]
  omega

theorem down_step (D A V d0 d dn x u P b : Int) (hu : D * u = x - d + dn * b) (hi : D * A = V - d0 + d * P) : D * (A + u * P) = V + x * P - d0 + dn * (b * P) := by
  have e : D * (A + u * P) = D * A + D * u * P := by grind
  rw [e, hi, hu]
  grind

theorem getD_drop {Z xs : List Int} {k : Nat} (h : Z.drop k = xs.drop k) (j : Nat) (hj : k ≤ j) : Z.getD j 0 = xs.getD j 0 := by
  have e1 : ∀ l : List Int, l.getD j 0 = (l.drop k).getD (j - k) 0 := by
    intro l
    simp [List.getD, List.getElem?_drop, show k + (j - k) = j by omega]
  rw [e1 Z, e1 xs, h]

set_option maxRecDepth 100000 in
set_option maxHeartbeats 2000000 in
theorem moveDown_any (g n : Nat) (xs : List Int) (S D E : Int) (w : World) (hr : RowG .u64 18446744073709551616 52 w g xs) (hn : xs.length = n) (hl : n ≤ 100000) (hS : Sh S D E) :
    Calls Try.prog 68 #[.slice (some ⟨g, 0, none⟩) n n, .int .i64 S] w fun e w' => ∃ Z : List Int, e = .returned (.tuple #[]) ∧ Z.length = n ∧ RowG .u64 18446744073709551616 52 w' g Z ∧
      D * val 18446744073709551616 Z = val 18446744073709551616 xs - xs.getD 0 0 % D ∧ w.grownBy w' (some g) ∧ w'.heap.size = w.heap.size := by
  have HN := hide hn
  have HLL := hide hl
  have hmI : (n : Int) < 9223372036854775807 := by omega
  have HS := hide hS
  have s0 := hS.s0
  have s1 := hS.s1
  have HX := hide hr.2
  have w64 : IntKind.i64.wrap (64 - S) = 64 - S := i64_in _ (by omega)
  have p64 : 0 ≤ 64 - S := by omega
  clear hn hl hS
  go_enter Try.func68, Try.ntmps68
  go_wp2
  go_loopw [7] (fun i wr => ∃ (k : Nat) (Z : List Int), k ≤ n ∧ i = .int .i64 k ∧ Hid (Z.length = n) ∧ Hid (RowG .u64 18446744073709551616 52 wr g Z) ∧ Hid (Z.drop k = xs.drop k) ∧ Hid (D * val 18446744073709551616 (Z.take k) = val 18446744073709551616 (xs.take k) - xs.getD 0 0 % D + xs.getD k 0 % D * pw 18446744073709551616 k) ∧ w.grownBy wr (some g) ∧ Hid (wr.heap.size = w.heap.size)) (fun i _ => n - (intOf i).toNat)
  case atStart => exact ⟨0, xs, Nat.zero_le _, rfl, HN, hr, rfl, by unfold Hid; simp [val, pw] <;> omega, World.grownBy.refl _ _, rfl⟩
  case round =>
    obtain ⟨k, Z, hk, rfl, HZ, HR, HD, HV, hg, HSZ⟩ := hrel
    by_cases hkn : k < n
    · have hkI : (k : Int) < (n : Int) := by omega
      have hw1 : IntKind.i64.wrap ((k : Int) + 1) = (k : Int) + 1 := i64_in _ (by omega)
      have e1 := HR.out.cell k (by rw [HZ.out]; exact hkn)
      have ef := HR.out.frozen k
      have hx0 := HX.out.at (by decide : (0 : Int) < 18446744073709551616) k
      have hcl : ∀ W : World, SrcG .u64 18446744073709551616 W (some ⟨g, 0, none⟩) n n Z → Calls Try.prog 74 #[.slice (some ⟨g, 0, none⟩) n n, .int .i64 ((k : Int) + 1)] W fun e w' => e = .returned (.int .u64 (xs.getD (k + 1) 0)) ∧ w' = W := by
        intro W hW
        rw [← getD_drop HD.out (k + 1) (by omega)]
        exact limb_any _ n n Z (k + 1) _ (by omega) W hW
      have hsrc : SrcG .u64 18446744073709551616 wr (some ⟨g, 0, none⟩) n n Z := by
        have := HR.out.srcAll (by rw [HZ.out]; have := HLL.out; unfold maxLen; omega)
        rwa [HZ.out] at this
      rw [getD_drop HD.out k (Nat.le_refl _)] at e1
      have f1 := shr_is HS.out (xs.getD k 0)
      have f2 := shl_is HS.out (xs.getD (k + 1) 0)
      obtain ⟨f3, f4, f5⟩ := or_is HS.out (xs.getD k 0) (xs.getD (k + 1) 0) hx0.1 hx0.2
      have f6 := down_limb HS.out (xs.getD k 0) (xs.getD (k + 1) 0)
      obtain ⟨u, hu⟩ : ∃ u, xs.getD k 0 / D + xs.getD (k + 1) 0 % D * E = u := ⟨_, rfl⟩
      rw [hu] at f3 f4 f5 f6
      obtain ⟨d, hd⟩ : ∃ d, xs.getD k 0 / D = d := ⟨_, rfl⟩
      obtain ⟨e, he⟩ : ∃ e, xs.getD (k + 1) 0 % D * E = e := ⟨_, rfl⟩
      rw [hd] at f1 f3
      rw [he] at f2 f3
      have HV' : Hid (D * val 18446744073709551616 ((Z.set k u).take (k + 1)) = val 18446744073709551616 (xs.take (k + 1)) - xs.getD 0 0 % D + xs.getD (k + 1) 0 % D * pw 18446744073709551616 (k + 1)) := by
        unfold Hid
        rw [val_take_succ, val_take_succ, List.take_set_of_le (Nat.le_refl _), pw_succ]
        have e5 : (Z.set k u).getD k 0 = u := by simp [List.getD, List.getElem?_set_self (show k < Z.length by rw [HZ.out]; exact hkn)]
        rw [e5]
        have := down_step D _ _ _ _ _ _ u (pw 18446744073709551616 k) 18446744073709551616 f6 HV.out
        rw [this]
      clear hu hd he f6 HV
      obtain ⟨x, hx⟩ : ∃ x, xs.getD k 0 = x := ⟨_, rfl⟩
      obtain ⟨z, hz⟩ : ∃ z, xs.getD (k + 1) 0 = z := ⟨_, rfl⟩
      rw [hx] at e1 f1
      rw [hz] at hcl f2
      have HCL := hide hcl
      have HSRC := hide hsrc
      have HR' : Hid (RowG .u64 18446744073709551616 52 (wr.setCell ⟨g, k, none⟩ (.int .u64 u)) g (Z.set k u)) := HR.out.set k u ⟨f4, f5⟩
      have hG' := gTrans hg (gSet wr g k (.int .u64 u))
      have HG' := hide hG'
      clear hcl hsrc hx hz hG' hg hx0
      go_wp2_with fail
      go_region_with ((go_at_call 74; refine (HCL.out _ ?_).mono ?_; exact HSRC.out.heap rfl; rintro e w1 ⟨rfl, hw⟩; have hw2 := hw.symm; subst hw2))
      all_goals go_wp2
      all_goals go_roundw
      case rel => exact ⟨k + 1, Z.set k u, by omega, by go_num, by unfold Hid; rw [List.length_set]; exact HZ.out, HR'.out.heap rfl, drop_next HD.out u, HV', ⟨HG'.out.os, HG'.out.tape, HG'.out.output, HG'.out.size, HG'.out.block⟩, by unfold Hid; simp [HSZ.out]⟩
      case measure => simp [intOf] <;> omega
      case rel => exact ⟨k + 1, Z.set k u, by omega, by go_num, by unfold Hid; rw [List.length_set]; exact HZ.out, HR'.out.heap rfl, drop_next HD.out u, HV', ⟨HG'.out.os, HG'.out.tape, HG'.out.output, HG'.out.size, HG'.out.block⟩, by unfold Hid; simp [HSZ.out]⟩
      case measure => simp [intOf] <;> omega
    · obtain rfl : k = n := by omega
      go_wp2
      go_end0
      refine ⟨Z, rfl, HZ.out, HR.out, ?_, hg, HSZ.out⟩
      have hv := HV.out
      rw [List.take_of_length_le (by rw [HZ.out]; exact Nat.le_refl _), List.take_of_length_le (by rw [HN.out]; exact Nat.le_refl _), show xs.getD k 0 = 0 by rw [List.getD, List.getElem?_eq_none (by rw [HN.out]; exact Nat.le_refl _)]; rfl] at hv
      rw [hv]
      simp

end Go.Proofs.Ytobdpcmafjhnlaa
