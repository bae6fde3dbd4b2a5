/-
  nat.Bytes: a number's bytes, the highest first, without bytes 0 ahead.
-/
import Derived.Test.YtekhobmjjoegpaaDoorNSize
namespace Go.Proofs.YtekhobmjjoegpaaDoor
open Go.RowKit Go.IntWalk

theorem Tryd.infoB : (Tryd.prog.info? 5).map (fun i => (i.zero, i.size, i.bytes)) = some (some (.int .u8 0), 1, 1) := by kernel_rfl
theorem Tryd.elemB : Tryd.prog.elem 22 = 5 := by kernel_rfl
theorem Tryd.sizeOfB (w : World) : (sizeOf 5).run Tryd.prog w = .ok 1 w := by kernel_rfl

theorem makeB (M : Nat) (m : Int) (hm : m = (M : Int)) (hM : M ≤ 1000000) (W : World) :
    (Instr.makeSlice 22 (.int .i64 m) (.int .i64 m)).run Tryd.prog W = .ok (.slice (some ⟨W.heap.size, 0, none⟩) M M) (W.alloc (.cells (madeCells #[.int .u8 0] M) 5)) := by
  subst hm
  obtain ⟨i0, hi, hz0, hz1, hz2⟩ := info_parts Tryd.infoB
  rw [run_make W _ _ i0 (.int .u8 0) Tryd.underlying22 hi hz0 .i64 .i64 (M : Int) (M : Int) (by omega) (by omega) (by rw [hz2]; omega) (by omega)]
  rw [hz1]
  simp [Value.cells]

theorem rev_set (Z : List Int) (k : Nat) (d : Int) (h : k < Z.length) : (Z.set (Z.length - 1 - k) d).reverse = Z.reverse.set k d := by
  apply List.ext_getElem
  · simp
  · intro j h1 h2
    simp only [List.length_reverse, List.length_set] at h1 h2
    rw [List.getElem_reverse, List.getElem_set, List.getElem_set, List.getElem_reverse]
    simp only [List.length_set]
    by_cases hj : k = j
    · subst hj; simp
    · rw [if_neg (by omega), if_neg hj]

theorem rev_getD (Z : List Int) (k : Nat) (h : k < Z.length) : Z.reverse.getD k 0 = Z.getD (Z.length - 1 - k) 0 := by
  rw [List.getD, List.getD, List.getElem?_reverse h]

theorem emod_step (V P b : Int) (hP : 0 < P) (hb : 0 < b) : V % (b * P) = V % P + (V / P % b) * P := by
  have h1 := Int.mul_ediv_add_emod V P
  have h2 := Int.mul_ediv_add_emod (V / P) b
  have a0 := Int.emod_nonneg V (show P ≠ 0 by omega)
  have a1 := Int.emod_lt_of_pos V hP
  have b0 := Int.emod_nonneg (V / P) (show b ≠ 0 by omega)
  have b1 := Int.emod_lt_of_pos (V / P) hb
  have e : V = (V % P + (V / P % b) * P) + (b * P) * (V / P / b) := by
    have e3 : P * (V / P) = P * (b * (V / P / b) + V / P % b) := by rw [h2]
    have e4 : P * (b * (V / P / b) + V / P % b) = (b * P) * (V / P / b) + (V / P % b) * P := by
      rw [Int.mul_add, ← Int.mul_assoc, Int.mul_comm P b, Int.mul_comm P (V / P % b)]
    omega
  have c0 := Int.mul_nonneg b0 (show 0 ≤ P by omega)
  have c1 := Int.mul_le_mul_of_nonneg_right (show V / P % b + 1 ≤ b by omega) (show 0 ≤ P by omega)
  rw [Int.add_mul, Int.one_mul] at c1
  have e5 : (V % P + (V / P % b) * P) % (b * P) = V % P + (V / P % b) * P := Int.emod_eq_of_lt (by omega) (by omega)
  have e6 : V % (b * P) = ((V % P + (V / P % b) * P) + (b * P) * (V / P / b)) % (b * P) := congrArg (fun z => z % (b * P)) e
  rw [e6, Int.add_mul_emod_self_left, e5]

set_option maxRecDepth 100000 in
set_option maxHeartbeats 2000000 in
theorem bytes_ok (a1 : Option Addr) (n1 c1 : Nat) (xs : List Int) (w : World) (h1 : SrcG .u64 18446744073709551616 w a1 n1 c1 xs) (l1 : (trm xs).length ≤ 64) :
    Calls Tryd.prog 9 #[.slice a1 n1 c1] w fun e w' => ∃ v bs S, e = .returned (.tuple #[v, .int .i64 0]) ∧ GotG .u8 256 5 w' w.heap.size v bs ∧ val 256 bs.reverse = val 18446744073709551616 xs ∧ BL (val 18446744073709551616 xs) S ∧ S ≤ 4096 ∧ bs.length = (S + 7) / 8 ∧ Below w.heap.size w w' := by
  have d1 := hide h1.hdg
  obtain ⟨X, hX⟩ : ∃ X, trm xs = X := ⟨_, rfl⟩
  have vX := hide (show val 18446744073709551616 X = val 18446744073709551616 xs by rw [← hX]; exact trm_val _ _)
  have tX := hide (show Tr X by rw [← hX]; exact trm_tr _)
  have s1 := h1.trm
  have ct1 := hide (trim_any a1 n1 c1 xs w h1)
  rw [hX] at s1 ct1 l1
  clear hX
  obtain ⟨m1, hm1⟩ : ∃ m, X.length = m := ⟨_, rfl⟩
  rw [hm1] at s1 ct1 l1
  have M1 := hide hm1
  clear hm1
  have cs := hide (size_any _ _ _ X _ s1 tX.out l1)
  have dX := hide s1.hdg
  go_enter Tryd.func9, Tryd.ntmps9
  go_wp2_with fail
  refine ct1.out.mono ?_
  rintro e w1 ⟨rfl, _, hw⟩
  have hw2 := hw.symm
  subst hw2
  clear hw
  go_wp2_with fail
  refine (tooLong_any _ _ _ _ (by omega)).mono ?_
  rintro e w1 ⟨rfl, hw⟩
  have hw2 := hw.symm
  subst hw2
  clear hw
  rw [show decide (64 < m1) = false by first | exact decide_eq_true (by omega) | exact decide_eq_false (by omega)]
  go_wp2_with fail
  refine cs.out.mono ?_
  rintro e w1 ⟨S, rfl, hBL, hS, hw⟩
  have hw2 := hw.symm
  subst hw2
  clear hw
  obtain ⟨hv1, hv2⟩ := bl_bytes hBL
  obtain ⟨L, hL⟩ : ∃ L, (S + 7) / 8 = L := ⟨_, rfl⟩
  rw [hL] at hv1
  have td0 : Int.tdiv ((S : Int) + 8 - 1) 8 = (L : Int) := by rw [Int.tdiv_eq_ediv_of_nonneg (by omega)]; omega
  have HL := hide hL
  have HLm : Hid (L ≤ 8 * m1) := by unfold Hid; omega
  have HBL := hide hBL
  have HS := hide hS
  have HV1 := hide hv1
  have hmk := makeB L (L : Int) rfl (by omega)
  have sB : (S : Int) ≤ 4096 := by omega
  have lB : (L : Int) ≤ 512 := by omega
  have R0 : Hid (RowG .u8 256 5 (w.alloc (.cells (madeCells #[.int .u8 0] L) 5)) w.heap.size (List.replicate L 0)) := RowG.made L _ _ (by decide) rfl rfl
  have B0 : Below w.heap.size w (w.alloc (.cells (madeCells #[.int .u8 0] L) 5)) := (Below.refl _ _).alloc (Nat.le_refl _) _
  clear hBL hS hv1 hv2 hL cs ct1
  go_wp2
  go_loopw [18] (fun i wr => ∃ (k : Nat) (Z : List Int), i = .int .i64 k ∧ k ≤ L ∧ Hid (Z.length = L) ∧ Hid (RowG .u8 256 5 wr w.heap.size Z) ∧ Hid (∀ p, p < L - k → Z.getD p 0 = 0) ∧ Hid (val 256 Z.reverse = val 18446744073709551616 X % pw 256 k) ∧ Below w.heap.size w wr) (fun i _ => L - (intOf i).toNat)
  case atStart => exact ⟨0, _, rfl, Nat.zero_le _, by unfold Hid; simp, R0, by intro p hp; rw [List.getD, List.getElem?_replicate]; split <;> rfl, by unfold Hid; rw [List.reverse_replicate, val_rep, pw, Int.emod_one], B0⟩
  case round =>
    clear R0 B0
    obtain ⟨k, Z, rfl, hk, HZ, HR, HP, HV, hB⟩ := hrel
    by_cases hkL : k < L
    · have hkI : (k : Int) < (L : Int) := by omega
      obtain ⟨q, hqe⟩ : ∃ q, k / 8 = q := ⟨_, rfl⟩
      obtain ⟨t, hte⟩ : ∃ t, k % 8 = t := ⟨_, rfl⟩
      obtain ⟨p, hpe⟩ : ∃ p, L - 1 - k = p := ⟨_, rfl⟩
      have td : Int.tdiv (k : Int) 8 = (q : Int) := by rw [Int.tdiv_eq_ediv_of_nonneg (by omega)]; omega
      have tm : Int.tmod (k : Int) 8 = (t : Int) := by rw [Int.tmod_eq_emod_of_nonneg (by omega)]; omega
      have hpI : (L : Int) - 1 - (k : Int) = (p : Int) := by omega
      have hpL : (p : Int) < (L : Int) := by omega
      have hqm : q < m1 := by have := HLm.out; omega
      have hqI : (q : Int) < (m1 : Int) := by omega
      have hx := dX.out.at (by decide : (0 : Int) < 18446744073709551616) q
      have hpp := pw_pos (b := 256) (by decide) t
      have hdig := dig_at 256 (by decide) 8 (by decide) dX.out q t (by omega)
      rw [← pw_8, ← pw_add, show 8 * q + t = k by omega] at hdig
      obtain ⟨b, o, hae, e1⟩ := (s1.below hB).at q hqm
      have e2 := HR.out.cell p (by rw [HZ.out]; omega)
      have e3 := HR.out.frozen p
      rw [HP.out p (by omega)] at e2
      obtain ⟨x, hxx⟩ : ∃ x, X.getD q 0 = x := ⟨_, rfl⟩
      rw [hxx] at e1 hx hdig
      obtain ⟨T, hT⟩ : ∃ T : Int, 8 * (t : Int) = T := ⟨_, rfl⟩
      have hsh : x / 2 ^ T.toNat = x / pw 256 t := by rw [← pw_b, pw_eq, ← hT, show (8 * (t : Int)).toNat = 8 * t by omega]
      have t0 : 0 ≤ T := by omega
      have t1 : T ≤ 63 := by omega
      have tb : (t : Int) ≤ 7 := by omega
      have kb : (k : Int) ≤ 512 := by omega
      have qb : (q : Int) ≤ 64 := by omega
      have pb : (p : Int) ≤ 512 := by omega
      have mb : (m1 : Int) ≤ 64 := by omega
      obtain ⟨y, hy⟩ : ∃ y, x / pw 256 t = y := ⟨_, rfl⟩
      have y0 : 0 ≤ y := by rw [← hy]; exact Int.ediv_nonneg hx.1 (by omega)
      rw [hy] at hsh hdig
      obtain ⟨d, hd⟩ : ∃ d, y % 256 = d := ⟨_, rfl⟩
      have wd : IntKind.u8.wrap y = d := by rw [← hd, IntKind.wrap_u8]
      have hd0 : 0 ≤ d ∧ d < 256 := by omega
      rw [hd] at hdig
      have HV' : Hid (val 256 (Z.set p d).reverse = val 18446744073709551616 X % pw 256 (k + 1)) := by
        unfold Hid
        have e9 := HZ.out
        rw [← hpe, ← e9, rev_set Z k d (by omega), val_set _ _ _ _ (by rw [List.length_reverse]; omega), rev_getD Z k (by omega), HV.out, HP.out _ (by omega), show pw 256 (k + 1) = 256 * pw 256 k from rfl, emod_step _ _ _ (pw_pos (b := 256) (by decide) k) (by decide), hdig, Int.sub_zero]
      have HP' : Hid (∀ j, j < L - (k + 1) → (Z.set p d).getD j 0 = 0) := by
        intro j hj
        rw [List.getD, List.getElem?_set_ne (by omega)]
        exact HP.out j (by omega)
      have HR' : Hid (RowG .u8 256 5 (wr.setCell ⟨w.heap.size, p, none⟩ (.int .u8 d)) w.heap.size (Z.set p d)) := HR.out.set p d hd0
      have hB' : Below w.heap.size w (wr.setCell ⟨w.heap.size, p, none⟩ (.int .u8 d)) := hB.grown (gSet _ _ _ _) hB.size (by intro k hk; cases hk; exact Nat.le_refl _)
      clear hxx hy hd hdig hpp hqe hte hpe HV HP
      subst hae
      go_wp2
      go_roundw
      case rel => exact ⟨k + 1, Z.set p d, by go_num, by omega, by unfold Hid; rw [List.length_set]; exact HZ.out, HR', HP', HV', hB'⟩
      case measure => simp [intOf] <;> omega
    · obtain rfl : k = L := by omega
      have HVE : Hid (val 256 Z.reverse = val 18446744073709551616 xs) := by unfold Hid; rw [HV.out, Int.emod_eq_of_lt (val_nonneg (b := 18446744073709551616) (by decide) dX.out) HV1.out, vX.out]
      go_wp2
      go_ret2
      refine ⟨_, Z, S, rfl, ⟨w.heap.size, [], by rw [HZ.out]; rfl, Nat.le_refl _, by rw [List.append_nil]; exact HR.out, by rw [HZ.out]; omega⟩, HVE.out, by rw [← vX.out]; exact HBL.out, by have := HS.out; omega, by rw [HZ.out, HL.out], hB⟩

end Go.Proofs.YtekhobmjjoegpaaDoor
