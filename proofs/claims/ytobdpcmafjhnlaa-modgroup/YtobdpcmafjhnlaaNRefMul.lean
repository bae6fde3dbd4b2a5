/-
  The document's Mul and times.
-/
import Derived.Test.YtobdpcmafjhnlaaNLaw
import Derived.Test.YtobdpcmafjhnlaaNMul
namespace Go.Proofs.Ytobdpcmafjhnlaa
open Go.RowKit Go.IntWalk

theorem makeN (M : Nat) (m : Int) (hm : m = (M : Int)) (hM : M ≤ 1000000) (W : World) :
    (Instr.makeSlice 26 (.int .i64 m) (.int .i64 m)).run Try.prog W = .ok (.slice (some ⟨W.heap.size, 0, none⟩) M M) (W.alloc (.cells (madeCells #[.int .i64 0] M) 3)) := by
  subst hm
  obtain ⟨i0, hi, hz0, hz1, hz2⟩ := info_parts Try.infoI
  rw [run_make W _ _ i0 (.int .i64 0) Try.underlying26 hi hz0 .i64 .i64 (M : Int) (M : Int) (by omega) (by omega) (by rw [hz2]; omega) (by omega)]
  rw [hz1]
  simp [Value.cells]

theorem getD_drop2 {Z xs : List Int} {k : Nat} (h : Z.drop k = xs.drop k) (j : Nat) (hj : k ≤ j) : Z.getD j 0 = xs.getD j 0 := by
  have e1 : ∀ l : List Int, l.getD j 0 = (l.drop k).getD (j - k) 0 := by
    intro l
    simp [List.getD, List.getElem?_drop, show k + (j - k) = j by omega]
  rw [e1 Z, e1 xs, h]

theorem belowHeap {D : Nat} {w a b : World} (h : Below D w a) (e1 : b.os = a.os) (e2 : b.tape = a.tape) (e3 : b.output = a.output) (e4 : b.heap = a.heap) : Below D w b :=
  ⟨e1.trans h.os, e2.trans h.tape, e3.trans h.output, by rw [e4]; exact h.size, fun k hk => by rw [e4]; exact h.block k hk⟩

theorem mul16 (a y : Int) (ha0 : 0 ≤ a) (ha1 : a < 65536) (hy0 : 0 ≤ y) (hy1 : y < 65536) : 0 ≤ a * y ∧ a * y ≤ 4294836225 := by
  refine ⟨Int.mul_nonneg ha0 hy0, ?_⟩
  have := Int.mul_le_mul (show a ≤ 65535 by omega) (show y ≤ 65535 by omega) hy0 (by omega : (0 : Int) ≤ 65535)
  simpa using this

theorem mulD_out (Z A V a P B : Int) (h : Z = A * B + P * (a * V)) (hB : B = V) : Z = (A + a * P) * V := by
  subst hB
  rw [h]; grind

set_option maxRecDepth 100000 in
set_option maxHeartbeats 4000000 in
theorem refMul_any (a1 : Option Addr) (n1 c1 : Nat) (xs : List Int) (a2 : Option Addr) (n2 c2 : Nat) (ys : List Int) (w : World) (h1 : SrcG .i64 65536 w a1 n1 c1 xs) (h2 : SrcG .i64 65536 w a2 n2 c2 ys) (l1 : n1 ≤ 20000) (l2 : n2 ≤ 20000) :
    Calls Try.prog 46 #[.slice a1 n1 c1, .slice a2 n2 c2] w fun e w' => ∃ v, e = .returned v ∧ NumD w' v (val 65536 xs * val 65536 ys) (n1 + n2 + 1) ∧ Below w.heap.size w w' := by
  have z1 := hide h1.hlen
  have z2 := hide h2.hlen
  have d1 := hide h1.hdg
  have d2 := hide h2.hdg
  obtain ⟨M, hM⟩ : ∃ M, n1 + n2 + 1 = M := ⟨_, rfl⟩
  rw [hM]
  have HM := hide hM
  have hMI : (n1 : Int) + (n2 : Int) + 1 = (M : Int) := by omega
  have hmk := makeN M (M : Int) rfl (by omega)
  have HL : Hid (n1 ≤ 20000 ∧ n2 ≤ 20000 ∧ M ≤ 1000000) := by unfold Hid; omega
  have i1 : (n1 : Int) ≤ 20000 := by omega
  have i2 : (n2 : Int) ≤ 20000 := by omega
  clear hM l1 l2
  have R0 : Hid (RowG .i64 65536 3 (w.alloc (.cells (madeCells #[.int .i64 0] M) 3)) w.heap.size (List.replicate M 0)) := RowG.made M _ _ (by decide) rfl rfl
  have B0 : Below w.heap.size w (w.alloc (.cells (madeCells #[.int .i64 0] M) 3)) := (Below.refl _ _).alloc (Nat.le_refl _) _
  go_enter Try.func46, Try.ntmps46
  go_wp2
  go_loopw [6] (fun i wr => ∃ (k : Nat) (Z : List Int), i = .int .i64 k ∧ k ≤ n1 ∧ Hid (Z.length = M) ∧ Hid (RowG .i64 65536 3 wr w.heap.size Z) ∧ Hid (val 65536 Z = val 65536 (xs.take k) * val 65536 ys) ∧ Below w.heap.size w wr) (fun i _ => n1 - (intOf i).toNat)
  case atStart => exact ⟨0, _, rfl, Nat.zero_le _, by unfold Hid; simp, R0, by unfold Hid; rw [val_rep]; simp [val], B0⟩
  case round =>
    clear R0 B0
    obtain ⟨k, Z0, rfl, hk, HZ0, HR0, HV0, hB0⟩ := hrel
    by_cases hkn : k < n1
    · have hkI : (k : Int) < (n1 : Int) := by omega
      have ha0 := d1.out.at (by decide : (0 : Int) < 65536) k
      obtain ⟨a, ha⟩ : ∃ a, xs.getD k 0 = a := ⟨_, rfl⟩
      have HA := hide ha
      rw [ha] at ha0
      clear ha
      have HSM : Hid (val 65536 Z0 < pw 65536 (k + n2)) := by
        unfold Hid
        rw [HV0.out, pw_add]
        have q1 := val_lt (b := 65536) (by decide) (d1.out.take k)
        have q2 := val_lt (b := 65536) (by decide) d2.out
        rw [List.length_take, z1.out, Nat.min_eq_left (by omega)] at q1
        rw [z2.out] at q2
        exact prod_lt _ _ _ _ (val_nonneg (b := 65536) (by decide) (d1.out.take k)) q1 (val_nonneg (b := 65536) (by decide) d2.out) q2
      have HDZ := hide HR0.out.2
      go_wp2
      go_loopw [7, 8] (fun cv j wr => ∃ (t : Nat) (C : Int) (Z : List Int), j = .int .i64 t ∧ cv = .int .i64 C ∧ 0 ≤ C ∧ C < 65536 ∧ Hid (t ≤ n2 ∨ t = n2 + 1 ∧ C = 0) ∧ Hid (Z.length = M) ∧ Hid (RowG .i64 65536 3 wr w.heap.size Z) ∧ Hid (Z.drop (k + t) = Z0.drop (k + t)) ∧ Hid (val 65536 Z + pw 65536 (k + t) * C = val 65536 Z0 + pw 65536 k * (a * val 65536 (ys.take t))) ∧ Below w.heap.size w wr) (fun _ j _ => n2 + 1 - (intOf j).toNat)
      case atStart => exact ⟨0, 0, Z0, rfl, rfl, by omega, by omega, .inl (Nat.zero_le _), HZ0, HR0, rfl, by unfold Hid; simp [val], hB0⟩
      case round =>
        clear HR0 hB0
        obtain ⟨t, C, Z, rfl, rfl, hC0, hC1, HTC, HZ, HR, HD, HV, hB⟩ := hrel
        by_cases hgo : t < n2 ∨ 0 < C
        · have ht2 : t ≤ n2 := by have := HTC.out; omega
          have hy0 := d2.out.at (by decide : (0 : Int) < 65536) t
          have hr0 := HR.out.2.at (by decide : (0 : Int) < 65536) (k + t)
          have e1 := HR.out.cell (k + t) (by rw [HZ.out]; have := HM.out; omega)
          have ef := HR.out.frozen (k + t)
          obtain ⟨b, o, hae, e2⟩ := (h1.below hB).at k hkn
          rw [HA.out] at e2
          have hrz : Hid (t = n2 → Z.getD (k + t) 0 = 0 ∧ ys.getD t 0 = 0) := by
            intro h
            refine ⟨?_, by rw [List.getD, List.getElem?_eq_none (by rw [z2.out]; omega)]; rfl⟩
            rw [getD_drop2 HD.out (k + t) (Nat.le_refl _)]
            have q := val_small (b := 65536) (by decide) HDZ.out (k + n2) HSM.out
            have q2 := val_zero (b := 65536) (by decide) (HDZ.out.drop (k + n2)) q 0
            rw [h]
            simpa [List.getD, List.getElem?_drop] using q2
          obtain ⟨r, hr⟩ : ∃ r, Z.getD (k + t) 0 = r := ⟨_, rfl⟩
          obtain ⟨y, hy⟩ : ∃ y, ys.getD t 0 = y := ⟨_, rfl⟩
          have HC2 : Hid (∀ W : World, SrcG .i64 65536 W a2 n2 c2 ys → Calls Try.prog 59 #[.slice a2 n2 c2, .int .i64 (t : Int)] W fun e w' => e = .returned (.int .i64 y) ∧ w' = W) := by
            intro W hW
            rw [← hy]
            exact digit_any a2 n2 c2 ys t _ rfl W hW
          rw [hr, hy] at hrz
          rw [hr] at hr0 e1
          rw [hy] at hy0
          have HRR := hide hr
          have HYY := hide hy
          have hp := mul16 a y ha0.1 ha0.2 hy0.1 hy0.2
          have s2 := h2.below hB
          obtain ⟨p, hpe⟩ : ∃ p, a * y = p := ⟨_, rfl⟩
          obtain ⟨d, hd⟩ : ∃ d, (r + p + C) % 65536 = d := ⟨_, rfl⟩
          obtain ⟨c, hc⟩ : ∃ c, (r + p + C) / 65536 = c := ⟨_, rfl⟩
          rw [hpe] at hp
          have m1 : Int.tmod (r + p + C) 65536 = d := by rw [Int.tmod_eq_emod_of_nonneg (by omega)]; exact hd
          have m2 : Int.tdiv (r + p + C) 65536 = c := by rw [Int.tdiv_eq_ediv_of_nonneg (by omega)]; exact hc
          have hd0 : 0 ≤ d ∧ d < 65536 := by omega
          have hc0 : 0 ≤ c ∧ c < 65536 := by omega
          have hst : d + 65536 * c = r + y * a + C := by rw [Int.mul_comm y a, hpe]; omega
          have HTC' : Hid (t + 1 ≤ n2 ∨ t + 1 = n2 + 1 ∧ c = 0) := by
            unfold Hid
            rcases Nat.lt_or_ge t n2 with h | h
            · left; omega
            · right
              obtain ⟨h5, h6⟩ := hrz.out (by omega)
              rw [h6, Int.mul_zero] at hpe
              omega
          have HV' : Hid (val 65536 (Z.set (k + t) d) + pw 65536 (k + (t + 1)) * c = val 65536 Z0 + pw 65536 k * (a * val 65536 (ys.take (t + 1)))) := by
            unfold Hid
            have e9 := sum_step 65536 d r c y a C (val 65536 Z) (val 65536 Z0) (pw 65536 k) (pw 65536 t) (val 65536 (ys.take t)) (pw 65536 (k + t)) (pw_add _ _ _) hst HV.out
            rw [val_set _ _ _ _ (by rw [HZ.out]; have := HM.out; omega), val_take_succ, HRR.out, HYY.out, ← Nat.add_assoc, show pw 65536 (k + t + 1) = 65536 * pw 65536 (k + t) from rfl]
            exact e9
          have HD' : Hid ((Z.set (k + t) d).drop (k + (t + 1)) = Z0.drop (k + (t + 1))) := by unfold Hid; rw [← Nat.add_assoc]; exact drop_next HD.out d
          obtain ⟨q, hq⟩ : ∃ q, k + t = q := ⟨_, rfl⟩
          have hqI : (k : Int) + (t : Int) = (q : Int) := by omega
          have hqM : (q : Int) < (M : Int) := by have := HM.out; omega
          rw [hq] at e1 ef
          have HQ := hide hq
          have wm : IntKind.i64.wrap (a * y) = p := by rw [hpe]; exact i64_in _ (by omega)
          have wa : IntKind.i64.wrap (r + p) = r + p := i64_in _ (by omega)
          have wb : IntKind.i64.wrap (r + p + C) = r + p + C := i64_in _ (by omega)
          have HRq : Hid (∀ nq, RowG .i64 65536 3 ((wr.drewN nq).setCell ⟨w.heap.size, q, none⟩ (.int .i64 d)) w.heap.size (Z.set (k + t) d)) := by
            intro nq
            rw [← hq]
            exact (HR.out.heap (w' := wr.drewN nq) rfl).set (k + t) d hd0
          have HBq : Hid (∀ nq, Below w.heap.size w ((wr.drewN nq).setCell ⟨w.heap.size, q, none⟩ (.int .i64 d))) := by
            intro nq
            have hBn : Below w.heap.size w (wr.drewN nq) := ((Drew.refl wr).more nq).below hB
            exact hBn.grown (gSet _ _ _ _) hBn.size (by intro k hk; cases hk; exact Nat.le_refl _)
          clear hr hy hpe hd hc hp hst hrz hq HV HD
          subst hae
          by_cases g1 : t < n2
          · have g1' : (t : Int) < (n2 : Int) := by omega
            clear hgo g1 ht2
            go_wp2_with fail
            go_quiet ((go_at_call 59; exact Calls.quiet_of_same (HC2.out _ (by exact s2.heap rfl))))
            go_wp2
            go_roundw
            case rel => exact ⟨t + 1, c, Z.set (k + t) d, by go_num, rfl, hc0.1, hc0.2, HTC', by unfold Hid; rw [List.length_set]; exact HZ.out, (HRq.out nq).heap rfl, HD', HV', belowHeap (HBq.out nq) rfl rfl rfl rfl⟩
            case measure => simp [intOf] <;> omega
          · have g1' : ¬ (t : Int) < (n2 : Int) := by omega
            have g2' : 0 < C := by omega
            clear hgo g1
            go_wp2_with fail
            go_quiet ((go_at_call 59; exact Calls.quiet_of_same (HC2.out _ (by exact s2.heap rfl))))
            go_wp2
            go_roundw
            case rel => exact ⟨t + 1, c, Z.set (k + t) d, by go_num, rfl, hc0.1, hc0.2, HTC', by unfold Hid; rw [List.length_set]; exact HZ.out, (HRq.out nq).heap rfl, HD', HV', belowHeap (HBq.out nq) rfl rfl rfl rfl⟩
            case measure => simp [intOf] <;> omega
        · have g1 : ¬ (t : Int) < (n2 : Int) := by omega
          have g2 : C = 0 := by omega
          subst g2
          have HVN : Hid (val 65536 Z = val 65536 (xs.take (k + 1)) * val 65536 ys) := by
            unfold Hid
            rw [val_take_succ, HA.out]
            have e := HV.out
            rw [List.take_of_length_le (by rw [z2.out]; omega), HV0.out] at e
            exact mulD_out _ _ _ _ _ _ (by omega) rfl
          clear hgo
          go_wp2
          go_roundw
          case rel => exact ⟨k + 1, Z, by go_num, by omega, HZ, HR, HVN, hB⟩
          case measure => simp [intOf] <;> omega
    · have hkI : ¬ (k : Int) < (n1 : Int) := by omega
      have hsrc := HR0.out.srcAll (by rw [HZ0.out]; have := HL.out; unfold maxLen; omega)
      rw [HZ0.out] at hsrc
      have HSRC := hide hsrc
      clear hsrc
      go_wp2_with fail
      refine (bare_any _ _ _ Z0 _ HSRC.out HL.out.2.2).mono ?_
      rintro e w3 ⟨g, c', rfl, hs3, hB3⟩
      go_wp2
      go_ret
      refine ⟨_, rfl, ⟨_, _, _, trm Z0, rfl, hs3, trm_tr _, by have := trm_len Z0; rw [HZ0.out] at this; exact this, ?_⟩, hB0.trans (hB3.mono hB0.size)⟩
      rw [trm_val, HV0.out, List.take_of_length_le (by rw [z1.out]; omega)]

end Go.Proofs.Ytobdpcmafjhnlaa
