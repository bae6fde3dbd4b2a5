/-
  The document's Exp.
-/
import Derived.Test.YtobdpcmafjhnlaaMPow
namespace Go.Proofs.Ytobdpcmafjhnlaa
open Go.RowKit Go.IntWalk

theorem mod_two (d P : Int) (hP : 0 < P) : d % (2 * P) = P * (d / P % 2) + d % P := by
  have h1 := Int.mul_ediv_add_emod d P
  have h2 := Int.mul_ediv_add_emod (d / P) 2
  have h3 := Int.emod_nonneg d (show P ≠ 0 by omega)
  have h4 := Int.emod_lt_of_pos d hP
  have h5 : d / P % 2 = 0 ∨ d / P % 2 = 1 := by omega
  generalize d / P % 2 = b at *
  generalize d / P / 2 = q at *
  refine ((Int.ediv_emod_unique (b := 2 * P) (by omega)).2 ⟨show P * b + d % P + 2 * P * q = d from ?_, ?_, ?_⟩).2
  · rw [← h2] at h1
    rw [Int.mul_add] at h1
    have : 2 * P * q = P * (2 * q) := by rw [Int.mul_comm 2 P, Int.mul_assoc]
    omega
  · rcases h5 with rfl | rfl <;> omega
  · rcases h5 with rfl | rfl <;> omega

theorem exp_bit (T K d P b : Int) (hP : 0 < P) (hb : d / P % 2 = b) (h : K * (2 * P) + d % (2 * P) = T) : (2 * K + b) * P + d % P = T := by
  rw [mod_two d P hP, hb] at h
  rw [← h, Int.add_mul, Int.mul_comm b P, Int.mul_comm 2 K, Int.mul_assoc]
  omega

/-- The bit that is looked at behind j of sixteen. -/
def bitAt (j : Nat) : Int := if j < 16 then pw 2 (15 - j) else 0

theorem bitAt_pos (j : Nat) (h : j < 16) : 0 < bitAt j ∧ bitAt j ≤ 32768 ∧ pw 2 (16 - j) = 2 * bitAt j ∧ pw 2 (16 - (j + 1)) = bitAt j ∧ bitAt (j + 1) = bitAt j / 2 := by
  unfold bitAt
  rw [if_pos h]
  have h1 := pw_pos (b := 2) (by decide) (15 - j)
  have h2 := pw_mono (b := 2) (by decide) (15 - j) 15 (by omega)
  rw [show pw 2 15 = 32768 by decide] at h2
  refine ⟨h1, h2, ?_, ?_, ?_⟩
  · rw [show 16 - j = (15 - j) + 1 by omega]; rfl
  · rw [show 16 - (j + 1) = 15 - j by omega]
  · split
    · rw [show 15 - j = (15 - (j + 1)) + 1 by omega, show pw 2 (15 - (j + 1) + 1) = 2 * pw 2 (15 - (j + 1)) from rfl]
      omega
    · rw [show 15 - j = 0 by omega]; decide

theorem NumD.one (w : World) : NumD (w.alloc (.cells #[.int .i64 1] 3)) (.slice (some ⟨w.heap.size, 0, none⟩) 1 1) 1 1 :=
  ⟨_, _, _, [1], rfl, SrcG.litAt [1] _ 1 _ rfl rfl (by intro x hx; simp at hx; omega) (by decide) rfl, by intro _; decide, by omega, by decide⟩

set_option maxRecDepth 100000 in
set_option maxHeartbeats 2000000 in
theorem refExp (v0 v1 v2 : Value) (M x y : Int) (L1 L2 : Nat) (w : World) (k0 : NumD w v0 M 32) (k1 : NumD w v1 x L1) (k2 : NumD w v2 y L2) (l1 : L1 ≤ 300) (l2 : L2 ≤ 300) (hM : 1 < M) :
    Calls Try.prog 24 #[v0, v1, v2] w fun e w' => ∃ v, e = .returned v ∧ NumD w' v (pm x M y) 32 ∧ Below w.heap.size w w' := by
  have hM0 : 0 < M := by omega
  have B1 : Below w.heap.size w (w.alloc (.cells #[.int .i64 1] 3)) := (Below.refl _ _).alloc (Nat.le_refl _) _
  have HC := refReduce v0 (.slice (some ⟨w.heap.size, 0, none⟩) 1 1) M 1 1 _ (k0.below B1) (NumD.one w) (by omega) hM0
  rw [Int.emod_eq_of_lt (by omega) hM] at HC
  have HC := hide HC
  obtain ⟨a2, n, c2, es, rfl, he, te, hl, hv⟩ := k2
  subst hv
  have HL := hide he.hlen
  have HD := hide he.hdg
  have hnI : (n : Int) ≤ 300 := by omega
  go_enter Try.func24, Try.ntmps24
  go_wp2_with fail
  refine HC.out.mono ?_
  rintro e w1 ⟨vo, rfl, N1, B2⟩
  have LB := B1.trans (B2.mono B1.size)
  have k0 := k0.below LB
  have k1 := k1.below LB
  have he := he.below LB
  go_wp2_with fail
  refine (refReduce v0 v1 M x L1 w1 k0 k1 (by omega) hM0).mono ?_
  rintro e w2 ⟨vx, rfl, NX, B3⟩
  have LB := LB.trans (B3.mono LB.size)
  have k0 := k0.below B3
  have he := he.below B3
  have N0 : Hid (NumD w2 vo (pm x M (val 65536 (es.drop n))) 32) := by
    unfold Hid
    rw [List.drop_eq_nil_of_le (by rw [HL.out]; omega), show val 65536 [] = 0 from rfl, pm_zero x M hM]
    exact N1.below B3
  clear N1 B1 B2 B3 HC k1
  go_wp2
  go_loopw [7, 9] (fun rv i wr => ∃ k : Nat, k ≤ n ∧ i = .int .i64 ((k : Int) - 1) ∧ Hid (NumD wr rv (pm x M (val 65536 (es.drop k))) 32) ∧ Below w2.heap.size w2 wr) (fun _ i _ => (intOf i + 1).toNat)
  case atStart => exact ⟨n, Nat.le_refl _, by go_num, N0, Below.refl _ _⟩
  case round =>
    clear N0
    obtain ⟨k, hk, rfl, HN, hb⟩ := hrel
    by_cases hkn : 0 < k
    · obtain ⟨q, rfl⟩ : ∃ q, k = q + 1 := ⟨k - 1, by omega⟩
      have g0 : ((q + 1 : Nat) : Int) - 1 = (q : Int) := by omega
      rw [g0]
      have g2 : (q : Int) < (n : Int) := by omega
      have g3 : (0 : Int) ≤ (q : Int) := by omega
      obtain ⟨b, o, ha2, e1⟩ := he.at q (by omega)
      have hl0 := HD.out.at (by decide : (0 : Int) < 65536) q
      have HT := hide (val_dropAt 65536 es q)
      have HV0 : Hid (0 ≤ val 65536 (es.drop (q + 1))) := val_nonneg (by decide) (HD.out.drop _)
      generalize es.getD q 0 = d at e1 hl0 HT
      obtain ⟨T, hT⟩ : ∃ T, val 65536 (es.drop q) = T := ⟨_, rfl⟩
      obtain ⟨V, hV⟩ : ∃ V, val 65536 (es.drop (q + 1)) = V := ⟨_, rfl⟩
      rw [hT, hV] at HT
      rw [hV] at HN HV0
      have HTT := hide hT
      clear hT hV g0
      subst ha2
      have E1 : Hid (∀ W : World, Below w2.heap.size w2 W → W.cell? ⟨b, o + q, none⟩ = some (.int .i64 d)) := by
        unfold Hid
        intro W hW
        rw [← e1]
        exact World.cell?_of_block (hW.block b (ltCell e1))
      clear e1
      have HS : Hid (V * pw 2 (16 - 0) + d % pw 2 (16 - 0) = T) := by unfold Hid; rw [show pw 2 (16 - 0) = 65536 by decide]; have := HT.out; omega
      clear HT
      go_wp2
      go_loopw [7, 10] (fun rv i wr => ∃ (j : Nat) (K P : Int), j ≤ 16 ∧ i = .int .i64 P ∧ Hid (P = bitAt j) ∧ Hid (0 ≤ K) ∧ Hid (K * pw 2 (16 - j) + d % pw 2 (16 - j) = T) ∧ Hid (NumD wr rv (pm x M K) 32) ∧ Below w2.heap.size w2 wr) (fun _ i _ => (intOf i).toNat)
      case atStart => exact ⟨0, V, 32768, by omega, rfl, by unfold Hid; decide, HV0, HS, HN, hb⟩
      case round =>
        clear HN HS HV0 hb
        obtain ⟨j, K, P, hj, rfl, HP, HK, HS, HN, hb⟩ := hrel
        by_cases hj16 : j < 16
        · obtain ⟨p1, p2, p3, p4, p5⟩ := bitAt_pos j hj16
          rw [← HP.out] at p1 p2 p3 p4 p5
          have hP1 : (0 : Int) < P := p1
          have hPz : (P == 0) = false := by simp; omega
          have HEX := hide (exp_bit T K d P)
          rw [p3] at HS
          obtain ⟨D, hD⟩ : ∃ D, d / P = D := ⟨_, rfl⟩
          have hD0 : 0 ≤ D := by rw [← hD]; exact Int.ediv_nonneg hl0.1 (by omega)
          obtain ⟨r, hr⟩ : ∃ r, D % 2 = r := ⟨_, rfl⟩
          have t1 : Int.tdiv d P = D := by rw [Int.tdiv_eq_ediv_of_nonneg hl0.1]; exact hD
          have t2 : Int.tmod D 2 = r := by rw [Int.tmod_eq_emod_of_nonneg hD0]; exact hr
          have t3 : Int.tdiv P 2 = P / 2 := Int.tdiv_eq_ediv_of_nonneg (by omega)
          have hr01 : r = 0 ∨ r = 1 := by omega
          have HS' := hide (HEX.out r p1 (by rw [hD]; exact hr) HS.out)
          rw [← p4] at HS'
          have HP' : Hid (P / 2 = bitAt (j + 1)) := p5.symm
          have hPd : P / 2 < P ∧ 0 ≤ P / 2 := by omega
          have wP : IntKind.i64.wrap (P / 2) = P / 2 := i64_in _ (by omega)
          have wD : IntKind.i64.wrap D = D := i64_in _ (by have := Int.ediv_le_self P hl0.1; omega)
          clear p3 p4 p5 HEX HS hD hr HP
          have k0w := k0.below hb
          have NXw := NX.below hb
          go_wp2_with fail
          refine (refMul7 v0 _ _ M _ _ 32 32 _ k0w HN.out HN.out (by omega) (by omega) hM0).mono ?_
          rintro e w3 ⟨v3, rfl, N3, B3⟩
          have hb3 := hb.trans (Below.mono B3 hb.size)
          have k03 := k0w.below B3
          have NX3 := NXw.below B3
          have e1 := E1.out w3 hb3
          rcases hr01 with rfl | rfl
          · have N3' : Hid (NumD w3 v3 (pm x M (2 * K + 0)) 32) := by unfold Hid; rw [← pm_dbl x M K HK.out]; exact N3
            have HK' : Hid (0 ≤ 2 * K + 0) := by unfold Hid; have := HK.out; omega
            clear N3 HN HK
            go_wp2
            go_roundw
            case rel => exact ⟨j + 1, 2 * K + 0, P / 2, by omega, rfl, HP', HK', HS', N3', hb3⟩
            case measure => simp [intOf] <;> omega
          · have HK' : Hid (0 ≤ 2 * K + 1) := by unfold Hid; have := HK.out; omega
            go_wp2_with fail
            refine (refMul7 v0 _ _ M _ _ 32 32 _ k03 N3 NX3 (by omega) (by omega) hM0).mono ?_
            rintro e w4 ⟨v4, rfl, N4, B4⟩
            have N4' : Hid (NumD w4 v4 (pm x M (2 * K + 1)) 32) := by unfold Hid; rw [← pm_dbl1 x M K HK.out, ← mm2]; exact N4
            have hb4 := hb3.trans (Below.mono B4 hb3.size)
            clear N3 N4 HN HK
            go_wp2
            go_roundw
            case rel => exact ⟨j + 1, 2 * K + 1, P / 2, by omega, rfl, HP', HK', HS', N4', hb4⟩
            case measure => simp [intOf] <;> omega
        · obtain rfl : j = 16 := by omega
          obtain rfl : P = 0 := by rw [HP.out]; decide
          have hKT : K = T := by have := HS.out; rw [show pw 2 (16 - 16) = 1 by decide, Int.emod_one] at this; omega
          subst hKT
          go_wp2
          go_roundw
          case rel => exact ⟨q, by omega, by go_num, by unfold Hid; rw [HTT.out]; exact HN.out, hb⟩
          case measure => simp [intOf] <;> omega
    · obtain rfl : k = 0 := by omega
      have HN2 : Hid (NumD wr u7 (pm x M (val 65536 es)) 32) := by have := HN.out; rw [List.drop_zero] at this; exact this
      clear HN
      go_wp2
      go_ret
      exact ⟨_, rfl, HN2.out, LB.trans (hb.mono LB.size)⟩

end Go.Proofs.Ytobdpcmafjhnlaa
