/-
  mod's power and Exp.
-/
import Derived.Test.YtobdpcmafjhnlaaMReck
namespace Go.Proofs.Ytobdpcmafjhnlaa
open Go.RowKit Go.IntWalk

/-- x to the power K, reduced. -/
def pm (x M K : Int) : Int := x ^ K.toNat % M

theorem pm_zero (x M : Int) (hM : 1 < M) : pm x M 0 = 1 := by
  unfold pm
  rw [show (0 : Int).toNat = 0 from rfl, Int.pow_zero]
  exact Int.emod_eq_of_lt (by omega) hM

theorem pm_add (x M K L : Int) (hK : 0 ≤ K) (hL : 0 ≤ L) : pm x M (K + L) = (pm x M K * pm x M L) % M := by
  unfold pm
  rw [Int.toNat_add hK hL, Int.pow_add, mm1, mm2]

theorem pm_one (x M : Int) : pm x M 1 = x % M := by
  unfold pm
  rw [show (1 : Int).toNat = 1 from rfl, Int.pow_succ, Int.pow_zero, Int.one_mul]

theorem pm_red (x M K : Int) : pm (x % M) M K = pm x M K := by
  unfold pm
  induction K.toNat with
  | zero => rw [Int.pow_zero, Int.pow_zero]
  | succ k ih => rw [Int.pow_succ, Int.pow_succ, mm2, ← mm1, ih, mm1]

theorem pow_top (es : List Int) (i : Nat) (hi : i < es.length) : val 18446744073709551616 (es.drop (es.length - (i + 1))) = es.getD (es.length - 1 - i) 0 + 18446744073709551616 * val 18446744073709551616 (es.drop (es.length - i)) := by
  rw [val_dropAt, show es.length - (i + 1) = es.length - 1 - i by omega, show es.length - 1 - i + 1 = es.length - i by omega]

theorem pow_bit (T P K Y b : Int) (h : T * P = K * 18446744073709551616 + Y) : T * (2 * P) = (2 * K + b) * 18446744073709551616 + (2 * Y - 18446744073709551616 * b) := by
  rw [Int.mul_left_comm, h]
  omega

theorem pow_end (T K Y : Int) (h : T * 18446744073709551616 = K * 18446744073709551616 + Y) (h0 : 0 ≤ Y) (h1 : Y < 18446744073709551616) : K = T := by omega

theorem pm_dbl (x M K : Int) (hK : 0 ≤ K) : (pm x M K * pm x M K) % M = pm x M (2 * K + 0) := by rw [Int.add_zero, Int.two_mul, pm_add x M K K hK hK]
theorem pm_dbl1 (x M K : Int) (hK : 0 ≤ K) : ((pm x M K * pm x M K) % M * x) % M = pm x M (2 * K + 1) := by rw [pm_dbl x M K hK, Int.add_zero, pm_add x M _ 1 (by omega) (by omega), pm_one, mm2]

set_option maxRecDepth 100000 in
set_option maxHeartbeats 2000000 in
theorem power_num (mv v1 : Value) (M x : Int) (a2 : Option Addr) (n c : Nat) (es : List Int) (w : World) (hm : ModU w mv M) (h1 : NumU w v1 x 8) (he : SrcG .u64 18446744073709551616 w a2 n c es) (hn : n ≤ 8) :
    Calls Try.prog 48 #[mv, v1, .slice a2 n c] w fun e w' => ∃ v, e = .returned v ∧ NumT w' v (pm x M (val 18446744073709551616 es)) 8 ∧ Below w.heap.size w w' := by
  have hM := hm.gt.1
  have HL := hide he.hlen
  have HD := hide he.hdg
  have hnI : (n : Int) ≤ 8 := by omega
  have N0 : Hid (NumT (w.alloc (.cells #[.int .u64 1] 52)) (.slice (some ⟨w.heap.size, 0, none⟩) 1 1) (pm x M (val 18446744073709551616 (es.drop (n - 0)))) 8) := by
    unfold Hid
    rw [List.drop_eq_nil_of_le (by rw [HL.out]; omega), show val 18446744073709551616 [] = 0 from rfl, pm_zero x M hM]
    exact NumT.lit 1 _ _ rfl (by decide) (by decide) rfl 8 (by omega)
  have B0 : Below w.heap.size w (w.alloc (.cells #[.int .u64 1] 52)) := (Below.refl _ _).alloc (Nat.le_refl _) _
  go_enter Try.func48, Try.ntmps48
  go_wp2
  go_loopw [9, 17] (fun rv i wr => ∃ k : Nat, k ≤ n ∧ i = .int .i64 k ∧ Hid (NumT wr rv (pm x M (val 18446744073709551616 (es.drop (n - k)))) 8) ∧ Below w.heap.size w wr) (fun _ i _ => n - (intOf i).toNat)
  case atStart => exact ⟨0, Nat.zero_le _, rfl, N0, B0⟩
  case round =>
    clear N0 B0
    obtain ⟨k, hk, rfl, HN, LB⟩ := hrel
    by_cases hkn : k < n
    · have hkI : (k : Int) < (n : Int) := by omega
      obtain ⟨b, o, ha2, e1⟩ := (he.below LB).at (n - 1 - k) (by omega)
      have hl0 := HD.out.at (by decide : (0 : Int) < 18446744073709551616) (n - 1 - k)
      have HT := hide (pow_top es k (by rw [HL.out]; exact hkn))
      rw [HL.out] at HT
      have HV0 : Hid (0 ≤ val 18446744073709551616 (es.drop (n - k))) := val_nonneg (by decide) (HD.out.drop _)
      generalize es.getD (n - 1 - k) 0 = l at e1 hl0 HT
      obtain ⟨T, hT⟩ : ∃ T, val 18446744073709551616 (es.drop (n - (k + 1))) = T := ⟨_, rfl⟩
      obtain ⟨V, hV⟩ : ∃ V, val 18446744073709551616 (es.drop (n - k)) = V := ⟨_, rfl⟩
      rw [hT, hV] at HT
      rw [hV] at HN HV0
      have HTT := hide hT
      clear hT hV
      obtain ⟨q, hq⟩ : ∃ q, n - 1 - k = q := ⟨_, rfl⟩
      rw [hq] at e1
      have g1 : (n : Int) - 1 - (k : Int) = (q : Int) := by omega
      have g2 : (q : Int) < (n : Int) := by omega
      clear hq
      subst ha2
      have HS : Hid (T * pw 2 0 = V * 18446744073709551616 + l) := by unfold Hid; rw [show pw 2 0 = 1 from rfl]; have := HT.out; omega
      clear HT
      go_wp2
      go_loopw [9, 11, 28] (fun rv lv i wr => ∃ (j : Nat) (K Y : Int), j ≤ 64 ∧ i = .int .i64 j ∧ lv = .int .u64 Y ∧ 0 ≤ Y ∧ Y < 18446744073709551616 ∧ Hid (0 ≤ K) ∧ Hid (T * pw 2 j = K * 18446744073709551616 + Y) ∧ Hid (NumT wr rv (pm x M K) 8) ∧ Below w.heap.size w wr) (fun _ _ i _ => 64 - (intOf i).toNat)
      case atStart => exact ⟨0, V, l, by omega, rfl, rfl, hl0.1, hl0.2, HV0, HS, HN, LB⟩
      case round =>
        clear HN LB HS HV0 hl0
        obtain ⟨j, K, Y, hj, rfl, rfl, hY0, hY1, HK, HS, HN, LB⟩ := hrel
        by_cases hj64 : j < 64
        · have hjI : (j : Int) < 64 := by omega
          have hm1 := hm.below LB
          have hx1 := h1.below LB
          go_wp2_with fail
          refine (square_num _ _ M _ _ hm1 HN.out.num).mono ?_
          rintro e w2 ⟨v2, rfl, N2, B2⟩
          have hm2 := hm1.below B2
          have hx2 := hx1.below B2
          have LB2 := LB.trans (B2.mono LB.size)
          by_cases hY : Y < 9223372036854775808
          · have d1 : Y / 9223372036854775808 = 0 := by omega
            have d2 : IntKind.u64.wrap (Y * 2) = Y * 2 := by rw [IntKind.wrap_u64]; omega
            have HS' : Hid (T * pw 2 (j + 1) = (2 * K + 0) * 18446744073709551616 + Y * 2) := by unfold Hid; have := pow_bit T (pw 2 j) K Y 0 HS.out; rw [show pw 2 (j + 1) = 2 * pw 2 j from rfl, this]; omega
            have N2' : Hid (NumT w2 v2 (pm x M (2 * K + 0)) 8) := by unfold Hid; rw [← pm_dbl x M K HK.out]; exact N2
            have HK' : Hid (0 ≤ 2 * K + 0) := by unfold Hid; have := HK.out; omega
            clear N2 HN HS HK
            go_wp2
            go_roundw
            case rel => exact ⟨j + 1, 2 * K + 0, Y * 2, by omega, by go_num, rfl, by omega, by omega, HK', HS', N2', LB2⟩
            case measure => simp [intOf] <;> omega
          · have d1 : Y / 9223372036854775808 = 1 := by omega
            have d2 : IntKind.u64.wrap (Y * 2) = Y * 2 - 18446744073709551616 := by rw [IntKind.wrap_u64]; omega
            have HS' : Hid (T * pw 2 (j + 1) = (2 * K + 1) * 18446744073709551616 + (Y * 2 - 18446744073709551616)) := by unfold Hid; have := pow_bit T (pw 2 j) K Y 1 HS.out; rw [show pw 2 (j + 1) = 2 * pw 2 j from rfl, this]; omega
            have HK' : Hid (0 ≤ 2 * K + 1) := by unfold Hid; have := HK.out; omega
            go_wp2_with fail
            refine (times_num _ _ _ M _ _ _ hm2 N2.num hx2).mono ?_
            rintro e w3 ⟨v3, rfl, N3, B3⟩
            have N3' : Hid (NumT w3 v3 (pm x M (2 * K + 1)) 8) := by unfold Hid; rw [← pm_dbl1 x M K HK.out]; exact N3
            have LB3 := LB2.trans (B3.mono LB2.size)
            clear N2 N3 HN HS HK
            go_wp2
            go_roundw
            case rel => exact ⟨j + 1, 2 * K + 1, Y * 2 - 18446744073709551616, by omega, by go_num, rfl, by omega, by omega, HK', HS', N3', LB3⟩
            case measure => simp [intOf] <;> omega
        · obtain rfl : j = 64 := by omega
          have hKT : K = T := pow_end T K Y (by have := HS.out; rw [show pw 2 64 = 18446744073709551616 by decide] at this; exact this) hY0 hY1
          subst hKT
          go_wp2
          go_roundw
          case rel => exact ⟨k + 1, by omega, by go_num, by unfold Hid; rw [HTT.out]; exact HN.out, LB⟩
          case measure => simp [intOf] <;> omega
    · obtain rfl : k = n := by omega
      have HN2 : Hid (NumT wr u9 (pm x M (val 18446744073709551616 es)) 8) := by have := HN.out; rw [Nat.sub_self, List.drop_zero] at this; exact this
      clear HN
      go_wp2
      go_ret
      exact ⟨_, rfl, HN2.out, LB⟩

def expE (es : List Int) : Int := if 8 < (trm es).length then 3 else 0

set_option maxRecDepth 100000 in
theorem exp_arg (mv v1 : Value) (M x E : Int) (a2 : Option Addr) (n c : Nat) (es : List Int) (w : World) (hm : ModU w mv M) (h1 : Arg w v1 x E) (h2 : SrcG .u64 18446744073709551616 w a2 n c es) :
    Calls Try.prog 23 #[mv, v1, .slice a2 n c] w fun e w' => ∃ v, e = .returned (.tuple #[v, .int .i64 (max E (expE es))]) ∧ Ans w' v (pm x M (val 18446744073709551616 es)) (max E (expE es)) ∧ Below w.heap.size w w' := by
  have HC := hide (reduce_arg mv v1 M x E w hm h1)
  have hF : expE es = 0 ∨ expE es = 3 := by unfold expE; split <;> simp
  by_cases hE : E = 0
  · subst hE
    by_cases hl : 8 < (trm es).length
    · rw [show expE es = 3 from if_pos hl]
      go_enter Try.func23, Try.ntmps23
      go_wp2_with fail
      refine HC.out.mono ?_
      rintro e w1 ⟨u1, rfl, A1, B1⟩
      go_wp2_with fail
      refine (short_long a2 n c es w1 (h2.below B1) hl).mono ?_
      rintro e wq ⟨rfl, hw⟩
      have hw2 := hw.symm
      subst hw2
      clear hw
      go_wp2
      go_ret2
      exact ⟨_, rfl, .inr ⟨by decide, rfl⟩, B1⟩
    · rw [show expE es = 0 from if_neg hl]
      have hl8 : (trm es).length ≤ 8 := by omega
      go_enter Try.func23, Try.ntmps23
      go_wp2_with fail
      refine HC.out.mono ?_
      rintro e w1 ⟨u1, rfl, A1, B1⟩
      rcases A1 with ⟨_, N1⟩ | ⟨h, _⟩
      · have HS := hide (short_ok a2 n c es w1 (h2.below B1) hl8)
        obtain ⟨a3, n3, c3, zs, heq, s3, _, m3, v3⟩ := trm_num (h2.below B1)
        cases heq
        have HV := hide v3
        go_wp2_with fail
        refine HS.out.mono ?_
        rintro e wq ⟨rfl, hw⟩
        have hw2 := hw.symm
        subst hw2
        clear hw
        go_wp2_with fail
        refine (power_num mv u1 M (x % M) a2 _ c zs w1 (hm.below B1) N1.num s3 hl8).mono ?_
        rintro e w2 ⟨u2, rfl, N2, B2⟩
        rw [HV.out, pm_red] at N2
        go_wp2
        go_ret2
        exact ⟨u2, rfl, .inl ⟨rfl, N2⟩, B1.trans (B2.mono B1.size)⟩
      · exact absurd rfl h
  · have hE3 : E = 3 := by
      rcases h1 with ⟨h, _⟩ | ⟨h, _⟩
      · exact absurd h hE
      · exact h
    subst hE3
    have hmx : max 3 (expE es) = 3 := by
      rcases hF with h | h <;> rw [h] <;> decide
    rw [hmx]
    clear hmx
    go_enter Try.func23, Try.ntmps23
    go_wp2_with fail
    refine HC.out.mono ?_
    rintro e w1 ⟨u1, rfl, A1, B1⟩
    go_wp2
    go_ret2
    exact ⟨_, rfl, .inr ⟨by decide, rfl⟩, B1⟩

end Go.Proofs.Ytobdpcmafjhnlaa
