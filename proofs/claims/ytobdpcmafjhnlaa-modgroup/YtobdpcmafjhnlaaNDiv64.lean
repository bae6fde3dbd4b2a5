/-
  math/bits.Div64, by a number whose highest bit is set: the quotient of two limbs.
-/
import Derived.Test.YtobdpcmafjhnlaaNDivM
import Derived.Lib.ItoaNum
namespace Go.Proofs.Ytobdpcmafjhnlaa
open Go.RowKit Go.IntWalk

theorem bitLen_in (y : Int) (h0 : 0 < y) (h1 : y < 18446744073709551616) : ∃ L : Nat, Lib.bitLen y.toNat = L ∧ 1 ≤ L ∧ L ≤ 64 ∧ (2 : Int) ^ (L - 1) ≤ y ∧ y < (2 : Int) ^ L := by
  obtain ⟨Y, rfl⟩ := Int.eq_ofNat_of_zero_le (show 0 ≤ y by omega)
  simp only [Int.toNat_natCast]
  unfold Lib.bitLen
  obtain ⟨a, b, c⟩ := Lib.bitLenAux_bounds 64 Y (by omega) (by omega)
  refine ⟨_, rfl, a, ?_, ?_, ?_⟩
  · rcases Nat.lt_or_ge 64 (Lib.bitLenAux 64 Y) with h | h
    · exfalso
      have := Nat.pow_le_pow_right (show 0 < 2 by omega) (show 64 ≤ Lib.bitLenAux 64 Y - 1 by omega)
      omega
    · exact h
  · have : ((2 ^ (Lib.bitLenAux 64 Y - 1) : Nat) : Int) ≤ (Y : Int) := by omega
    rwa [Int.natCast_pow] at this
  · have : (Y : Int) < ((2 ^ Lib.bitLenAux 64 Y : Nat) : Int) := by omega
    rwa [Int.natCast_pow] at this

theorem bitLen_top (y : Int) (h0 : 9223372036854775808 ≤ y) (h1 : y < 18446744073709551616) : (Lib.bitLen y.toNat : Int) = 64 := by
  obtain ⟨L, hL, l1, l2, l3, l4⟩ := bitLen_in y (by omega) h1
  rw [hL]
  rcases Nat.lt_or_ge 63 L with h | h
  · omega
  · exfalso
    have h5 : (2 : Int) ^ L ≤ 2 ^ 63 := by
      have : 2 ^ L ≤ 2 ^ 63 := Nat.pow_le_pow_right (show 0 < 2 by omega) h
      have h6 : ((2 ^ L : Nat) : Int) ≤ ((2 ^ 63 : Nat) : Int) := by omega
      rwa [Int.natCast_pow, Int.natCast_pow] at h6
    omega

theorem mask32 (a : Int) (h0 : 0 ≤ a) (h1 : a < 18446744073709551616) : bits .and .u64 a 4294967295 = a % 4294967296 := by
  obtain ⟨A, rfl⟩ := Int.eq_ofNat_of_zero_le h0
  rw [Mul64.maskN A (by omega)]
  omega

theorem or0 (a : Int) (h0 : 0 ≤ a) (h1 : a < 18446744073709551616) : bits .or .u64 a 0 = a := by
  obtain ⟨A, rfl⟩ := Int.eq_ofNat_of_zero_le h0
  have h := bits_or_u64_nat A 0 (by omega) (by omega)
  simpa using h

set_option maxRecDepth 100000 in
set_option maxHeartbeats 4000000 in
theorem div64_any (hi lo y : Int) (w : World) (hy0 : 9223372036854775808 ≤ y) (hy1 : y < 18446744073709551616) (hh0 : 0 ≤ hi) (hh1 : hi < y) (hl0 : 0 ≤ lo) (hl1 : lo < 18446744073709551616) :
    Calls Try.prog 80 #[.int .u64 hi, .int .u64 lo, .int .u64 y] w fun e w' => (∃ r, e = .returned (.tuple #[.int .u64 ((hi * 18446744073709551616 + lo) / y), .int .u64 r])) ∧ ∃ m, w' = w.drewN m := by
  have ny : ¬ y = 0 := by omega
  have nh : ¬ y ≤ hi := by omega
  by_cases hz : hi = 0
  · subst hz
    have e1 : (0 * 18446744073709551616 + lo) / y = lo / y := by rw [Int.zero_mul, Int.zero_add]
    rw [e1]
    have t1 : Int.tdiv lo y = lo / y := Int.tdiv_eq_ediv_of_nonneg hl0
    have t3 : IntKind.u64.wrap (lo / y) = lo / y := by
      have h1 := Int.ediv_nonneg hl0 (show 0 ≤ y by omega)
      have h2 := Int.ediv_le_self y hl0
      rw [IntKind.wrap_u64]; omega
    go_enter Try.func80, Try.ntmps80
    go_wp2_with fail
    go_quiet (fail)
    go_wp2
    go_ret2
    exact ⟨⟨_, rfl⟩, _, rfl⟩
  · have HVV := hv_of y hy0 hy1
    have yp : 0 < y := by omega
    have m1 := mask32 y (by omega) hy1
    have m2 := mask32 lo hl0 hl1
    have c1a : 0 ≤ lo / 4294967296 := by omega
    have c1b : lo / 4294967296 < 4294967296 := by omega
    have c0a : 0 ≤ lo % 4294967296 := by omega
    have c0b : lo % 4294967296 < 4294967296 := by omega
    have H2 := hide (dq_two (u := hi) (lo := lo) yp)
    obtain ⟨R, hR⟩ : ∃ R, (hi * 18446744073709551616 + lo) / y = R := ⟨_, rfl⟩
    rw [hR] at H2
    rw [hR]
    clear hR
    obtain ⟨y1, hy1e⟩ : ∃ y1, y / 4294967296 = y1 := ⟨_, rfl⟩
    obtain ⟨y0, hy0e⟩ : ∃ y0, y % 4294967296 = y0 := ⟨_, rfl⟩
    obtain ⟨l1, hl1e⟩ : ∃ l1, lo / 4294967296 = l1 := ⟨_, rfl⟩
    obtain ⟨l0, hl0e⟩ : ∃ l0, lo % 4294967296 = l0 := ⟨_, rfl⟩
    rw [hy1e, hy0e] at HVV
    rw [hy0e] at m1
    rw [hl0e] at m2 c0a c0b
    rw [hl1e] at c1a c1b
    rw [hl1e, hl0e] at H2
    have YA := HVV.a1
    have YB := HVV.b1
    have YC := HVV.a0
    have YD := HVV.b0
    have HV := hide HVV
    have nz : ¬ y1 = 0 := by omega
    have o0 : lo / 18446744073709551616 = 0 := by omega
    have o1 := or0 hi hh0 (by omega)
    have lz2 : ∀ W : World, Calls Try.prog 65 #[.int .u64 y] W fun e w' => e = .returned (.int .i64 0) ∧ w' = W := by
      intro W
      have := Try.bits_LeadingZeros64 y W (by omega) (by omega)
      rwa [bitLen_top y hy0 hy1] at this
    have LZ := hide lz2
    clear lz2 HVV hy0e hl0e
    have hi1 : hi < 18446744073709551616 := by omega
    have Fa := dq_first (c := l1) HV.out hh0 c1b c1a
    have tqa : Int.tdiv hi y1 = hi / y1 := Int.tdiv_eq_ediv_of_nonneg hh0
    have qsa := Int.ediv_le_self y1 hh0
    obtain ⟨qa, hqa⟩ : ∃ q, hi / y1 = q := ⟨_, rfl⟩
    rw [hqa] at Fa tqa qsa
    obtain ⟨f1a, f2a, f3a, f4a, f5a, f6a, f7a⟩ := Fa
    obtain ⟨pa, hpa⟩ : ∃ p, qa * y1 = p := ⟨_, rfl⟩
    have wqa : IntKind.u64.wrap qa = qa := by rw [IntKind.wrap_u64]; omega
    have wpa : IntKind.u64.wrap (qa * y1) = pa := by rw [IntKind.wrap_u64]; omega
    obtain ⟨ra, hra⟩ : ∃ r, hi - pa = r := ⟨_, rfl⟩
    have wra : IntKind.u64.wrap (hi - pa) = ra := by rw [IntKind.wrap_u64]; omega
    have Sa : Hid (qa * y1 + ra = hi ∧ 0 ≤ ra ∧ ra < 4294967296 ∧ dq hi l1 y ≤ qa ∧ 0 ≤ qa ∧ qa < 18446744073709551616) := ⟨by omega, by omega, by omega, f4a, f5a, by omega⟩
    clear hqa f1a f2a f3a f4a f5a f6a f7a hpa hra qsa
    go_enter Try.func80, Try.ntmps80
    go_wp2_with (go_at_call 65; refine (LZ.out _).mono ?_; rintro e w1 ⟨rfl, hw⟩; have hw2 := hw.symm; subst hw2)
    go_loop [15, 16] (fun a b => ∃ q r, a = .int .u64 q ∧ b = .int .u64 r ∧ Hid (q * y1 + r = hi) ∧ 0 ≤ r ∧ r < 4294967296 ∧ Hid (dq hi l1 y ≤ q) ∧ 0 ≤ q ∧ q < 18446744073709551616) (fun a _ => (intOf a).toNat)
    case atStart => exact ⟨qa, ra, rfl, rfl, Sa.out.1, Sa.out.2.1, Sa.out.2.2.1, Sa.out.2.2.2.1, Sa.out.2.2.2.2.1, Sa.out.2.2.2.2.2⟩
    case round =>
      obtain ⟨q, r, rfl, rfl, HI, hr0, hr1, HQ, hq0, hq1⟩ := hrel
      clear Sa
      by_cases hb : 4294967296 ≤ q
      · have HT : Hid (4294967296 ≤ q ∨ 4294967296 * r + l1 < q * y0) := .inl hb
        have hD := dq_yes HV.out hh1 c1b HI.out HT.out
        have hdn := dq_nonneg (c := l1) yp (show 0 ≤ hi by omega) c1a
        have w1 : IntKind.u64.wrap (q - 1) = q - 1 := by rw [IntKind.wrap_u64]; omega
        have w2 : IntKind.u64.wrap (r + y1) = r + y1 := by rw [IntKind.wrap_u64]; omega
        have HI' : Hid ((q - 1) * y1 + (r + y1) = hi) := by unfold Hid; have := HI.out; grind
        have HD := hide hD
        have q1 : 0 ≤ q - 1 := by omega
        clear hD hdn
        by_cases hbr : 4294967296 ≤ r + y1
        · have hE := dq_break HV.out hh1 c1a HI'.out hbr HD.out q1
          have HE := hide hE
          clear hE
          obtain ⟨Qa, hQ⟩ : ∃ Q, q = Q + 1 := ⟨q - 1, by omega⟩
          subst hQ
          rw [Int.add_sub_cancel] at HE w1 q1
          clear HI' HD HT
          have RQ := dq_rest (u := hi) (c := l1) yp
          have QS := dq_small HV.out hh1 c1b
          have QN := dq_nonneg (c := l1) yp hh0 c1a
          have H2' := H2
          rw [← HE.out] at RQ QS QN H2'
          obtain ⟨u2, hu2⟩ : ∃ u2, hi * 4294967296 + l1 - Qa * y = u2 := ⟨_, rfl⟩
          rw [hu2] at RQ H2'
          obtain ⟨x1, hx1⟩ : ∃ x, IntKind.u64.wrap (hi * 4294967296) = x := ⟨_, rfl⟩
          obtain ⟨x2, hx2⟩ : ∃ x, IntKind.u64.wrap (x1 + l1) = x := ⟨_, rfl⟩
          obtain ⟨x3, hx3⟩ : ∃ x, IntKind.u64.wrap (Qa * y) = x := ⟨_, rfl⟩
          have hx4 : IntKind.u64.wrap (x2 - x3) = u2 := by
            rw [IntKind.wrap_u64] at hx1 hx2 hx3 ⊢
            omega
          have u20 : 0 ≤ u2 := RQ.1
          have u21 : u2 < y := RQ.2
          have u22 : u2 < 18446744073709551616 := by omega
          clear hu2 RQ
          have Fb := dq_first (c := l0) HV.out u20 c0b c0a
          have tqb : Int.tdiv u2 y1 = u2 / y1 := Int.tdiv_eq_ediv_of_nonneg u20
          have qsb := Int.ediv_le_self y1 u20
          obtain ⟨qb, hqb⟩ : ∃ q, u2 / y1 = q := ⟨_, rfl⟩
          rw [hqb] at Fb tqb qsb
          obtain ⟨f1b, f2b, f3b, f4b, f5b, f6b, f7b⟩ := Fb
          obtain ⟨pb, hpb⟩ : ∃ p, qb * y1 = p := ⟨_, rfl⟩
          have wqb : IntKind.u64.wrap qb = qb := by rw [IntKind.wrap_u64]; omega
          have wpb : IntKind.u64.wrap (qb * y1) = pb := by rw [IntKind.wrap_u64]; omega
          obtain ⟨rb, hrb⟩ : ∃ r, u2 - pb = r := ⟨_, rfl⟩
          have wrb : IntKind.u64.wrap (u2 - pb) = rb := by rw [IntKind.wrap_u64]; omega
          have Sb : Hid (qb * y1 + rb = u2 ∧ 0 ≤ rb ∧ rb < 4294967296 ∧ dq u2 l0 y ≤ qb ∧ 0 ≤ qb ∧ qb < 18446744073709551616) := ⟨by omega, by omega, by omega, f4b, f5b, by omega⟩
          clear hqb f1b f2b f3b f4b f5b f6b f7b hpb hrb qsb
          have wQ : IntKind.u64.wrap (Qa * 4294967296) = Qa * 4294967296 := by rw [IntKind.wrap_u64]; omega
          clear HI HQ
          go_wp2
          go_loop [18, 16] (fun a b => ∃ q r, a = .int .u64 q ∧ b = .int .u64 r ∧ Hid (q * y1 + r = u2) ∧ 0 ≤ r ∧ r < 4294967296 ∧ Hid (dq u2 l0 y ≤ q) ∧ 0 ≤ q ∧ q < 18446744073709551616) (fun a _ => (intOf a).toNat)
          case atStart => exact ⟨qb, rb, rfl, rfl, Sb.out.1, Sb.out.2.1, Sb.out.2.2.1, Sb.out.2.2.2.1, Sb.out.2.2.2.2.1, Sb.out.2.2.2.2.2⟩
          case round =>
            obtain ⟨q, r, rfl, rfl, HI, hr0, hr1, HQ, hq0, hq1⟩ := hrel
            clear Sb
            by_cases hb : 4294967296 ≤ q
            · have HT : Hid (4294967296 ≤ q ∨ 4294967296 * r + l0 < q * y0) := .inl hb
              have hD := dq_yes HV.out u21 c0b HI.out HT.out
              have hdn := dq_nonneg (c := l0) yp (show 0 ≤ u2 by omega) c0a
              have w1 : IntKind.u64.wrap (q - 1) = q - 1 := by rw [IntKind.wrap_u64]; omega
              have w2 : IntKind.u64.wrap (r + y1) = r + y1 := by rw [IntKind.wrap_u64]; omega
              have HI' : Hid ((q - 1) * y1 + (r + y1) = u2) := by unfold Hid; have := HI.out; grind
              have HD := hide hD
              have q1 : 0 ≤ q - 1 := by omega
              clear hD hdn
              by_cases hbr : 4294967296 ≤ r + y1
              · have hE := dq_break HV.out u21 c0a HI'.out hbr HD.out q1
                have HE := hide hE
                clear hE
                obtain ⟨Qb, hQ⟩ : ∃ Q, q = Q + 1 := ⟨q - 1, by omega⟩
                subst hQ
                rw [Int.add_sub_cancel] at HE w1 q1
                clear HI' HD HT
                have QS2 := dq_small HV.out u21 c0b
                have QN2 := dq_nonneg (c := l0) yp u20 c0a
                rw [← HE.out] at QS2 QN2
                have FF : Hid (Qa * 4294967296 + Qb = R) := by unfold Hid; rw [HE.out]; exact H2'.out
                have wF : IntKind.u64.wrap (Qa * 4294967296 + Qb) = Qa * 4294967296 + Qb := by rw [IntKind.wrap_u64]; omega
                obtain ⟨z1, hz1⟩ : ∃ x, IntKind.u64.wrap (u2 * 4294967296) = x := ⟨_, rfl⟩
                obtain ⟨z2, hz2⟩ : ∃ x, IntKind.u64.wrap (z1 + l0) = x := ⟨_, rfl⟩
                obtain ⟨z3, hz3⟩ : ∃ x, IntKind.u64.wrap (Qb * y) = x := ⟨_, rfl⟩
                obtain ⟨z4, hz4⟩ : ∃ x, IntKind.u64.wrap (z2 - z3) = x := ⟨_, rfl⟩
                clear HI HQ QS2 QN2 QS QN H2' HE hx1 hx2 hx3 hx4
                go_wp2
                go_ret2
                have FE := FF.out
                subst FE
                exact ⟨⟨_, rfl⟩, 0, rfl⟩
              · go_wp2
                go_round
                case rel => exact ⟨q - 1, r + y1, rfl, rfl, HI', by omega, by omega, HD, q1, by omega⟩
                case measure => simp [intOf] <;> omega
            · have pb := Int.mul_le_mul (show q ≤ 4294967295 by omega) (show y0 ≤ 4294967295 by omega) YC (by omega : (0 : Int) ≤ 4294967295)
              have pn := Int.mul_nonneg hq0 YC
              obtain ⟨pz, hpz⟩ : ∃ p, q * y0 = p := ⟨_, rfl⟩
              have wz : IntKind.u64.wrap (q * y0) = pz := by rw [IntKind.wrap_u64]; omega
              have wh : IntKind.u64.wrap (4294967296 * r) = 4294967296 * r := by rw [IntKind.wrap_u64]; omega
              obtain ⟨sz, hsz⟩ : ∃ s, 4294967296 * r + l0 = s := ⟨_, rfl⟩
              have ws : IntKind.u64.wrap (4294967296 * r + l0) = sz := by rw [IntKind.wrap_u64]; omega
              by_cases ht : sz < pz
              · have HT : Hid (4294967296 ≤ q ∨ 4294967296 * r + l0 < q * y0) := .inr (by rw [hpz, hsz]; exact ht)
                clear hpz hsz pb pn
                have hD := dq_yes HV.out u21 c0b HI.out HT.out
                have hdn := dq_nonneg (c := l0) yp (show 0 ≤ u2 by omega) c0a
                have w1 : IntKind.u64.wrap (q - 1) = q - 1 := by rw [IntKind.wrap_u64]; omega
                have w2 : IntKind.u64.wrap (r + y1) = r + y1 := by rw [IntKind.wrap_u64]; omega
                have HI' : Hid ((q - 1) * y1 + (r + y1) = u2) := by unfold Hid; have := HI.out; grind
                have HD := hide hD
                have q1 : 0 ≤ q - 1 := by omega
                clear hD hdn
                by_cases hbr : 4294967296 ≤ r + y1
                · have hE := dq_break HV.out u21 c0a HI'.out hbr HD.out q1
                  have HE := hide hE
                  clear hE
                  obtain ⟨Qb, hQ⟩ : ∃ Q, q = Q + 1 := ⟨q - 1, by omega⟩
                  subst hQ
                  rw [Int.add_sub_cancel] at HE w1 q1
                  clear HI' HD HT
                  have QS2 := dq_small HV.out u21 c0b
                  have QN2 := dq_nonneg (c := l0) yp u20 c0a
                  rw [← HE.out] at QS2 QN2
                  have FF : Hid (Qa * 4294967296 + Qb = R) := by unfold Hid; rw [HE.out]; exact H2'.out
                  have wF : IntKind.u64.wrap (Qa * 4294967296 + Qb) = Qa * 4294967296 + Qb := by rw [IntKind.wrap_u64]; omega
                  obtain ⟨z1, hz1⟩ : ∃ x, IntKind.u64.wrap (u2 * 4294967296) = x := ⟨_, rfl⟩
                  obtain ⟨z2, hz2⟩ : ∃ x, IntKind.u64.wrap (z1 + l0) = x := ⟨_, rfl⟩
                  obtain ⟨z3, hz3⟩ : ∃ x, IntKind.u64.wrap (Qb * y) = x := ⟨_, rfl⟩
                  obtain ⟨z4, hz4⟩ : ∃ x, IntKind.u64.wrap (z2 - z3) = x := ⟨_, rfl⟩
                  clear HI HQ QS2 QN2 QS QN H2' HE hx1 hx2 hx3 hx4
                  go_wp2
                  go_ret2
                  have FE := FF.out
                  subst FE
                  exact ⟨⟨_, rfl⟩, 0, rfl⟩
                · go_wp2
                  go_round
                  case rel => exact ⟨q - 1, r + y1, rfl, rfl, HI', by omega, by omega, HD, q1, by omega⟩
                  case measure => simp [intOf] <;> omega
              · have hE := dq_no HV.out HI.out (show q * y0 ≤ 4294967296 * r + l0 by rw [hpz, hsz]; omega) HQ.out
                have HE := hide hE
                clear hpz hsz pb pn hE
                obtain ⟨Qb, hQ⟩ : ∃ Q, Q = q := ⟨_, rfl⟩
                subst hQ
                have QS2 := dq_small HV.out u21 c0b
                have QN2 := dq_nonneg (c := l0) yp u20 c0a
                rw [← HE.out] at QS2 QN2
                have FF : Hid (Qa * 4294967296 + Qb = R) := by unfold Hid; rw [HE.out]; exact H2'.out
                have wF : IntKind.u64.wrap (Qa * 4294967296 + Qb) = Qa * 4294967296 + Qb := by rw [IntKind.wrap_u64]; omega
                obtain ⟨z1, hz1⟩ : ∃ x, IntKind.u64.wrap (u2 * 4294967296) = x := ⟨_, rfl⟩
                obtain ⟨z2, hz2⟩ : ∃ x, IntKind.u64.wrap (z1 + l0) = x := ⟨_, rfl⟩
                obtain ⟨z3, hz3⟩ : ∃ x, IntKind.u64.wrap (Qb * y) = x := ⟨_, rfl⟩
                obtain ⟨z4, hz4⟩ : ∃ x, IntKind.u64.wrap (z2 - z3) = x := ⟨_, rfl⟩
                clear HI HQ QS2 QN2 QS QN H2' HE hx1 hx2 hx3 hx4
                go_wp2
                go_ret2
                have FE := FF.out
                subst FE
                exact ⟨⟨_, rfl⟩, 0, rfl⟩
        · go_wp2
          go_round
          case rel => exact ⟨q - 1, r + y1, rfl, rfl, HI', by omega, by omega, HD, q1, by omega⟩
          case measure => simp [intOf] <;> omega
      · have pb := Int.mul_le_mul (show q ≤ 4294967295 by omega) (show y0 ≤ 4294967295 by omega) YC (by omega : (0 : Int) ≤ 4294967295)
        have pn := Int.mul_nonneg hq0 YC
        obtain ⟨pz, hpz⟩ : ∃ p, q * y0 = p := ⟨_, rfl⟩
        have wz : IntKind.u64.wrap (q * y0) = pz := by rw [IntKind.wrap_u64]; omega
        have wh : IntKind.u64.wrap (4294967296 * r) = 4294967296 * r := by rw [IntKind.wrap_u64]; omega
        obtain ⟨sz, hsz⟩ : ∃ s, 4294967296 * r + l1 = s := ⟨_, rfl⟩
        have ws : IntKind.u64.wrap (4294967296 * r + l1) = sz := by rw [IntKind.wrap_u64]; omega
        by_cases ht : sz < pz
        · have HT : Hid (4294967296 ≤ q ∨ 4294967296 * r + l1 < q * y0) := .inr (by rw [hpz, hsz]; exact ht)
          clear hpz hsz pb pn
          have hD := dq_yes HV.out hh1 c1b HI.out HT.out
          have hdn := dq_nonneg (c := l1) yp (show 0 ≤ hi by omega) c1a
          have w1 : IntKind.u64.wrap (q - 1) = q - 1 := by rw [IntKind.wrap_u64]; omega
          have w2 : IntKind.u64.wrap (r + y1) = r + y1 := by rw [IntKind.wrap_u64]; omega
          have HI' : Hid ((q - 1) * y1 + (r + y1) = hi) := by unfold Hid; have := HI.out; grind
          have HD := hide hD
          have q1 : 0 ≤ q - 1 := by omega
          clear hD hdn
          by_cases hbr : 4294967296 ≤ r + y1
          · have hE := dq_break HV.out hh1 c1a HI'.out hbr HD.out q1
            have HE := hide hE
            clear hE
            obtain ⟨Qa, hQ⟩ : ∃ Q, q = Q + 1 := ⟨q - 1, by omega⟩
            subst hQ
            rw [Int.add_sub_cancel] at HE w1 q1
            clear HI' HD HT
            have RQ := dq_rest (u := hi) (c := l1) yp
            have QS := dq_small HV.out hh1 c1b
            have QN := dq_nonneg (c := l1) yp hh0 c1a
            have H2' := H2
            rw [← HE.out] at RQ QS QN H2'
            obtain ⟨u2, hu2⟩ : ∃ u2, hi * 4294967296 + l1 - Qa * y = u2 := ⟨_, rfl⟩
            rw [hu2] at RQ H2'
            obtain ⟨x1, hx1⟩ : ∃ x, IntKind.u64.wrap (hi * 4294967296) = x := ⟨_, rfl⟩
            obtain ⟨x2, hx2⟩ : ∃ x, IntKind.u64.wrap (x1 + l1) = x := ⟨_, rfl⟩
            obtain ⟨x3, hx3⟩ : ∃ x, IntKind.u64.wrap (Qa * y) = x := ⟨_, rfl⟩
            have hx4 : IntKind.u64.wrap (x2 - x3) = u2 := by
              rw [IntKind.wrap_u64] at hx1 hx2 hx3 ⊢
              omega
            have u20 : 0 ≤ u2 := RQ.1
            have u21 : u2 < y := RQ.2
            have u22 : u2 < 18446744073709551616 := by omega
            clear hu2 RQ
            have Fb := dq_first (c := l0) HV.out u20 c0b c0a
            have tqb : Int.tdiv u2 y1 = u2 / y1 := Int.tdiv_eq_ediv_of_nonneg u20
            have qsb := Int.ediv_le_self y1 u20
            obtain ⟨qb, hqb⟩ : ∃ q, u2 / y1 = q := ⟨_, rfl⟩
            rw [hqb] at Fb tqb qsb
            obtain ⟨f1b, f2b, f3b, f4b, f5b, f6b, f7b⟩ := Fb
            obtain ⟨pb, hpb⟩ : ∃ p, qb * y1 = p := ⟨_, rfl⟩
            have wqb : IntKind.u64.wrap qb = qb := by rw [IntKind.wrap_u64]; omega
            have wpb : IntKind.u64.wrap (qb * y1) = pb := by rw [IntKind.wrap_u64]; omega
            obtain ⟨rb, hrb⟩ : ∃ r, u2 - pb = r := ⟨_, rfl⟩
            have wrb : IntKind.u64.wrap (u2 - pb) = rb := by rw [IntKind.wrap_u64]; omega
            have Sb : Hid (qb * y1 + rb = u2 ∧ 0 ≤ rb ∧ rb < 4294967296 ∧ dq u2 l0 y ≤ qb ∧ 0 ≤ qb ∧ qb < 18446744073709551616) := ⟨by omega, by omega, by omega, f4b, f5b, by omega⟩
            clear hqb f1b f2b f3b f4b f5b f6b f7b hpb hrb qsb
            have wQ : IntKind.u64.wrap (Qa * 4294967296) = Qa * 4294967296 := by rw [IntKind.wrap_u64]; omega
            clear HI HQ
            go_wp2
            go_loop [18, 16] (fun a b => ∃ q r, a = .int .u64 q ∧ b = .int .u64 r ∧ Hid (q * y1 + r = u2) ∧ 0 ≤ r ∧ r < 4294967296 ∧ Hid (dq u2 l0 y ≤ q) ∧ 0 ≤ q ∧ q < 18446744073709551616) (fun a _ => (intOf a).toNat)
            case atStart => exact ⟨qb, rb, rfl, rfl, Sb.out.1, Sb.out.2.1, Sb.out.2.2.1, Sb.out.2.2.2.1, Sb.out.2.2.2.2.1, Sb.out.2.2.2.2.2⟩
            case round =>
              obtain ⟨q, r, rfl, rfl, HI, hr0, hr1, HQ, hq0, hq1⟩ := hrel
              clear Sb
              by_cases hb : 4294967296 ≤ q
              · have HT : Hid (4294967296 ≤ q ∨ 4294967296 * r + l0 < q * y0) := .inl hb
                have hD := dq_yes HV.out u21 c0b HI.out HT.out
                have hdn := dq_nonneg (c := l0) yp (show 0 ≤ u2 by omega) c0a
                have w1 : IntKind.u64.wrap (q - 1) = q - 1 := by rw [IntKind.wrap_u64]; omega
                have w2 : IntKind.u64.wrap (r + y1) = r + y1 := by rw [IntKind.wrap_u64]; omega
                have HI' : Hid ((q - 1) * y1 + (r + y1) = u2) := by unfold Hid; have := HI.out; grind
                have HD := hide hD
                have q1 : 0 ≤ q - 1 := by omega
                clear hD hdn
                by_cases hbr : 4294967296 ≤ r + y1
                · have hE := dq_break HV.out u21 c0a HI'.out hbr HD.out q1
                  have HE := hide hE
                  clear hE
                  obtain ⟨Qb, hQ⟩ : ∃ Q, q = Q + 1 := ⟨q - 1, by omega⟩
                  subst hQ
                  rw [Int.add_sub_cancel] at HE w1 q1
                  clear HI' HD HT
                  have QS2 := dq_small HV.out u21 c0b
                  have QN2 := dq_nonneg (c := l0) yp u20 c0a
                  rw [← HE.out] at QS2 QN2
                  have FF : Hid (Qa * 4294967296 + Qb = R) := by unfold Hid; rw [HE.out]; exact H2'.out
                  have wF : IntKind.u64.wrap (Qa * 4294967296 + Qb) = Qa * 4294967296 + Qb := by rw [IntKind.wrap_u64]; omega
                  obtain ⟨z1, hz1⟩ : ∃ x, IntKind.u64.wrap (u2 * 4294967296) = x := ⟨_, rfl⟩
                  obtain ⟨z2, hz2⟩ : ∃ x, IntKind.u64.wrap (z1 + l0) = x := ⟨_, rfl⟩
                  obtain ⟨z3, hz3⟩ : ∃ x, IntKind.u64.wrap (Qb * y) = x := ⟨_, rfl⟩
                  obtain ⟨z4, hz4⟩ : ∃ x, IntKind.u64.wrap (z2 - z3) = x := ⟨_, rfl⟩
                  clear HI HQ QS2 QN2 QS QN H2' HE hx1 hx2 hx3 hx4
                  go_wp2
                  go_ret2
                  have FE := FF.out
                  subst FE
                  exact ⟨⟨_, rfl⟩, 0, rfl⟩
                · go_wp2
                  go_round
                  case rel => exact ⟨q - 1, r + y1, rfl, rfl, HI', by omega, by omega, HD, q1, by omega⟩
                  case measure => simp [intOf] <;> omega
              · have pb := Int.mul_le_mul (show q ≤ 4294967295 by omega) (show y0 ≤ 4294967295 by omega) YC (by omega : (0 : Int) ≤ 4294967295)
                have pn := Int.mul_nonneg hq0 YC
                obtain ⟨pz, hpz⟩ : ∃ p, q * y0 = p := ⟨_, rfl⟩
                have wz : IntKind.u64.wrap (q * y0) = pz := by rw [IntKind.wrap_u64]; omega
                have wh : IntKind.u64.wrap (4294967296 * r) = 4294967296 * r := by rw [IntKind.wrap_u64]; omega
                obtain ⟨sz, hsz⟩ : ∃ s, 4294967296 * r + l0 = s := ⟨_, rfl⟩
                have ws : IntKind.u64.wrap (4294967296 * r + l0) = sz := by rw [IntKind.wrap_u64]; omega
                by_cases ht : sz < pz
                · have HT : Hid (4294967296 ≤ q ∨ 4294967296 * r + l0 < q * y0) := .inr (by rw [hpz, hsz]; exact ht)
                  clear hpz hsz pb pn
                  have hD := dq_yes HV.out u21 c0b HI.out HT.out
                  have hdn := dq_nonneg (c := l0) yp (show 0 ≤ u2 by omega) c0a
                  have w1 : IntKind.u64.wrap (q - 1) = q - 1 := by rw [IntKind.wrap_u64]; omega
                  have w2 : IntKind.u64.wrap (r + y1) = r + y1 := by rw [IntKind.wrap_u64]; omega
                  have HI' : Hid ((q - 1) * y1 + (r + y1) = u2) := by unfold Hid; have := HI.out; grind
                  have HD := hide hD
                  have q1 : 0 ≤ q - 1 := by omega
                  clear hD hdn
                  by_cases hbr : 4294967296 ≤ r + y1
                  · have hE := dq_break HV.out u21 c0a HI'.out hbr HD.out q1
                    have HE := hide hE
                    clear hE
                    obtain ⟨Qb, hQ⟩ : ∃ Q, q = Q + 1 := ⟨q - 1, by omega⟩
                    subst hQ
                    rw [Int.add_sub_cancel] at HE w1 q1
                    clear HI' HD HT
                    have QS2 := dq_small HV.out u21 c0b
                    have QN2 := dq_nonneg (c := l0) yp u20 c0a
                    rw [← HE.out] at QS2 QN2
                    have FF : Hid (Qa * 4294967296 + Qb = R) := by unfold Hid; rw [HE.out]; exact H2'.out
                    have wF : IntKind.u64.wrap (Qa * 4294967296 + Qb) = Qa * 4294967296 + Qb := by rw [IntKind.wrap_u64]; omega
                    obtain ⟨z1, hz1⟩ : ∃ x, IntKind.u64.wrap (u2 * 4294967296) = x := ⟨_, rfl⟩
                    obtain ⟨z2, hz2⟩ : ∃ x, IntKind.u64.wrap (z1 + l0) = x := ⟨_, rfl⟩
                    obtain ⟨z3, hz3⟩ : ∃ x, IntKind.u64.wrap (Qb * y) = x := ⟨_, rfl⟩
                    obtain ⟨z4, hz4⟩ : ∃ x, IntKind.u64.wrap (z2 - z3) = x := ⟨_, rfl⟩
                    clear HI HQ QS2 QN2 QS QN H2' HE hx1 hx2 hx3 hx4
                    go_wp2
                    go_ret2
                    have FE := FF.out
                    subst FE
                    exact ⟨⟨_, rfl⟩, 0, rfl⟩
                  · go_wp2
                    go_round
                    case rel => exact ⟨q - 1, r + y1, rfl, rfl, HI', by omega, by omega, HD, q1, by omega⟩
                    case measure => simp [intOf] <;> omega
                · have hE := dq_no HV.out HI.out (show q * y0 ≤ 4294967296 * r + l0 by rw [hpz, hsz]; omega) HQ.out
                  have HE := hide hE
                  clear hpz hsz pb pn hE
                  obtain ⟨Qb, hQ⟩ : ∃ Q, Q = q := ⟨_, rfl⟩
                  subst hQ
                  have QS2 := dq_small HV.out u21 c0b
                  have QN2 := dq_nonneg (c := l0) yp u20 c0a
                  rw [← HE.out] at QS2 QN2
                  have FF : Hid (Qa * 4294967296 + Qb = R) := by unfold Hid; rw [HE.out]; exact H2'.out
                  have wF : IntKind.u64.wrap (Qa * 4294967296 + Qb) = Qa * 4294967296 + Qb := by rw [IntKind.wrap_u64]; omega
                  obtain ⟨z1, hz1⟩ : ∃ x, IntKind.u64.wrap (u2 * 4294967296) = x := ⟨_, rfl⟩
                  obtain ⟨z2, hz2⟩ : ∃ x, IntKind.u64.wrap (z1 + l0) = x := ⟨_, rfl⟩
                  obtain ⟨z3, hz3⟩ : ∃ x, IntKind.u64.wrap (Qb * y) = x := ⟨_, rfl⟩
                  obtain ⟨z4, hz4⟩ : ∃ x, IntKind.u64.wrap (z2 - z3) = x := ⟨_, rfl⟩
                  clear HI HQ QS2 QN2 QS QN H2' HE hx1 hx2 hx3 hx4
                  go_wp2
                  go_ret2
                  have FE := FF.out
                  subst FE
                  exact ⟨⟨_, rfl⟩, 0, rfl⟩
          · go_wp2
            go_round
            case rel => exact ⟨q - 1, r + y1, rfl, rfl, HI', by omega, by omega, HD, q1, by omega⟩
            case measure => simp [intOf] <;> omega
        · have hE := dq_no HV.out HI.out (show q * y0 ≤ 4294967296 * r + l1 by rw [hpz, hsz]; omega) HQ.out
          have HE := hide hE
          clear hpz hsz pb pn hE
          obtain ⟨Qa, hQ⟩ : ∃ Q, Q = q := ⟨_, rfl⟩
          subst hQ
          have RQ := dq_rest (u := hi) (c := l1) yp
          have QS := dq_small HV.out hh1 c1b
          have QN := dq_nonneg (c := l1) yp hh0 c1a
          have H2' := H2
          rw [← HE.out] at RQ QS QN H2'
          obtain ⟨u2, hu2⟩ : ∃ u2, hi * 4294967296 + l1 - Qa * y = u2 := ⟨_, rfl⟩
          rw [hu2] at RQ H2'
          obtain ⟨x1, hx1⟩ : ∃ x, IntKind.u64.wrap (hi * 4294967296) = x := ⟨_, rfl⟩
          obtain ⟨x2, hx2⟩ : ∃ x, IntKind.u64.wrap (x1 + l1) = x := ⟨_, rfl⟩
          obtain ⟨x3, hx3⟩ : ∃ x, IntKind.u64.wrap (Qa * y) = x := ⟨_, rfl⟩
          have hx4 : IntKind.u64.wrap (x2 - x3) = u2 := by
            rw [IntKind.wrap_u64] at hx1 hx2 hx3 ⊢
            omega
          have u20 : 0 ≤ u2 := RQ.1
          have u21 : u2 < y := RQ.2
          have u22 : u2 < 18446744073709551616 := by omega
          clear hu2 RQ
          have Fb := dq_first (c := l0) HV.out u20 c0b c0a
          have tqb : Int.tdiv u2 y1 = u2 / y1 := Int.tdiv_eq_ediv_of_nonneg u20
          have qsb := Int.ediv_le_self y1 u20
          obtain ⟨qb, hqb⟩ : ∃ q, u2 / y1 = q := ⟨_, rfl⟩
          rw [hqb] at Fb tqb qsb
          obtain ⟨f1b, f2b, f3b, f4b, f5b, f6b, f7b⟩ := Fb
          obtain ⟨pb, hpb⟩ : ∃ p, qb * y1 = p := ⟨_, rfl⟩
          have wqb : IntKind.u64.wrap qb = qb := by rw [IntKind.wrap_u64]; omega
          have wpb : IntKind.u64.wrap (qb * y1) = pb := by rw [IntKind.wrap_u64]; omega
          obtain ⟨rb, hrb⟩ : ∃ r, u2 - pb = r := ⟨_, rfl⟩
          have wrb : IntKind.u64.wrap (u2 - pb) = rb := by rw [IntKind.wrap_u64]; omega
          have Sb : Hid (qb * y1 + rb = u2 ∧ 0 ≤ rb ∧ rb < 4294967296 ∧ dq u2 l0 y ≤ qb ∧ 0 ≤ qb ∧ qb < 18446744073709551616) := ⟨by omega, by omega, by omega, f4b, f5b, by omega⟩
          clear hqb f1b f2b f3b f4b f5b f6b f7b hpb hrb qsb
          have wQ : IntKind.u64.wrap (Qa * 4294967296) = Qa * 4294967296 := by rw [IntKind.wrap_u64]; omega
          clear HI HQ
          go_wp2
          go_loop [18, 16] (fun a b => ∃ q r, a = .int .u64 q ∧ b = .int .u64 r ∧ Hid (q * y1 + r = u2) ∧ 0 ≤ r ∧ r < 4294967296 ∧ Hid (dq u2 l0 y ≤ q) ∧ 0 ≤ q ∧ q < 18446744073709551616) (fun a _ => (intOf a).toNat)
          case atStart => exact ⟨qb, rb, rfl, rfl, Sb.out.1, Sb.out.2.1, Sb.out.2.2.1, Sb.out.2.2.2.1, Sb.out.2.2.2.2.1, Sb.out.2.2.2.2.2⟩
          case round =>
            obtain ⟨q, r, rfl, rfl, HI, hr0, hr1, HQ, hq0, hq1⟩ := hrel
            clear Sb
            by_cases hb : 4294967296 ≤ q
            · have HT : Hid (4294967296 ≤ q ∨ 4294967296 * r + l0 < q * y0) := .inl hb
              have hD := dq_yes HV.out u21 c0b HI.out HT.out
              have hdn := dq_nonneg (c := l0) yp (show 0 ≤ u2 by omega) c0a
              have w1 : IntKind.u64.wrap (q - 1) = q - 1 := by rw [IntKind.wrap_u64]; omega
              have w2 : IntKind.u64.wrap (r + y1) = r + y1 := by rw [IntKind.wrap_u64]; omega
              have HI' : Hid ((q - 1) * y1 + (r + y1) = u2) := by unfold Hid; have := HI.out; grind
              have HD := hide hD
              have q1 : 0 ≤ q - 1 := by omega
              clear hD hdn
              by_cases hbr : 4294967296 ≤ r + y1
              · have hE := dq_break HV.out u21 c0a HI'.out hbr HD.out q1
                have HE := hide hE
                clear hE
                obtain ⟨Qb, hQ⟩ : ∃ Q, q = Q + 1 := ⟨q - 1, by omega⟩
                subst hQ
                rw [Int.add_sub_cancel] at HE w1 q1
                clear HI' HD HT
                have QS2 := dq_small HV.out u21 c0b
                have QN2 := dq_nonneg (c := l0) yp u20 c0a
                rw [← HE.out] at QS2 QN2
                have FF : Hid (Qa * 4294967296 + Qb = R) := by unfold Hid; rw [HE.out]; exact H2'.out
                have wF : IntKind.u64.wrap (Qa * 4294967296 + Qb) = Qa * 4294967296 + Qb := by rw [IntKind.wrap_u64]; omega
                obtain ⟨z1, hz1⟩ : ∃ x, IntKind.u64.wrap (u2 * 4294967296) = x := ⟨_, rfl⟩
                obtain ⟨z2, hz2⟩ : ∃ x, IntKind.u64.wrap (z1 + l0) = x := ⟨_, rfl⟩
                obtain ⟨z3, hz3⟩ : ∃ x, IntKind.u64.wrap (Qb * y) = x := ⟨_, rfl⟩
                obtain ⟨z4, hz4⟩ : ∃ x, IntKind.u64.wrap (z2 - z3) = x := ⟨_, rfl⟩
                clear HI HQ QS2 QN2 QS QN H2' HE hx1 hx2 hx3 hx4
                go_wp2
                go_ret2
                have FE := FF.out
                subst FE
                exact ⟨⟨_, rfl⟩, 0, rfl⟩
              · go_wp2
                go_round
                case rel => exact ⟨q - 1, r + y1, rfl, rfl, HI', by omega, by omega, HD, q1, by omega⟩
                case measure => simp [intOf] <;> omega
            · have pb := Int.mul_le_mul (show q ≤ 4294967295 by omega) (show y0 ≤ 4294967295 by omega) YC (by omega : (0 : Int) ≤ 4294967295)
              have pn := Int.mul_nonneg hq0 YC
              obtain ⟨pz, hpz⟩ : ∃ p, q * y0 = p := ⟨_, rfl⟩
              have wz : IntKind.u64.wrap (q * y0) = pz := by rw [IntKind.wrap_u64]; omega
              have wh : IntKind.u64.wrap (4294967296 * r) = 4294967296 * r := by rw [IntKind.wrap_u64]; omega
              obtain ⟨sz, hsz⟩ : ∃ s, 4294967296 * r + l0 = s := ⟨_, rfl⟩
              have ws : IntKind.u64.wrap (4294967296 * r + l0) = sz := by rw [IntKind.wrap_u64]; omega
              by_cases ht : sz < pz
              · have HT : Hid (4294967296 ≤ q ∨ 4294967296 * r + l0 < q * y0) := .inr (by rw [hpz, hsz]; exact ht)
                clear hpz hsz pb pn
                have hD := dq_yes HV.out u21 c0b HI.out HT.out
                have hdn := dq_nonneg (c := l0) yp (show 0 ≤ u2 by omega) c0a
                have w1 : IntKind.u64.wrap (q - 1) = q - 1 := by rw [IntKind.wrap_u64]; omega
                have w2 : IntKind.u64.wrap (r + y1) = r + y1 := by rw [IntKind.wrap_u64]; omega
                have HI' : Hid ((q - 1) * y1 + (r + y1) = u2) := by unfold Hid; have := HI.out; grind
                have HD := hide hD
                have q1 : 0 ≤ q - 1 := by omega
                clear hD hdn
                by_cases hbr : 4294967296 ≤ r + y1
                · have hE := dq_break HV.out u21 c0a HI'.out hbr HD.out q1
                  have HE := hide hE
                  clear hE
                  obtain ⟨Qb, hQ⟩ : ∃ Q, q = Q + 1 := ⟨q - 1, by omega⟩
                  subst hQ
                  rw [Int.add_sub_cancel] at HE w1 q1
                  clear HI' HD HT
                  have QS2 := dq_small HV.out u21 c0b
                  have QN2 := dq_nonneg (c := l0) yp u20 c0a
                  rw [← HE.out] at QS2 QN2
                  have FF : Hid (Qa * 4294967296 + Qb = R) := by unfold Hid; rw [HE.out]; exact H2'.out
                  have wF : IntKind.u64.wrap (Qa * 4294967296 + Qb) = Qa * 4294967296 + Qb := by rw [IntKind.wrap_u64]; omega
                  obtain ⟨z1, hz1⟩ : ∃ x, IntKind.u64.wrap (u2 * 4294967296) = x := ⟨_, rfl⟩
                  obtain ⟨z2, hz2⟩ : ∃ x, IntKind.u64.wrap (z1 + l0) = x := ⟨_, rfl⟩
                  obtain ⟨z3, hz3⟩ : ∃ x, IntKind.u64.wrap (Qb * y) = x := ⟨_, rfl⟩
                  obtain ⟨z4, hz4⟩ : ∃ x, IntKind.u64.wrap (z2 - z3) = x := ⟨_, rfl⟩
                  clear HI HQ QS2 QN2 QS QN H2' HE hx1 hx2 hx3 hx4
                  go_wp2
                  go_ret2
                  have FE := FF.out
                  subst FE
                  exact ⟨⟨_, rfl⟩, 0, rfl⟩
                · go_wp2
                  go_round
                  case rel => exact ⟨q - 1, r + y1, rfl, rfl, HI', by omega, by omega, HD, q1, by omega⟩
                  case measure => simp [intOf] <;> omega
              · have hE := dq_no HV.out HI.out (show q * y0 ≤ 4294967296 * r + l0 by rw [hpz, hsz]; omega) HQ.out
                have HE := hide hE
                clear hpz hsz pb pn hE
                obtain ⟨Qb, hQ⟩ : ∃ Q, Q = q := ⟨_, rfl⟩
                subst hQ
                have QS2 := dq_small HV.out u21 c0b
                have QN2 := dq_nonneg (c := l0) yp u20 c0a
                rw [← HE.out] at QS2 QN2
                have FF : Hid (Qa * 4294967296 + Qb = R) := by unfold Hid; rw [HE.out]; exact H2'.out
                have wF : IntKind.u64.wrap (Qa * 4294967296 + Qb) = Qa * 4294967296 + Qb := by rw [IntKind.wrap_u64]; omega
                obtain ⟨z1, hz1⟩ : ∃ x, IntKind.u64.wrap (u2 * 4294967296) = x := ⟨_, rfl⟩
                obtain ⟨z2, hz2⟩ : ∃ x, IntKind.u64.wrap (z1 + l0) = x := ⟨_, rfl⟩
                obtain ⟨z3, hz3⟩ : ∃ x, IntKind.u64.wrap (Qb * y) = x := ⟨_, rfl⟩
                obtain ⟨z4, hz4⟩ : ∃ x, IntKind.u64.wrap (z2 - z3) = x := ⟨_, rfl⟩
                clear HI HQ QS2 QN2 QS QN H2' HE hx1 hx2 hx3 hx4
                go_wp2
                go_ret2
                have FE := FF.out
                subst FE
                exact ⟨⟨_, rfl⟩, 0, rfl⟩

end Go.Proofs.Ytobdpcmafjhnlaa
