/-
  NatBack answers true at any number and place, and writes nothing that was there.
-/
import Derived.Test.YtekhobmjjoegpabDoorNFrom
import Derived.Test.YtekhobmjjoegpabDoorNNum
namespace Go.Proofs.YtekhobmjjoegpabDoor
open Go.RowKit Go.IntWalk

theorem digit_val {b : Int} (hb : 0 < b) {R : List Int} (hR : Dg b R) (j : Nat) : R.getD j 0 = val b R / pw b j % b := by
  rw [val_div hb hR, val_dropAt, Int.add_mul_emod_self_left]
  exact (Int.emod_eq_of_lt (hR.at hb j).1 (hR.at hb j).2).symm

theorem bit_of_byte (x : Int) (j t : Nat) (ht : t < 8) : x / pw 256 j % 256 / pw 2 t % 2 = x / pw 2 (8 * j + t) % 2 := by
  have hp := pw_pos (b := 2) (by decide) t
  have h8 := pw_pos (b := 256) (by decide) j
  rw [pw_add, pw_b, ← Int.ediv_ediv_of_nonneg (by omega)]
  generalize x / pw 256 j = W
  have e := Int.mul_ediv_add_emod W 256
  obtain ⟨k, hk⟩ : ∃ k, 8 = t + (k + 1) := ⟨8 - t - 1, by omega⟩
  have e1 : (256 : Int) = pw 2 t * (2 * pw 2 k) := by rw [show (256 : Int) = pw 2 8 by decide, hk, pw_add]; rfl
  have e2 : W = W % 256 + pw 2 t * (2 * (pw 2 k * (W / 256))) := by
    have e3 : pw 2 t * (2 * (pw 2 k * (W / 256))) = 256 * (W / 256) := by
      generalize W / 256 = Y
      rw [e1, Int.mul_assoc, Int.mul_assoc]
    omega
  have e4 : W / pw 2 t = W % 256 / pw 2 t + 2 * (pw 2 k * (W / 256)) := by
    have e5 : W / pw 2 t = (W % 256 + pw 2 t * (2 * (pw 2 k * (W / 256)))) / pw 2 t := congrArg (fun z => z / pw 2 t) e2
    rw [Int.add_mul_ediv_left _ _ (by omega)] at e5
    exact e5
  rw [e4, Int.add_mul_emod_self_left]

theorem bl_top {x : Int} {S : Nat} (h : BL x S) (hS : 1 ≤ S) : x / pw 2 (S - 1) % 2 = 1 := by
  rcases h with ⟨_, rfl⟩ | ⟨h0, h1, h2, h3⟩
  · omega
  · have hp := pw_pos (b := 2) (by decide) (S - 1)
    have h4 : pw 2 S = 2 * pw 2 (S - 1) := by
      obtain ⟨R, rfl⟩ : ∃ R, S = R + 1 := ⟨S - 1, by omega⟩
      rfl
    rw [h4] at h3
    have e1 : x / pw 2 (S - 1) < 2 := Int.ediv_lt_of_lt_mul hp (by omega)
    have e2 : 1 ≤ x / pw 2 (S - 1) := (Int.le_ediv_iff_mul_le hp).2 (by omega)
    omega

set_option maxRecDepth 100000 in
set_option maxHeartbeats 4000000 in
theorem back_walk (a1 : Option Addr) (n1 c1 : Nat) (xs : List Int) (I : Int) (w : World) (h1 : SrcG .u64 18446744073709551616 w a1 n1 c1 xs) :
    Calls Tryd.prog 3 #[.slice a1 n1 c1, .int .i64 I] w fun e w' => e = .returned (.bool true) ∧ Below w.heap.size w w' := by
  have C1 := hide (cut_num a1 n1 c1 xs w h1 64 64 rfl)
  -- the place
  obtain ⟨U, hU⟩ : ∃ U, IntKind.u64.wrap I = U := ⟨_, rfl⟩
  have hU0 : 0 ≤ U ∧ U < 18446744073709551616 := by rw [← hU, IntKind.wrap_u64]; omega
  obtain ⟨k, hk⟩ : ∃ k : Nat, U % 4096 = (k : Int) := ⟨(U % 4096).toNat, by omega⟩
  have hm : Int.tmod U 4096 = (k : Int) := by rw [Int.tmod_eq_emod_of_nonneg hU0.1]; exact hk
  have hkb : (k : Int) ≤ 4095 := by omega
  obtain ⟨j, hj⟩ : ∃ j, k / 8 = j := ⟨_, rfl⟩
  obtain ⟨t, ht⟩ : ∃ t, k % 8 = t := ⟨_, rfl⟩
  have td : Int.tdiv (k : Int) 8 = (j : Int) := by rw [Int.tdiv_eq_ediv_of_nonneg (by omega)]; omega
  have tm : Int.tmod (k : Int) 8 = (t : Int) := by rw [Int.tmod_eq_emod_of_nonneg (by omega)]; omega
  have hjb : (j : Int) ≤ 511 := by omega
  have HKJ : Hid (k = 8 * j + t ∧ t < 8) := by unfold Hid; omega
  clear hk hj ht
  go_enter Tryd.func3, Tryd.ntmps3
  go_wp2_with fail
  refine C1.out.mono ?_
  rintro e w1 ⟨va, x, rfl, hva, NA, hw⟩
  have hw2 := hw.symm
  subst hw2
  clear hw hva
  have hx := NA.nonneg
  have NA0 := NA
  obtain ⟨ax, nx, cx, X, rfl, SX, lX, vX⟩ := NA
  have VX := hide vX
  have LX := hide lX
  have HX := hide hx
  clear vX lX hx
  have cb := bytes_ok ax nx cx X w SX LX.out
  rw [VX.out] at cb
  have CB := hide cb
  clear cb
  go_wp2_with fail
  refine CB.out.mono ?_
  rintro e w1 ⟨vb, bs, S, rfl, Gb, vb', hBL, hS, hLb, B1⟩
  have HBL := hide hBL
  have HVB := hide vb'
  have DB := hide Gb.dg
  have SXb := SX.below B1
  have LW := B1
  obtain ⟨gb, rest, rfl, hgb, Rb, hlb⟩ := Gb
  obtain ⟨L, hL⟩ : ∃ L, bs.length = L := ⟨_, rfl⟩
  rw [hL] at hLb hlb ⊢
  have HL := hide hL
  have HLS := hide hLb
  have SB : SrcG .u8 256 w1 (some ⟨gb, 0, none⟩) L L bs := by
    have := Rb.src 0 L L (by simp [hL]) (Nat.le_refl _) (by unfold maxLen; omega)
    rwa [List.drop_zero, List.take_append_of_le_length (by omega), List.take_of_length_le (by omega)] at this
  have hL5 : L ≤ 512 := by omega
  have cf := from_ok _ L L bs w1 SB (by have := lz_len bs; omega)
  rw [HVB.out] at cf
  have CF := hide cf
  have HB := hide SB
  have HS := hide hS
  have sb : (S : Int) ≤ 4096 := by omega
  have lb : (L : Int) ≤ 512 := by omega
  clear cf hBL vb' hL hLb hlb Rb hgb hS
  go_wp2_with fail
  refine CF.out.mono ?_
  rintro e w2 ⟨vz, zs, rfl, Gz, Tz, vz', B2⟩
  have NZ := NumU.of Gz Tz 64 (tr_len_le (b := 18446744073709551616) (by decide) Gz.dg Tz 64 (by rw [vz']; exact HX.out.2))
  rw [vz'] at NZ
  have SX := SXb.below B2
  have NA := (NA0.below LW).below B2
  have SB := HB.out.below B2
  have LW := LW.trans (B2.mono LW.size)
  clear B1 B2 Gz Tz vz' SXb NA0 HB CF
  have cb2 := bits_ok ax nx cx X w2 SX LX.out
  rw [VX.out] at cb2
  have CB2 := hide cb2
  clear cb2
  go_wp2_with fail
  refine CB2.out.mono ?_
  rintro e w3 ⟨S', rfl, hBL', _, hw⟩
  have hw2 := hw.symm
  subst hw2
  clear hw
  obtain rfl : S' = S := bl_unique hBL' HBL.out
  clear hBL' CB2
  go_wp2_with fail
  refine (alike_true _ _ _ _ _ _ _ NZ NA (by omega) (by omega) rfl).mono ?_
  rintro e w4 ⟨rfl, hD⟩
  have SX := hD.src SX
  have SB := hD.src SB
  have LW := hD.below LW
  clear hD NZ NA
  have tdL : Int.tdiv ((S' : Int) + 7) 8 = (L : Int) := by rw [Int.tdiv_eq_ediv_of_nonneg (by omega)]; have := HLS.out; omega
  rcases Nat.eq_zero_or_pos S' with h0 | h0
  · have hS0 : (S' : Int) = 0 := by omega
    have hL0 : L = 0 := by have := HLS.out; omega
    have x0 : x = 0 := by
      rcases HBL.out with ⟨h, _⟩ | h
      · exact h
      · omega
    have HK : Hid (x / pw 2 k % 2 = 0) := by unfold Hid; rw [x0]; simp
    subst hL0
    have hat : ¬ 0 ≤ -1 - (j : Int) := by omega
    subst h0
    clear hS0
    go_wp2_with fail
    refine (works_any _).mono ?_
    rintro e w5 ⟨rfl, hB⟩
    have SX := SX.below hB
    have LW := LW.trans (hB.mono LW.size)
    clear hB
    go_wp2_with fail
    refine (bit_any ax nx cx X k _ rfl _ SX (by omega)).mono ?_
    rintro e w9 ⟨rfl, hw⟩
    have hw2 := hw.symm
    subst hw2
    clear hw
    rw [VX.out, HK.out]
    go_wp2
    go_ret
    exact ⟨rfl, LW⟩
  · have hL1 : 1 ≤ L := by have := HLS.out; omega
    have hLp : (0 : Int) < (L : Int) := by omega
    have hSn : ¬ (S' : Int) = 0 := by omega
    obtain ⟨b0, o0, hae, e0⟩ := SB.at 0 (by omega)
    have hae2 := hide hae
    simp only [Option.some.injEq, Addr.mk.injEq] at hae
    obtain ⟨rfl, rfl, _⟩ := hae
    have hb0 : bs.getD 0 0 ≠ 0 := by
      intro h
      have g1 := (bl_bytes HBL.out).2 (by rw [← HLS.out]; exact hL1)
      rw [← HLS.out] at g1
      have hR : Dg 256 bs.reverse := by intro y hy; exact DB.out y (by simpa using hy)
      have g2 := val_last 256 bs.reverse (by intro h'; have := congrArg List.length h'; simp [HL.out] at this; omega)
      rw [List.length_reverse, HL.out, rev_getD bs _ (by rw [HL.out]; omega), HL.out, show L - 1 - (L - 1) = 0 by omega, h, Int.zero_mul, Int.add_zero, HVB.out] at g2
      have g3 := val_lt (b := 256) (by decide) (hR.take (L - 1))
      rw [List.length_take, List.length_reverse, HL.out, Nat.min_eq_left (by omega)] at g3
      omega
    obtain ⟨y0, hy0⟩ : ∃ y, bs.getD 0 0 = y := ⟨_, rfl⟩
    rw [hy0] at e0 hb0
    simp only [Nat.add_zero] at e0
    have hyb : (y0 == 0) = false := by simpa using hb0
    clear hy0 hb0
    have hS1 : (S' : Int) - 1 = ((S' - 1 : Nat) : Int) := by omega
    obtain ⟨R, hRR⟩ : ∃ R, S' - 1 = R := ⟨_, rfl⟩
    rw [hRR] at hS1
    have Rb : (R : Int) ≤ 4095 := by omega
    have HT := bl_top HBL.out h0
    rw [hRR] at HT
    have HTOP := hide HT
    clear HT
    go_wp2_with fail
    refine (works_any _).mono ?_
    rintro e w5 ⟨rfl, hB⟩
    have SX := SX.below hB
    have SB := SB.below hB
    have LW := LW.trans (hB.mono LW.size)
    clear hB e0
    by_cases hjL : j < L
    · obtain ⟨p, hp⟩ : ∃ p, L - 1 - j = p := ⟨_, rfl⟩
      have hpI : (L : Int) - 1 - (j : Int) = (p : Int) := by omega
      have hpL : (p : Int) < (L : Int) := by omega
      obtain ⟨b1, o1, hae, e1⟩ := SB.at p (by omega)
      simp only [Option.some.injEq, Addr.mk.injEq] at hae
      obtain ⟨rfl, rfl, _⟩ := hae
      rw [Nat.zero_add] at e1
      have hdg : bs.getD p 0 = x / pw 256 j % 256 := by
        have hR : Dg 256 bs.reverse := by intro y hy; exact DB.out y (by simpa using hy)
        have g1 := digit_val (by decide) hR j
        rw [rev_getD bs j (by rw [HL.out]; exact hjL), HL.out, hp, HVB.out] at g1
        exact g1
      have hd := DB.out.at (by decide : (0 : Int) < 256) p
      have hbb := bit_of_byte x j t HKJ.out.2
      rw [← hdg, ← HKJ.out.1] at hbb
      obtain ⟨d, hdd⟩ : ∃ d, bs.getD p 0 = d := ⟨_, rfl⟩
      rw [hdd] at e1 hd hbb
      obtain ⟨T, hT⟩ : ∃ T : Int, (t : Int) = T := ⟨_, rfl⟩
      have hsh : d / 2 ^ T.toNat = d / pw 2 t := by rw [pw_eq, ← hT, Int.toNat_natCast]
      have t0 : 0 ≤ T := by omega
      have t1 : T ≤ 63 := by have := HKJ.out; omega
      have hq0 : 0 ≤ d / pw 2 t := Int.ediv_nonneg hd.1 (by have := pw_pos (b := 2) (by decide) t; omega)
      obtain ⟨y, hy⟩ : ∃ y, d / pw 2 t = y := ⟨_, rfl⟩
      rw [hy] at hsh hq0 hbb
      obtain ⟨W, hW⟩ : ∃ W, y % 2 = W := ⟨_, rfl⟩
      have hmd : Int.tmod y 2 = W := by rw [Int.tmod_eq_emod_of_nonneg hq0]; exact hW
      have hW0 : 0 ≤ W ∧ W < 2 := by omega
      rw [hW] at hbb
      have HK : Hid (x / pw 2 k % 2 = W) := hbb.symm
      have wW : IntKind.u64.wrap W = W := by rw [IntKind.wrap_u64]; omega
      have wd : IntKind.u64.wrap d = d := by rw [IntKind.wrap_u64]; omega
      rw [hT] at tm
      have hWW : (W == W) = true := by simp
      clear hdg hdd hT hy hW hbb hp
      go_wp2_with fail
      refine (bit_any ax nx cx X k _ rfl _ SX (by omega)).mono ?_
      rintro e w9 ⟨rfl, hw⟩
      have hw2 := hw.symm
      subst hw2
      clear hw
      rw [VX.out, HK.out]
      go_wp2_with fail
      refine (bit_any ax nx cx X R _ rfl _ SX (by omega)).mono ?_
      rintro e w9 ⟨rfl, hw⟩
      have hw2 := hw.symm
      subst hw2
      clear hw
      rw [VX.out, HTOP.out]
      go_wp2
      go_ret
      exact ⟨rfl, LW⟩
    · have hat : ¬ 0 ≤ (L : Int) - 1 - (j : Int) := by omega
      have HK : Hid (x / pw 2 k % 2 = 0) := by
        unfold Hid
        have g1 := (bl_bytes HBL.out).1
        rw [← HLS.out] at g1
        have g2 := pw_mono (b := 2) (by decide) (8 * L) k (by have := HKJ.out; omega)
        rw [pw_b] at g2
        rw [Int.ediv_eq_zero_of_lt HBL.out.nonneg (by omega)]
        rfl
      go_wp2_with fail
      refine (bit_any ax nx cx X k _ rfl _ SX (by omega)).mono ?_
      rintro e w9 ⟨rfl, hw⟩
      have hw2 := hw.symm
      subst hw2
      clear hw
      rw [VX.out, HK.out]
      go_wp2_with fail
      refine (bit_any ax nx cx X R _ rfl _ SX (by omega)).mono ?_
      rintro e w9 ⟨rfl, hw⟩
      have hw2 := hw.symm
      subst hw2
      clear hw
      rw [VX.out, HTOP.out]
      go_wp2
      go_ret
      exact ⟨rfl, LW⟩

end Go.Proofs.YtekhobmjjoegpabDoor
