/-
  bytes.TrimLeft of noughts, and nat.From: the number that bytes say.
-/
import Derived.Test.YtekhobmjjoegpaaDoorNBytes
namespace Go.Proofs.YtekhobmjjoegpaaDoor
open Go.RowKit Go.IntWalk

/-- Without the noughts ahead. -/
def lz : List Int → List Int
  | [] => []
  | x :: r => if x = 0 then lz r else x :: r

theorem lz_len : ∀ xs : List Int, (lz xs).length ≤ xs.length
  | [] => Nat.le_refl _
  | x :: r => by
    rw [lz]
    split
    · have := lz_len r; simp; omega
    · exact Nat.le_refl _

theorem lz_dg {b : Int} : ∀ {xs : List Int}, Dg b xs → Dg b (lz xs)
  | [], h => h
  | x :: r, h => by
    rw [lz]
    split
    · exact lz_dg (fun y hy => h y (by simp [hy]))
    · exact h

theorem lz_val (b : Int) : ∀ xs : List Int, val b (lz xs).reverse = val b xs.reverse
  | [] => rfl
  | x :: r => by
    rw [lz]
    split
    · rename_i h
      rw [lz_val b r, List.reverse_cons, val_append, h]
      simp [val]
    · rfl

theorem lz_head : ∀ xs : List Int, lz xs = [] ∨ (lz xs).getD 0 0 ≠ 0
  | [] => .inl rfl
  | x :: r => by
    rw [lz]
    split
    · exact lz_head r
    · right
      simpa

def lenV : Value → Nat
  | .slice _ n _ => n
  | _ => 0

theorem sliceG_1 {P : Program} {T : TypeId} (sT : TypeId) (hT : P.elem sT = T) (hu : P.underlying sT = some (.slice T)) (hsz : ∀ w : World, (sizeOf T).run P w = .ok 1 w) (w : World) (ao : Option Addr) (n c : Nat) (hn : 1 ≤ n) :
    (Instr.slice sT (.slice ao n c) (some (.int .i64 1)) none none).run P w = .ok (.slice (cutG ao c 1) (n - 1) (c - 1)) w := by
  have hu' : P.underlying sT = some (.slice (P.elem sT)) := by rw [hT]; exact hu
  rw [run_slice_l w _ _ _ _ hu' .i64 1 (by omega) (by omega), hT, hsz]
  simp [sliced, cutG, Result.andThen]

set_option maxRecDepth 100000 in
set_option maxHeartbeats 1000000 in
theorem trimByte_any (ao : Option Addr) (n c : Nat) (xs : List Int) (w : World) (hs : SrcG .u8 256 w ao n c xs) :
    Calls Tryd.prog 24 #[.slice ao n c, .int .u8 0] w fun e w' => ∃ ao' c', e = .returned (.slice ao' (lz xs).length c') ∧ SrcG .u8 256 w ao' (lz xs).length c' (lz xs) ∧ w' = w := by
  go_enter Tryd.func24, Tryd.ntmps24
  go_wp2
  go_loop [0] (fun v => ∃ ao n c ys, v = .slice ao n c ∧ SrcG .u8 256 w ao n c ys ∧ Hid (lz ys = lz xs)) (fun v => lenV v)
  case atStart => exact ⟨ao, n, c, xs, rfl, hs, rfl⟩
  case round =>
    clear hs
    obtain ⟨ao, n, c, ys, rfl, hs, HE⟩ := hrel
    have hl := hs.hlen
    have hm := hs.lenI.1
    cases ys with
    | nil =>
      have h0 : n = 0 := by simpa using hl.symm
      subst h0
      have HX : Hid (lz xs = []) := HE.out.symm
      clear hl
      go_wp2
      go_ret
      rw [HX.out]
      exact ⟨none, 0, rfl, ⟨rfl, Nat.le_refl _, by decide, fun _ => ⟨rfl, rfl⟩, fun h => absurd rfl h, by intro x hx; simp at hx⟩, rfl⟩
    | cons x r =>
      have hn1 : 1 ≤ n := by simp at hl; omega
      obtain ⟨b, o, rfl, e1⟩ := hs.at 0 (by omega)
      simp only [List.getD_cons_zero, Nat.add_zero] at e1
      have hnI : (0 : Int) < (n : Int) := by omega
      have hnz : ¬ (n : Int) = 0 := by omega
      by_cases hx : x = 0
      · subst hx
        have hsl := fun W => sliceG_1 (P := Tryd.prog) 22 Tryd.elemB Tryd.underlying22 Tryd.sizeOfB W (some ⟨b, o, none⟩) n c hn1
        have hs' := hs.cut 1 n (by omega) (Nat.le_refl _)
        rw [List.take_of_length_le (by omega)] at hs'
        simp only [List.drop_succ_cons, List.drop_zero] at hs'
        have HS' := hide hs'
        have HE' : Hid (lz r = lz xs) := by unfold Hid; rw [← HE.out]; simp [lz]
        clear hs hs' HE
        go_wp2
        go_round
        case rel => exact ⟨_, _, _, r, rfl, HS'.out, HE'⟩
        case measure => simp [lenV] <;> omega
      · have HX : Hid (lz xs = x :: r) := by unfold Hid; rw [← HE.out, lz, if_neg hx]
        have HS := hide hs
        clear hs
        go_wp2
        go_ret
        rw [HX.out, hl]
        exact ⟨_, c, rfl, HS.out, rfl⟩

set_option maxRecDepth 100000 in
theorem trimLeft_any (ao : Option Addr) (n c : Nat) (xs : List Int) (w : World) (hs : SrcG .u8 256 w ao n c xs) :
    Calls Tryd.prog 17 #[.slice ao n c, .string ⟨#[0]⟩] w fun e w' => ∃ ao' c', e = .returned (.slice ao' (lz xs).length c') ∧ SrcG .u8 256 w ao' (lz xs).length c' (lz xs) ∧ w' = w := by
  rcases Nat.eq_zero_or_pos n with h0 | h0
  · subst h0
    obtain rfl : xs = [] := List.eq_nil_of_length_eq_zero hs.hlen
    go_enter Tryd.func17, Tryd.ntmps17
    go_wp2
    go_ret
    exact ⟨none, 0, rfl, ⟨rfl, Nat.le_refl _, by decide, fun _ => ⟨rfl, rfl⟩, fun h => absurd rfl h, by intro x hx; simp [lz] at hx⟩, rfl⟩
  · have hnz : ¬ (n : Int) = 0 := by omega
    have ct := hide (trimByte_any ao n c xs w hs)
    go_enter Tryd.func17, Tryd.ntmps17
    go_wp2_with fail
    refine ct.out.mono ?_
    rintro e w1 ⟨ao', c', rfl, hs', hw⟩
    have hw2 := hw.symm
    subst hw2
    clear hw
    go_wp2
    go_ret
    exact ⟨ao', c', rfl, hs', rfl⟩

theorem tr_low_of {zs : List Int} (hz : Dg 18446744073709551616 zs) (h : zs ≠ [] → pw 18446744073709551616 (zs.length - 1) ≤ val 18446744073709551616 zs) : Tr zs := by
  intro hne h0
  have h1 := val_last 18446744073709551616 zs hne
  rw [h0, Int.zero_mul, Int.add_zero] at h1
  have h2 := val_lt (b := 18446744073709551616) (by decide) (hz.take (zs.length - 1))
  rw [List.length_take, Nat.min_eq_left (by omega)] at h2
  have := h hne
  omega

/-- A limb of a number, with what it counts, is no more than the number. -/
theorem limb_le {X : List Int} (hX : Dg 18446744073709551616 X) (q : Nat) : X.getD q 0 * pw 18446744073709551616 q ≤ val 18446744073709551616 X := by
  rcases Nat.lt_or_ge q X.length with h | h
  · have h1 := val_split 18446744073709551616 X q (by omega)
    rw [val_dropAt] at h1
    have h2 := val_nonneg (b := 18446744073709551616) (by decide) (hX.take q)
    have h3 := val_nonneg (b := 18446744073709551616) (by decide) (hX.drop (q + 1))
    have h4 := pw_pos (b := 18446744073709551616) (by decide) q
    have h5 := Int.mul_nonneg (show 0 ≤ pw 18446744073709551616 q by omega) (Int.mul_nonneg (show (0 : Int) ≤ 18446744073709551616 by omega) h3)
    rw [Int.mul_add, Int.mul_comm (pw 18446744073709551616 q) (X.getD q 0)] at h1
    omega
  · rw [List.getD, List.getElem?_eq_none h]
    have := val_nonneg (b := 18446744073709551616) (by decide) hX
    simpa using this

/-- A byte laid above a limb's lower bytes. -/
theorem or_byte (z d : Int) (t : Nat) (T : Int) (hT : T = 8 * (t : Int)) (ht : t < 8) (hz0 : 0 ≤ z) (hz1 : z < pw 256 t) (hd0 : 0 ≤ d) (hd1 : d < 256) :
    IntKind.u64.wrap (d * 2 ^ T.toNat) = d * pw 256 t ∧ bits .or .u64 z (d * pw 256 t) = z + d * pw 256 t ∧ z + d * pw 256 t < 18446744073709551616 := by
  have hp := pw_pos (b := 256) (by decide) t
  have h1 := Int.mul_le_mul_of_nonneg_right (show d + 1 ≤ 256 by omega) (show 0 ≤ pw 256 t by omega)
  rw [Int.add_mul, Int.one_mul] at h1
  have h2 := pw_mono (b := 256) (by decide) (t + 1) 8 (by omega)
  rw [show pw 256 8 = 18446744073709551616 by decide, show pw 256 (t + 1) = 256 * pw 256 t from rfl] at h2
  have h0 := Int.mul_nonneg hd0 (show 0 ≤ pw 256 t by omega)
  have e1 : (2 : Int) ^ T.toNat = pw 256 t := by rw [← pw_b, pw_eq, hT, show (8 * (t : Int)).toNat = 8 * t by omega]
  refine ⟨by rw [e1, IntKind.wrap_u64]; omega, ?_, by omega⟩
  obtain ⟨A, rfl⟩ := Int.eq_ofNat_of_zero_le hz0
  obtain ⟨D, rfl⟩ := Int.eq_ofNat_of_zero_le hd0
  have hE : pw 256 t = ((2 ^ (8 * t) : Nat) : Int) := by rw [← pw_b, pw_eq, Int.natCast_pow]; rfl
  rw [hE] at hz1 h1 h2 h0 ⊢
  rw [← Int.natCast_mul] at h1 h0 ⊢
  have h3 := bits_or_u64_nat A (D * 2 ^ (8 * t)) (by omega) (by omega)
  rw [h3]
  have h4 := Nat.two_pow_add_eq_or_of_lt (show A < 2 ^ (8 * t) by omega) D
  rw [Nat.or_comm, Nat.mul_comm D, ← h4]
  omega

set_option maxRecDepth 100000 in
theorem from_long (ao : Option Addr) (n c : Nat) (xs : List Int) (w : World) (hs : SrcG .u8 256 w ao n c xs) (hL : 512 < (lz xs).length) :
    Calls Tryd.prog 4 #[.slice ao n c] w fun e w' => e = .returned (.tuple #[.slice none 0 0, .int .i64 3]) ∧ w' = w := by
  have ct := trimLeft_any ao n c xs w hs
  obtain ⟨L, hLL⟩ : ∃ L, (lz xs).length = L := ⟨_, rfl⟩
  rw [hLL] at ct hL
  have CT := hide ct
  have hLI : (512 : Int) < (L : Int) := by omega
  clear ct hLL hL
  go_enter Tryd.func4, Tryd.ntmps4
  go_wp2_with fail
  refine CT.out.mono ?_
  rintro e w1 ⟨ao', c', rfl, hs', hw⟩
  have hw2 := hw.symm
  subst hw2
  clear hw
  go_wp2
  go_ret2
  exact ⟨rfl, rfl⟩

set_option maxRecDepth 100000 in
set_option maxHeartbeats 2000000 in
theorem from_ok (ao : Option Addr) (n c : Nat) (xs : List Int) (w : World) (hs : SrcG .u8 256 w ao n c xs) (hL : (lz xs).length ≤ 512) :
    Calls Tryd.prog 4 #[.slice ao n c] w fun e w' => ∃ v zs, e = .returned (.tuple #[v, .int .i64 0]) ∧ GotG .u64 18446744073709551616 48 w' w.heap.size v zs ∧ Tr zs ∧ val 18446744073709551616 zs = val 256 xs.reverse ∧ Below w.heap.size w w' := by
  have ct := trimLeft_any ao n c xs w hs
  have dy := lz_dg hs.hdg
  have hv := lz_val 256 xs
  have hh := lz_head xs
  obtain ⟨ys, hys⟩ : ∃ ys, lz xs = ys := ⟨_, rfl⟩
  rw [hys] at ct hL dy hv hh
  clear hys
  obtain ⟨L, hLL⟩ : ∃ L, ys.length = L := ⟨_, rfl⟩
  rw [hLL] at ct hL
  have CT := hide ct
  have HLY := hide hLL
  have DY := hide dy
  have DR : Hid (Dg 256 ys.reverse) := by intro x hx; exact dy x (by simpa using hx)
  have HV := hide hv
  have HH := hide hh
  obtain ⟨N, hN⟩ : ∃ N, (L + 7) / 8 = N := ⟨_, rfl⟩
  have td0 : Int.tdiv ((L : Int) + 8 - 1) 8 = (N : Int) := by rw [Int.tdiv_eq_ediv_of_nonneg (by omega)]; omega
  have hLI : ¬ (512 : Int) < (L : Int) := by omega
  have lb : (L : Int) ≤ 512 := by omega
  have nb : (N : Int) ≤ 64 := by omega
  have HN := hide hN
  have HL5 := hide hL
  have hmk := makeU N (N : Int) rfl (by omega)
  have R0 : Hid (RowG .u64 18446744073709551616 48 (w.alloc (.cells (madeCells #[.int .u64 0] N) 48)) w.heap.size (List.replicate N 0)) := RowG.made N _ _ (by decide) rfl rfl
  have B0 : Below w.heap.size w (w.alloc (.cells (madeCells #[.int .u64 0] N) 48)) := (Below.refl _ _).alloc (Nat.le_refl _) _
  clear ct dy hv hh hLL hN hL
  go_enter Tryd.func4, Tryd.ntmps4
  go_wp2_with fail
  refine CT.out.mono ?_
  rintro e w1 ⟨ao', c', rfl, hs', hw⟩
  have hw2 := hw.symm
  subst hw2
  clear hw
  go_wp2
  go_loopw [19] (fun i wr => ∃ (k : Nat) (Z : List Int), i = .int .i64 k ∧ k ≤ L ∧ Hid (Z.length = N) ∧ Hid (RowG .u64 18446744073709551616 48 wr w.heap.size Z) ∧ Hid (val 18446744073709551616 Z = val 256 (ys.reverse.take k)) ∧ Below w.heap.size w wr) (fun i _ => L - (intOf i).toNat)
  case atStart => exact ⟨0, _, rfl, Nat.zero_le _, by unfold Hid; simp, R0, by unfold Hid; rw [val_rep]; rfl, B0⟩
  case round =>
    clear R0 B0
    obtain ⟨k, Z, rfl, hk, HZ, HR, HVZ, hB⟩ := hrel
    by_cases hkL : k < L
    · have hkI : (k : Int) < (L : Int) := by omega
      obtain ⟨q, hqe⟩ : ∃ q, k / 8 = q := ⟨_, rfl⟩
      obtain ⟨t, hte⟩ : ∃ t, k % 8 = t := ⟨_, rfl⟩
      obtain ⟨p, hpe⟩ : ∃ p, L - 1 - k = p := ⟨_, rfl⟩
      have td : Int.tdiv (k : Int) 8 = (q : Int) := by rw [Int.tdiv_eq_ediv_of_nonneg (by omega)]; omega
      have tm : Int.tmod (k : Int) 8 = (t : Int) := by rw [Int.tmod_eq_emod_of_nonneg (by omega)]; omega
      have hpI : (L : Int) - 1 - (k : Int) = (p : Int) := by omega
      have hpL : (p : Int) < (L : Int) := by omega
      have hqN : q < N := by have := HN.out; omega
      have hqI : (q : Int) < (N : Int) := by omega
      have hr := rev_getD ys k (by rw [HLY.out]; exact hkL)
      rw [HLY.out, hpe] at hr
      have hd := DY.out.at (by decide : (0 : Int) < 256) p
      have hz := HR.out.2.at (by decide : (0 : Int) < 18446744073709551616) q
      obtain ⟨b, o, hae, e1⟩ := (hs'.below hB).at p (by omega)
      have e2 := HR.out.cell q (by rw [HZ.out]; exact hqN)
      have e3 := HR.out.frozen q
      have hzt : Z.getD q 0 < pw 256 t := by
        have g1 := limb_le HR.out.2 q
        rw [HVZ.out] at g1
        have g2 := val_lt (b := 256) (by decide) (DR.out.take k)
        have g3 := pw_mono (b := 256) (by decide) (ys.reverse.take k).length k (by rw [List.length_take]; omega)
        rw [show k = 8 * q + t by omega, pw_add, pw_8, Int.mul_comm] at g3
        have g4 := pw_pos (b := 18446744073709551616) (by decide) q
        rw [show 8 * q + t = k by omega] at g3
        exact Int.lt_of_mul_lt_mul_right (show Z.getD q 0 * pw 18446744073709551616 q < pw 256 t * pw 18446744073709551616 q by omega) (by omega)
      obtain ⟨z, hzz⟩ : ∃ z, Z.getD q 0 = z := ⟨_, rfl⟩
      obtain ⟨d, hdd⟩ : ∃ d, ys.getD p 0 = d := ⟨_, rfl⟩
      rw [hzz] at e2 hz hzt
      rw [hdd] at e1 hd hr
      obtain ⟨T, hT⟩ : ∃ T : Int, 8 * (t : Int) = T := ⟨_, rfl⟩
      obtain ⟨o1, o2, o3⟩ := or_byte z d t T hT.symm (by omega) hz.1 hzt hd.1 hd.2
      have t0 : 0 ≤ T := by omega
      have t1 : T ≤ 63 := by omega
      have tb : (t : Int) ≤ 7 := by omega
      have kb : (k : Int) ≤ 512 := by omega
      have qb : (q : Int) ≤ 64 := by omega
      have pb : (p : Int) ≤ 512 := by omega
      have hu0 : 0 ≤ z + d * pw 256 t := by have := Int.mul_nonneg hd.1 (show 0 ≤ pw 256 t by have := pw_pos (b := 256) (by decide) t; omega); omega
      obtain ⟨u, hu⟩ : ∃ u, z + d * pw 256 t = u := ⟨_, rfl⟩
      obtain ⟨f, hf⟩ : ∃ f, d * pw 256 t = f := ⟨_, rfl⟩
      have HV' : Hid (val 18446744073709551616 (Z.set q u) = val 256 (ys.reverse.take (k + 1))) := by
        unfold Hid
        rw [val_set _ _ _ _ (by rw [HZ.out]; exact hqN), val_take_succ, hr, HVZ.out, hzz, ← hu, show pw 256 k = pw 18446744073709551616 q * pw 256 t by rw [← pw_8, ← pw_add, show 8 * q + t = k by omega]]
        have e9 : (z + d * pw 256 t - z) * pw 18446744073709551616 q = d * (pw 18446744073709551616 q * pw 256 t) := by rw [show z + d * pw 256 t - z = d * pw 256 t by omega, Int.mul_assoc, Int.mul_comm (pw 256 t)]
        rw [e9]
      rw [hu] at o2 o3 hu0
      rw [hf] at o1 o2
      have wd : IntKind.u64.wrap d = d := by rw [IntKind.wrap_u64]; omega
      have HR' : Hid (RowG .u64 18446744073709551616 48 (wr.setCell ⟨w.heap.size, q, none⟩ (.int .u64 u)) w.heap.size (Z.set q u)) := HR.out.set q u ⟨hu0, o3⟩
      have hB' : Below w.heap.size w (wr.setCell ⟨w.heap.size, q, none⟩ (.int .u64 u)) := hB.grown (gSet _ _ _ _) hB.size (by intro k hk; cases hk; exact Nat.le_refl _)
      clear hqe hte hpe hr hzz hdd hzt hu hf
      subst hae
      go_wp2_with fail
      go_region
      go_wp2
      go_roundw
      case rel => exact ⟨k + 1, Z.set q u, by go_num, by omega, by unfold Hid; rw [List.length_set]; exact HZ.out, HR'.out.heap rfl, HV', ⟨hB'.os, hB'.tape, hB'.output, hB'.size, hB'.block⟩⟩
      case measure => simp [intOf] <;> omega
    · obtain rfl : k = L := by omega
      have hv := HVZ.out
      rw [List.take_of_length_le (by rw [List.length_reverse, HLY.out]; exact Nat.le_refl _)] at hv
      have HT : Hid (Tr Z) := by
        refine tr_low_of HR.out.2 ?_
        intro hne
        have hZ0 : Z.length ≠ 0 := by intro h; exact hne (List.eq_nil_of_length_eq_zero h)
        have hN := HN.out
        rw [HZ.out] at hZ0 ⊢
        have hyn : ys ≠ [] := by intro h; have := HLY.out; rw [h] at this; simp at this; omega
        have hrt : Tr ys.reverse := by
          intro _
          rw [List.length_reverse, rev_getD ys _ (by rw [HLY.out]; omega), show ys.length - 1 - (ys.length - 1) = 0 by omega]
          rcases HH.out with h | h
          · exact absurd h hyn
          · exact h
        have g1 := tr_low (b := 256) (by decide) DR.out hrt (by simpa using hyn)
        rw [List.length_reverse, HLY.out] at g1
        have g2 := pw_mono (b := 256) (by decide) (8 * (N - 1)) (k - 1) (by omega)
        rw [pw_8] at g2
        rw [hv]
        omega
      have HVE : Hid (val 18446744073709551616 Z = val 256 xs.reverse) := by unfold Hid; rw [hv, HV.out]
      clear hv
      go_wp2
      go_ret2
      refine ⟨_, Z, rfl, ⟨w.heap.size, [], by rw [HZ.out]; rfl, Nat.le_refl _, by rw [List.append_nil]; exact HR.out, by rw [HZ.out]; omega⟩, HT.out, HVE.out, hB⟩

end Go.Proofs.YtekhobmjjoegpaaDoor
