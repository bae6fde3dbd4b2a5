/-
  The document's Limbs: a number's limbs.
-/
import Derived.Test.YtobdpcmafjhnlaaNRefOf
namespace Go.Proofs.Ytobdpcmafjhnlaa
open Go.RowKit Go.IntWalk

theorem val_at (b : Int) (xs : List Int) (m t : Nat) : val b ((xs.drop m).take (t + 1)) = xs.getD m 0 + b * val b ((xs.drop (m + 1)).take t) := by
  rcases Nat.lt_or_ge m xs.length with h | h
  · rw [List.drop_eq_getElem_cons h, List.take_succ_cons, val]
    simp [List.getD, h]
  · rw [List.drop_eq_nil_of_le h, List.drop_eq_nil_of_le (by omega)]
    simp [val, List.getD, h]

theorem val_four (xs : List Int) (j : Nat) (h : 4 * j ≤ xs.length) : val 65536 (xs.take (4 * (j + 1))) = val 65536 (xs.take (4 * j)) + pw 18446744073709551616 j * val 65536 ((xs.drop (4 * j)).take 4) := by
  rw [show 4 * (j + 1) = 4 * j + 4 by omega, List.take_add, val_append, List.length_take, Nat.min_eq_left h, pw_four]

theorem tr_of_low {b : Int} (hb : 0 < b) {zs : List Int} (hz : Dg b zs) (h : zs ≠ [] → pw b (zs.length - 1) ≤ val b zs) : Tr zs := by
  intro hne h0
  have h1 := val_last b zs hne
  rw [h0, Int.zero_mul, Int.add_zero] at h1
  have h2 := val_lt hb (hz.take (zs.length - 1))
  rw [List.length_take, Nat.min_eq_left (by omega)] at h2
  have := h hne
  omega

theorem limbs_tr {xs zs : List Int} (hx : Dg 65536 xs) (tx : Tr xs) (hz : Dg 18446744073709551616 zs) (hv : val 18446744073709551616 zs = val 65536 xs) (hl : zs.length = 0 ∨ 4 * (zs.length - 1) < xs.length) : Tr zs := by
  refine tr_of_low (by decide) hz ?_
  intro hne
  have h0 : zs.length ≠ 0 := by intro h; exact hne (List.eq_nil_of_length_eq_zero h)
  have hxn : xs ≠ [] := by intro h; rw [h] at hl; simp at hl; exact hne hl
  have h1 := tr_low (b := 65536) (by decide) hx tx hxn
  have h2 := pw_mono (b := 65536) (by decide) (4 * (zs.length - 1)) (xs.length - 1) (by omega)
  rw [pw_four] at h2
  omega

set_option maxRecDepth 100000 in
set_option maxHeartbeats 4000000 in
theorem limbs_any (ao : Option Addr) (n cap : Nat) (xs : List Int) (w : World) (hs : SrcG .i64 65536 w ao n cap xs) (ht : Tr xs) (hn : n ≤ 100000) :
    Calls Try.prog 38 #[.slice ao n cap] w fun e w' => ∃ ao' c' zs, e = .returned (.slice ao' zs.length c') ∧ SrcG .u64 18446744073709551616 w' ao' zs.length c' zs ∧ Tr zs ∧ val 18446744073709551616 zs = val 65536 xs ∧ (∀ b o, ao' = some ⟨b, o, none⟩ → w.heap.size ≤ b) ∧ Below w.heap.size w w' := by
  have HL := hide hs.hlen
  have HD := hide hs.hdg
  have HT := hide ht
  have HN := hide hn
  have hnI : (n : Int) ≤ 9223372036854770000 := by omega
  clear ht hn
  go_enter Try.func38, Try.ntmps38
  go_wp2
  go_loopw [3, 4] (fun v i wr => ∃ (j : Nat) (O : List Int), i = .int .i64 (4 * (j : Int)) ∧ Hid (j = 0 ∨ 4 * (j - 1) < n) ∧ Hid (OwnG .u64 52 wr w.heap.size v O) ∧ Hid (Dg 18446744073709551616 O) ∧ Hid (O.length = j) ∧ Hid (val 18446744073709551616 O = val 65536 (xs.take (4 * j))) ∧ Below w.heap.size w wr) (fun _ i _ => n + 3 - (intOf i).toNat)
  case atStart => exact ⟨0, [], rfl, .inl rfl, OwnG.nil _ _, by intro x hx; simp at hx, rfl, by unfold Hid; simp [val], Below.refl _ _⟩
  case round =>
    obtain ⟨j, O, rfl, HJ, HO, HDO, HLO, HVO, hB⟩ := hrel
    by_cases hj : 4 * j < n
    · have hjI : 4 * (j : Int) < (n : Int) := by omega
      go_wp2
      go_loop [5, 6] (fun x i => ∃ (t : Nat) (X : Int), t ≤ 4 ∧ i = .int .i64 (3 - (t : Int)) ∧ x = .int .u64 X ∧ Hid (X = val 65536 ((xs.drop (4 * j + (4 - t))).take t))) (fun _ i => ((intOf i) + 1).toNat)
      case atStart => exact ⟨0, 0, by omega, by go_num, rfl, by unfold Hid; simp [val]⟩
      case round =>
        obtain ⟨t, X, ht4, rfl, rfl, HX⟩ := hrel
        have hX0 : 0 ≤ X := by rw [HX.out]; exact val_nonneg (by decide) ((HD.out.drop _).take _)
        have hXp : X < pw 65536 t := by
          rw [HX.out]
          have h1 := val_lt (b := 65536) (by decide) ((HD.out.drop (4 * j + (4 - t))).take t)
          have h2 := pw_mono (b := 65536) (by decide) ((xs.drop (4 * j + (4 - t))).take t).length t (by rw [List.length_take]; omega)
          omega
        by_cases h4 : t < 4
        · have hX1 : X < 281474976710656 := by
            have := pw_mono (b := 65536) (by decide) t 3 (by omega)
            rw [show pw 65536 3 = 281474976710656 by decide] at this
            omega
          have hk0 : 0 ≤ 3 - (t : Int) := by omega
          obtain ⟨m, hm⟩ : ∃ m, 4 * j + (4 - (t + 1)) = m := ⟨_, rfl⟩
          have hv := val_at 65536 xs m t
          rw [show m + 1 = 4 * j + (4 - t) by omega, ← HX.out] at hv
          have hmI : 4 * (j : Int) + (3 - (t : Int)) = (m : Int) := by omega
          have hd0 := HD.out.at (by decide : (0 : Int) < 65536) m
          have wm : IntKind.u64.wrap (X * 65536) = X * 65536 := by rw [IntKind.wrap_u64]; omega
          by_cases hmn : m < n
          · have hmJ : (m : Int) < (n : Int) := by omega
            obtain ⟨b, o, rfl, e1⟩ := (hs.below hB).at m hmn
            obtain ⟨d, hd⟩ : ∃ d, xs.getD m 0 = d := ⟨_, rfl⟩
            rw [hd] at e1 hd0 hv
            have HV : Hid (X * 65536 + d = val 65536 ((xs.drop (4 * j + (4 - (t + 1)))).take (t + 1))) := by unfold Hid; rw [hm, hv]; omega
            have wd : IntKind.u64.wrap d = d := by rw [IntKind.wrap_u64]; omega
            have ws : IntKind.u64.wrap (X * 65536 + d) = X * 65536 + d := by rw [IntKind.wrap_u64]; omega
            clear hv hm hd hXp HX
            go_wp2
            go_round
            case rel => exact ⟨t + 1, X * 65536 + d, by omega, by go_num, rfl, HV⟩
            case measure => simp [intOf] <;> omega
          · have hmJ : ¬ (m : Int) < (n : Int) := by omega
            have hd : xs.getD m 0 = 0 := by rw [List.getD, List.getElem?_eq_none (by rw [HL.out]; omega)]; rfl
            rw [hd] at hv
            have HV : Hid (X * 65536 = val 65536 ((xs.drop (4 * j + (4 - (t + 1)))).take (t + 1))) := by unfold Hid; rw [hm, hv]; omega
            clear hv hm hd hXp HX hd0
            go_wp2
            go_round
            case rel => exact ⟨t + 1, X * 65536, by omega, by go_num, rfl, HV⟩
            case measure => simp [intOf] <;> omega
        · obtain rfl : t = 4 := by omega
          have hk0 : ¬ 0 ≤ 3 - ((4 : Nat) : Int) := by omega
          have hXB : X < 18446744073709551616 := by rw [show pw 65536 4 = 18446744073709551616 by decide] at hXp; exact hXp
          have HV : Hid (val 18446744073709551616 (O ++ [X]) = val 65536 (xs.take (4 * (j + 1)))) := by
            unfold Hid
            rw [val_append, HLO.out, val_four xs j (by rw [HL.out]; omega), HVO.out, show val 18446744073709551616 [X] = X by simp [val], HX.out]
            rfl
          have hj100 : j ≤ 100000 := by have := HN.out; omega
          clear hXp
          go_wp2_with (at_builtin; refine appG 22 8 Try.underlying22 Try.infoU _ rfl (.tmp 34) (.tmp 36) rfl w.heap.size _ O rfl (HO.out.alloc _) (some ⟨wr.heap.size, 0, none⟩) 1 1 [X] rfl (SrcG.litAt (B := 18446744073709551616) [X] _ 1 _ rfl rfl (by intro x hx; simp at hx; omega) (by decide) rfl) (j + 1) (by rw [List.length_append, HLO.out]; rfl) (.inr (by simp)) (by omega) (by omega) (by have := hB.size; simp; omega) ?_; intro g1 c1 w2 ho1 hb1 hl1 hc1 hm1 hg1 hk1)
          have hB2 : Below w.heap.size w w2 := (hB.alloc hB.size _).grown hg1 (by have := hB.size; simp; omega) (by intro k hk; exact (HO.out.lt k hk).1)
          go_roundw
          case rel => exact ⟨j + 1, O ++ [X], by go_num, by unfold Hid; omega, ho1, HDO.out.append (by intro x hx; simp at hx; omega), by unfold Hid; rw [List.length_append, HLO.out]; rfl, HV, hB2⟩
          case measure => simp [intOf] <;> omega
    · have hjI : ¬ 4 * (j : Int) < (n : Int) := by omega
      obtain ⟨aO, cO, hsh⟩ := HO.out.shape
      have hsrc := (hsh ▸ HO.out : OwnG .u64 52 wr w.heap.size (.slice aO O.length cO) O).toSrc HDO.out
      have HSRC := hide hsrc
      have HSH := hide hsh
      have hv := HVO.out
      rw [List.take_of_length_le (by rw [HL.out]; omega)] at hv
      have HV := hide hv
      have HTR := hide (limbs_tr HD.out HT.out HDO.out hv (by rw [HLO.out, HL.out]; exact HJ.out))
      clear hsrc hsh hv
      go_wp2
      go_ret
      exact ⟨aO, cO, O, by rw [← HSH.out]; rfl, HSRC.out, HTR.out, HV.out, fun b o hb => (HO.out.lt b (by rw [HSH.out, hb]; rfl)).1, hB⟩

end Go.Proofs.Ytobdpcmafjhnlaa
