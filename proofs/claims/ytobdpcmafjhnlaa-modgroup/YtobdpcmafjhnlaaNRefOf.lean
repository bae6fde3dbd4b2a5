/-
  The document's Of: limbs as digits to the base 65536, or that they are too many.
-/
import Derived.Test.YtobdpcmafjhnlaaNRefA
namespace Go.Proofs.Ytobdpcmafjhnlaa
open Go.RowKit Go.IntWalk

theorem pw_four (i : Nat) : pw 65536 (4 * i) = pw 18446744073709551616 i := by
  induction i with
  | zero => rfl
  | succ i ih =>
    rw [show 4 * (i + 1) = 4 * i + 4 by omega, pw_add, ih, show pw 65536 4 = 18446744073709551616 by decide]
    rw [show pw 18446744073709551616 (i + 1) = 18446744073709551616 * pw 18446744073709551616 i from rfl, Int.mul_comm]

theorem digit_step (O P X d q T : Int) (hX : X = 65536 * q + d) (h : O + P * X = T) : O + P * d + 65536 * P * q = T := by
  rw [← h, hX]; grind

theorem OwnG.shape {κ : IntKind} {T : TypeId} {w : World} {base : Nat} {v : Value} {xs : List Int} (h : OwnG κ T w base v xs) : ∃ ao c, v = .slice ao xs.length c := by
  rcases h.split with ⟨rfl, rfl⟩ | ⟨g, c, rfl, _⟩
  · exact ⟨none, 0, rfl⟩
  · exact ⟨_, c, rfl⟩

/-- A number of the document's, in memory at or above a base. -/
def NumDB (w : World) (base : Nat) (v : Value) (x : Int) (L : Nat) : Prop := ∃ ao n c xs, v = .slice ao n c ∧ SrcG .i64 65536 w ao n c xs ∧ Tr xs ∧ n ≤ L ∧ val 65536 xs = x ∧ ∀ b o, ao = some ⟨b, o, none⟩ → base ≤ b

theorem NumDB.num {w : World} {base : Nat} {v : Value} {x : Int} {L : Nat} (h : NumDB w base v x L) : NumD w v x L := by
  obtain ⟨ao, n, c, xs, he, hs, ht, hl, hv, _⟩ := h
  exact ⟨ao, n, c, xs, he, hs, ht, hl, hv⟩

theorem NumDB.kept {w w' : World} {base r : Nat} {v : Value} {x : Int} {L : Nat} (h : NumDB w base v x L) (hg : w.grownBy w' (some r)) (hr : r < base) : NumDB w' base v x L := by
  obtain ⟨ao, n, c, xs, he, hs, ht, hl, hv, hk⟩ := h
  exact ⟨ao, n, c, xs, he, hs.grown hg (by intro b o hb _ h; have := hk b o hb; simp at h; omega), ht, hl, hv, hk⟩

theorem NumDB.below {w w' : World} {base : Nat} {v : Value} {x : Int} {L : Nat} (h : NumDB w base v x L) (hb : Below w.heap.size w w') : NumDB w' base v x L := by
  obtain ⟨ao, n, c, xs, he, hs, hl⟩ := h
  exact ⟨ao, n, c, xs, he, hs.below hb, hl⟩

set_option maxRecDepth 100000 in
set_option maxHeartbeats 1000000 in
theorem of_long (ao : Option Addr) (n cap : Nat) (xs : List Int) (w : World) (hs : SrcG .u64 18446744073709551616 w ao n cap xs) (hK : 64 < (trm xs).length) :
    Calls Try.prog 10 #[.slice ao n cap] w fun e w' => e = .returned (.tuple #[.slice none 0 0, .int .i64 3]) ∧ w' = w := by
  have HL := hide hs.hlen
  have HD := hide hs.hdg
  have hcap := hs.hcap
  have hm := hs.lenI
  obtain ⟨hm1, hm2⟩ := hm
  have HK := hide hK
  clear hK
  go_enter Try.func10, Try.ntmps10
  go_wp2
  go_loop [4] (fun v => ∃ k : Nat, k ≤ n ∧ v = .int .i64 k ∧ val 18446744073709551616 (xs.take k) = val 18446744073709551616 xs) (fun v => (intOf v).toNat)
  case atStart => exact ⟨n, Nat.le_refl _, rfl, by rw [List.take_of_length_le (by rw [HL.out]; exact Nat.le_refl _)]⟩
  case round =>
    obtain ⟨k, hk, rfl, hv⟩ := hrel
    have HV := hide hv
    clear hv
    rcases Nat.eq_zero_or_pos k with hk0 | hk0
    · have he := hide (trm_stop (by decide) HD.out k HV.out (by omega) (.inl hk0))
      have hkz : ¬ (0 : Int) < (k : Int) := by omega
      have hK2 := HK.out
      rw [← he.out, List.length_take, HL.out, Nat.min_eq_left hk] at hK2
      have HK0 := hide hk0
      clear hk0
      exact absurd hK2 (by have := HK0.out; omega)
    · obtain ⟨j, hjk⟩ : ∃ j, k = j + 1 := ⟨k - 1, by omega⟩
      obtain ⟨b, o, rfl, e1⟩ := hs.at j (by omega)
      have hvs := hide (val_take_succ 18446744073709551616 xs j)
      obtain ⟨x, hx⟩ : ∃ x, xs.getD j 0 = x := ⟨_, rfl⟩
      have HX := hide hx
      rw [hx] at e1 hvs
      clear hx
      have hj1 : (k : Int) - 1 = (j : Int) := by omega
      have hj2 : (0 : Int) < (k : Int) := by omega
      have hjn : (j : Int) < (n : Int) := by omega
      have HJK := hide hjk
      clear hjk
      by_cases hx0 : x = 0
      · subst hx0
        go_wp2
        go_round
        case rel => exact ⟨j, by omega, by go_num, by rw [← HV.out, HJK.out, hvs.out]; omega⟩
        case measure => simp [intOf] <;> omega
      · have he := hide (trm_stop (by decide) HD.out k HV.out (by rw [HL.out]; omega) (.inr (by rw [HJK.out, Nat.add_sub_cancel, HX.out]; exact hx0)))
        have hK2 := HK.out
        rw [← he.out, List.length_take, HL.out, Nat.min_eq_left hk] at hK2
        have hkI : (64 : Int) < (k : Int) := by omega
        go_wp2
        go_ret2
        exact ⟨rfl, rfl⟩

set_option maxRecDepth 100000 in
set_option maxHeartbeats 4000000 in
theorem of_at (ao : Option Addr) (n cap : Nat) (xs : List Int) (w : World) (hs : SrcG .u64 18446744073709551616 w ao n cap xs) (hK : (trm xs).length ≤ 64) :
    Calls Try.prog 10 #[.slice ao n cap] w fun e w' => ∃ v, e = .returned (.tuple #[v, .int .i64 0]) ∧ NumDB w' w.heap.size v (val 18446744073709551616 xs) 256 ∧ Below w.heap.size w w' := by
  have HL := hide hs.hlen
  have HD := hide hs.hdg
  have hcap := hs.hcap
  have hm := hs.lenI
  obtain ⟨hm1, hm2⟩ := hm
  have HK := hide hK
  clear hK
  go_enter Try.func10, Try.ntmps10
  go_wp2
  go_loop [4] (fun v => ∃ k : Nat, k ≤ n ∧ v = .int .i64 k ∧ val 18446744073709551616 (xs.take k) = val 18446744073709551616 xs) (fun v => (intOf v).toNat)
  case atStart => exact ⟨n, Nat.le_refl _, rfl, by rw [List.take_of_length_le (by rw [HL.out]; exact Nat.le_refl _)]⟩
  case round =>
    obtain ⟨k, hk, rfl, hv⟩ := hrel
    have HV := hide hv
    clear hv
    rcases Nat.eq_zero_or_pos k with hk0 | hk0
    · have he := hide (trm_stop (by decide) HD.out k HV.out (by omega) (.inl hk0))
      have hkz : ¬ (0 : Int) < (k : Int) := by omega
      have hK2 := HK.out
      rw [← he.out, List.length_take, HL.out, Nat.min_eq_left hk] at hK2
      have HK0 := hide hk0
      clear hk0
      have hkI : ¬ (64 : Int) < (k : Int) := by omega
      go_wp2
      go_loopw [5, 6] (fun v i wr => ∃ (j : Nat) (O : List Int), i = .int .i64 j ∧ j ≤ k ∧ Hid (OwnG .i64 3 wr w.heap.size v O) ∧ Hid (Dg 65536 O) ∧ Hid (O.length = 4 * j) ∧ Hid (val 65536 O = val 18446744073709551616 (xs.take j)) ∧ Below w.heap.size w wr) (fun _ i _ => k - (intOf i).toNat)
      case atStart => exact ⟨0, [], rfl, Nat.zero_le _, OwnG.nil _ _, by intro x hx; simp at hx, rfl, by unfold Hid; simp [val], Below.refl _ _⟩
      case round =>
        obtain ⟨j, O, rfl, hjk, HO, HDO, HLO, HVO, hB⟩ := hrel
        obtain rfl : j = k := by omega
        obtain ⟨aO, cO, hsh⟩ := HO.out.shape
        have hsrc := (hsh ▸ HO.out : OwnG .i64 3 wr w.heap.size (.slice aO O.length cO) O).toSrc HDO.out
        rw [HLO.out] at hsh hsrc
        subst hsh
        have HSRC := hide hsrc
        clear hsrc HO
        go_wp2_with fail
        refine (bare_at _ _ _ O _ HSRC.out (by omega)).mono ?_
        rintro e w3 ⟨g, c', rfl, hs3, hB3, hg3⟩
        go_wp2
        go_ret2
        refine ⟨_, rfl, ⟨_, _, _, trm O, rfl, hs3, trm_tr _, by have := trm_len O; rw [HLO.out] at this; omega, ?_, by intro b' o' hb'; cases hb'; have := hB.size; omega⟩, hB.trans (hB3.mono hB.size)⟩
        rw [trm_val, HVO.out, he.out, trm_val]
    · obtain ⟨j, hjk⟩ : ∃ j, k = j + 1 := ⟨k - 1, by omega⟩
      obtain ⟨b, o, rfl, e1⟩ := hs.at j (by omega)
      have hvs := hide (val_take_succ 18446744073709551616 xs j)
      obtain ⟨x, hx⟩ : ∃ x, xs.getD j 0 = x := ⟨_, rfl⟩
      have HX := hide hx
      rw [hx] at e1 hvs
      clear hx
      have hj1 : (k : Int) - 1 = (j : Int) := by omega
      have hj2 : (0 : Int) < (k : Int) := by omega
      have hjn : (j : Int) < (n : Int) := by omega
      have HJK := hide hjk
      clear hjk
      by_cases hx0 : x = 0
      · subst hx0
        go_wp2
        go_round
        case rel => exact ⟨j, by omega, by go_num, by rw [← HV.out, HJK.out, hvs.out]; omega⟩
        case measure => simp [intOf] <;> omega
      · have he := hide (trm_stop (by decide) HD.out k HV.out (by rw [HL.out]; omega) (.inr (by rw [HJK.out, Nat.add_sub_cancel, HX.out]; exact hx0)))
        have hK2 := HK.out
        rw [← he.out, List.length_take, HL.out, Nat.min_eq_left hk] at hK2
        have hkI : ¬ (64 : Int) < (k : Int) := by omega
        go_wp2
        go_loopw [5, 6] (fun v i wr => ∃ (j : Nat) (O : List Int), i = .int .i64 j ∧ j ≤ k ∧ Hid (OwnG .i64 3 wr w.heap.size v O) ∧ Hid (Dg 65536 O) ∧ Hid (O.length = 4 * j) ∧ Hid (val 65536 O = val 18446744073709551616 (xs.take j)) ∧ Below w.heap.size w wr) (fun _ i _ => k - (intOf i).toNat)
        case atStart => exact ⟨0, [], rfl, Nat.zero_le _, OwnG.nil _ _, by intro x hx; simp at hx, rfl, by unfold Hid; simp [val], Below.refl _ _⟩
        case round =>
          obtain ⟨j, O, rfl, hjk, HO, HDO, HLO, HVO, hB⟩ := hrel
          by_cases hj : j < k
          · have hjI : (j : Int) < (k : Int) := by omega
            have hjn : (j : Int) < (n : Int) := by omega
            obtain ⟨b', o', hae, e2⟩ := (hs.below hB).at j (by omega)
            have hl0 := HD.out.at (by decide : (0 : Int) < 18446744073709551616) j
            obtain ⟨l, hl⟩ : ∃ l, xs.getD j 0 = l := ⟨_, rfl⟩
            have HXL := hide hl
            rw [hl] at e2 hl0
            clear hl
            cases hae
            go_wp2
            go_loopw [5, 7, 8] (fun v x i wr => ∃ (t : Nat) (X : Int) (O : List Int), i = .int .i64 t ∧ t ≤ 4 ∧ x = .int .u64 X ∧ 0 ≤ X ∧ X < 18446744073709551616 ∧ Hid (X < pw 65536 (4 - t)) ∧ Hid (OwnG .i64 3 wr w.heap.size v O) ∧ Hid (Dg 65536 O) ∧ Hid (O.length = 4 * j + t) ∧ Hid (val 65536 O + pw 65536 (4 * j + t) * X = val 18446744073709551616 (xs.take j) + pw 65536 (4 * j) * l) ∧ Below w.heap.size w wr) (fun _ _ i _ => 4 - (intOf i).toNat)
            case atStart => exact ⟨0, l, O, rfl, by omega, rfl, hl0.1, hl0.2, by unfold Hid; rw [show pw 65536 (4 - 0) = 18446744073709551616 by decide]; exact hl0.2, HO, HDO, HLO, by unfold Hid; rw [HVO.out, Nat.add_zero], hB⟩
            case round =>
              clear HO HDO HLO HVO hB
              obtain ⟨t, X, O, rfl, ht, rfl, hX0, hX1, HXB, HO, HDO, HLO, HVO, hB⟩ := hrel
              by_cases ht4 : t < 4
              · have htI : (t : Int) < 4 := by omega
                have d1 : Int.tmod X 65536 = X % 65536 := Int.tmod_eq_emod_of_nonneg hX0
                have d2 : Int.tdiv X 65536 = X / 65536 := Int.tdiv_eq_ediv_of_nonneg hX0
                have dg : 0 ≤ X % 65536 ∧ X % 65536 < 65536 := by omega
                have hX2 : X = 65536 * (X / 65536) + X % 65536 := by omega
                have hq0 : 0 ≤ X / 65536 ∧ X / 65536 < 18446744073709551616 := by omega
                have HV' := hide (digit_step _ _ _ _ _ _ hX2 HVO.out)
                have HB' : Hid (X / 65536 < pw 65536 (4 - (t + 1))) := by
                  unfold Hid
                  have := HXB.out
                  rw [show 4 - t = (4 - (t + 1)) + 1 by omega, show pw 65536 (4 - (t + 1) + 1) = 65536 * pw 65536 (4 - (t + 1)) from rfl, Int.mul_comm] at this
                  exact Int.ediv_lt_of_lt_mul (by decide) this
                clear hX2
                obtain ⟨d, hd⟩ : ∃ d, X % 65536 = d := ⟨_, rfl⟩
                obtain ⟨q, hq⟩ : ∃ q, X / 65536 = q := ⟨_, rfl⟩
                rw [hd] at d1 dg HV'
                rw [hq] at d2 HV' HB' hq0
                clear hd hq
                have wa : IntKind.u64.wrap d = d := by rw [IntKind.wrap_u64]; omega
                have wb : IntKind.i64.wrap d = d := i64_in _ (by omega)
                have wc : IntKind.u64.wrap q = q := by rw [IntKind.wrap_u64]; omega
                go_wp2_with (at_builtin; refine appG 26 8 Try.underlying26 Try.infoI _ rfl (.tmp 38) (.tmp 42) rfl w.heap.size _ O rfl (HO.out.alloc _) (some ⟨wr.heap.size, 0, none⟩) 1 1 [d] rfl (SrcG.litAt (B := 65536) [d] _ 1 _ rfl rfl (by intro x hx; simp at hx; omega) (by decide) rfl) (4 * j + t + 1) (by rw [List.length_append, HLO.out]; rfl) (.inr (by simp)) (by omega) (by omega) (by have := hB.size; simp; omega) ?_; intro g1 c1 w2 ho1 hb1 hl1 hc1 hm1 hg1 hk1)
                have hB2 : Below w.heap.size w w2 := (hB.alloc hB.size _).grown hg1 (by have := hB.size; simp; omega) (by intro k hk; exact (HO.out.lt k hk).1)
                go_roundw
                case rel => exact ⟨t + 1, q, O ++ [d], by go_num, by omega, rfl, hq0.1, hq0.2, HB', ho1, HDO.out.append (by intro x hx; simp at hx; omega), by unfold Hid; rw [List.length_append, HLO.out]; rfl, by unfold Hid; rw [val_append, HLO.out, show pw 65536 (4 * j + (t + 1)) = 65536 * pw 65536 (4 * j + t) from rfl, show val 65536 [d] = d by simp [val]]; exact HV'.out, hB2⟩
                case measure => simp [intOf] <;> omega
              · obtain rfl : t = 4 := by omega
                have hX9 : X = 0 := by have := HXB.out; rw [show pw 65536 (4 - 4) = 1 from rfl] at this; omega
                subst hX9
                have HVN : Hid (val 65536 O = val 18446744073709551616 (xs.take (j + 1))) := by
                  unfold Hid
                  rw [val_take_succ, HXL.out, ← pw_four]
                  have := HVO.out
                  rw [Int.mul_comm l]
                  omega
                go_wp2
                go_roundw
                case rel => exact ⟨j + 1, O, by go_num, by omega, HO, HDO, by unfold Hid; rw [HLO.out]; omega, HVN, hB⟩
                case measure => simp [intOf] <;> omega
          · obtain rfl : j = k := by omega
            obtain ⟨aO, cO, hsh⟩ := HO.out.shape
            have hsrc := (hsh ▸ HO.out : OwnG .i64 3 wr w.heap.size (.slice aO O.length cO) O).toSrc HDO.out
            rw [HLO.out] at hsh hsrc
            subst hsh
            have HSRC := hide hsrc
            clear hsrc HO
            go_wp2_with fail
            refine (bare_at _ _ _ O _ HSRC.out (by omega)).mono ?_
            rintro e w3 ⟨g, c', rfl, hs3, hB3, hg3⟩
            go_wp2
            go_ret2
            refine ⟨_, rfl, ⟨_, _, _, trm O, rfl, hs3, trm_tr _, by have := trm_len O; rw [HLO.out] at this; omega, ?_, by intro b' o' hb'; cases hb'; have := hB.size; omega⟩, hB.trans (hB3.mono hB.size)⟩
            rw [trm_val, HVO.out, he.out, trm_val]

theorem of_ok (ao : Option Addr) (n cap : Nat) (xs : List Int) (w : World) (hs : SrcG .u64 18446744073709551616 w ao n cap xs) (hK : (trm xs).length ≤ 64) :
    Calls Try.prog 10 #[.slice ao n cap] w fun e w' => ∃ v, e = .returned (.tuple #[v, .int .i64 0]) ∧ NumD w' v (val 18446744073709551616 xs) 256 ∧ Below w.heap.size w w' := by
  refine (of_at ao n cap xs w hs hK).mono ?_
  rintro e w1 ⟨v, rfl, N, hB⟩
  exact ⟨v, rfl, N.num, hB⟩

end Go.Proofs.Ytobdpcmafjhnlaa
