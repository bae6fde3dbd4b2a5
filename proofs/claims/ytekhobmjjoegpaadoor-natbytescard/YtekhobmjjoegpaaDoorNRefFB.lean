/-
  The document's FromBytes.
-/
import Derived.Test.YtekhobmjjoegpaaDoorNRefBy
namespace Go.Proofs.YtekhobmjjoegpaaDoor
open Go.RowKit Go.IntWalk

theorem pw_2 (i : Nat) : pw 256 (2 * i) = pw 65536 i := by
  induction i with
  | zero => rfl
  | succ i ih =>
    rw [show 2 * (i + 1) = 2 * i + 2 by omega, pw_add, ih, show pw 256 2 = 65536 by decide, show pw 65536 (i + 1) = 65536 * pw 65536 i from rfl, Int.mul_comm]

theorem lz_at : ∀ (xs : List Int), lz xs = xs ∨ xs.getD 0 0 = 0
  | [] => .inl rfl
  | x :: r => by
    rw [lz]
    split
    · right; simpa
    · left; rfl

theorem lz_drop (xs : List Int) (k : Nat) (hk : k < xs.length) (h : xs.getD k 0 = 0) : lz (xs.drop k) = lz (xs.drop (k + 1)) := by
  rw [List.drop_eq_getElem_cons hk, lz, if_pos (by simpa [List.getD, hk] using h)]

theorem lz_here (xs : List Int) (k : Nat) (h : k = xs.length ∨ (k < xs.length ∧ xs.getD k 0 ≠ 0)) : lz (xs.drop k) = xs.drop k := by
  rcases h with h | ⟨h1, h2⟩
  · rw [List.drop_eq_nil_of_le (by omega)]; rfl
  · rw [List.drop_eq_getElem_cons h1, lz, if_neg (by simpa [List.getD, h1] using h2)]

theorem val_two (R : List Int) (j : Nat) : val 256 (R.take (2 * (j + 1))) = val 256 (R.take (2 * j)) + pw 65536 j * (R.getD (2 * j) 0 + 256 * R.getD (2 * j + 1) 0) := by
  rw [show 2 * (j + 1) = 2 * j + 1 + 1 by omega, val_take_succ, val_take_succ, show pw 256 (2 * j + 1) = 256 * pw 256 (2 * j) from rfl, pw_2]
  grind

theorem revDrop (xs : List Int) (k m : Nat) (h : m < xs.length - k) : (xs.drop k).reverse.getD m 0 = xs.getD (xs.length - 1 - m) 0 := by
  rw [rev_getD _ _ (by rw [List.length_drop]; exact h), List.length_drop, List.getD, List.getD, List.getElem?_drop, show k + (xs.length - k - 1 - m) = xs.length - 1 - m by omega]

set_option maxRecDepth 100000 in
set_option maxHeartbeats 1000000 in
theorem fromBytes_long (ao : Option Addr) (n cap : Nat) (xs : List Int) (w : World) (hs : SrcG .u8 256 w ao n cap xs) (hK : 512 < (lz xs).length) :
    Calls Tryd.prog 5 #[.slice ao n cap] w fun e w' => e = .returned (.tuple #[.slice none 0 0, .int .i64 3]) ∧ w' = w := by
  have HL := hide hs.hlen
  have HD := hide hs.hdg
  have hm := hs.lenI
  obtain ⟨hm1, hm2⟩ := hm
  have HK := hide hK
  clear hK
  go_enter Tryd.func5, Tryd.ntmps5
  go_wp2
  go_loop [4] (fun v => ∃ k : Nat, k ≤ n ∧ v = .int .i64 k ∧ Hid (lz xs = lz (xs.drop k))) (fun v => n - (intOf v).toNat)
  case atStart => exact ⟨0, Nat.zero_le _, rfl, rfl⟩
  case round =>
    obtain ⟨k, hk, rfl, HV⟩ := hrel
    rcases Nat.lt_or_ge k n with hkn | hkn
    · obtain ⟨b, o, rfl, e1⟩ := hs.at k hkn
      have hkI : (k : Int) < (n : Int) := by omega
      obtain ⟨x, hx⟩ : ∃ x, xs.getD k 0 = x := ⟨_, rfl⟩
      have HX := hide hx
      rw [hx] at e1
      clear hx
      by_cases hx0 : x = 0
      · subst hx0
        have HV' : Hid (lz xs = lz (xs.drop (k + 1))) := by unfold Hid; rw [HV.out]; exact lz_drop xs k (by rw [HL.out]; exact hkn) HX.out
        go_wp2
        go_round
        case rel => exact ⟨k + 1, by omega, by go_num, HV'⟩
        case measure => simp [intOf] <;> omega
      · have he : Hid (lz xs = xs.drop k) := by unfold Hid; rw [HV.out]; exact lz_here xs k (.inr ⟨by rw [HL.out]; exact hkn, by rw [HX.out]; exact hx0⟩)
        have hK2 := HK.out
        rw [he.out, List.length_drop, HL.out] at hK2
        have hkL : (512 : Int) < (n : Int) - (k : Int) := by omega
        go_wp2
        go_ret2
        exact ⟨rfl, rfl⟩
    · obtain rfl : k = n := by omega
      have he : Hid (lz xs = xs.drop k) := by unfold Hid; rw [HV.out]; exact lz_here xs k (.inl (by rw [HL.out]))
      have hK2 := HK.out
      rw [he.out, List.length_drop, HL.out] at hK2
      clear hkn
      exact absurd hK2 (by omega)

set_option maxRecDepth 100000 in
set_option maxHeartbeats 4000000 in
theorem fromBytes_ok (ao : Option Addr) (n cap : Nat) (xs : List Int) (w : World) (hs : SrcG .u8 256 w ao n cap xs) (hK : (lz xs).length ≤ 512) :
    Calls Tryd.prog 5 #[.slice ao n cap] w fun e w' => ∃ v, e = .returned (.tuple #[v, .int .i64 0]) ∧ NumD w' v (val 256 xs.reverse) 256 ∧ Below w.heap.size w w' := by
  have HL := hide hs.hlen
  have HD := hide hs.hdg
  have hm := hs.lenI
  obtain ⟨hm1, hm2⟩ := hm
  have HK := hide hK
  clear hK
  go_enter Tryd.func5, Tryd.ntmps5
  go_wp2
  go_loop [4] (fun v => ∃ k : Nat, k ≤ n ∧ v = .int .i64 k ∧ Hid (lz xs = lz (xs.drop k))) (fun v => n - (intOf v).toNat)
  case atStart => exact ⟨0, Nat.zero_le _, rfl, rfl⟩
  case round =>
    obtain ⟨k, hk, rfl, HV⟩ := hrel
    rcases Nat.lt_or_ge k n with hkn | hkn
    · obtain ⟨b, o, rfl, e1⟩ := hs.at k hkn
      have hkI : (k : Int) < (n : Int) := by omega
      obtain ⟨x, hx⟩ : ∃ x, xs.getD k 0 = x := ⟨_, rfl⟩
      have HX := hide hx
      rw [hx] at e1
      clear hx
      by_cases hx0 : x = 0
      · subst hx0
        have HV' : Hid (lz xs = lz (xs.drop (k + 1))) := by unfold Hid; rw [HV.out]; exact lz_drop xs k (by rw [HL.out]; exact hkn) HX.out
        go_wp2
        go_round
        case rel => exact ⟨k + 1, by omega, by go_num, HV'⟩
        case measure => simp [intOf] <;> omega
      · have he : Hid (lz xs = xs.drop k) := by unfold Hid; rw [HV.out]; exact lz_here xs k (.inr ⟨by rw [HL.out]; exact hkn, by rw [HX.out]; exact hx0⟩)
        have hK2 := HK.out
        rw [he.out, List.length_drop, HL.out] at hK2
        have hkL : ¬ (512 : Int) < (n : Int) - (k : Int) := by omega
        go_wp2
        go_loopw [5, 6] (fun v i wr => ∃ (j : Nat) (O : List Int), i = .int .i64 ((n : Int) - 1 - 2 * (j : Int)) ∧ Hid (2 * j ≤ n - k + 1) ∧ Hid (OwnG .i64 3 wr w.heap.size v O) ∧ Hid (Dg 65536 O) ∧ Hid (O.length = j) ∧ Hid (val 65536 O = val 256 ((xs.drop k).reverse.take (2 * j))) ∧ Below w.heap.size w wr) (fun _ i _ => ((intOf i) + 2).toNat)
        case atStart => exact ⟨0, [], by go_num, by unfold Hid; omega, OwnG.nil _ _, by intro x hx; simp at hx, rfl, by unfold Hid; simp [val], Below.refl _ _⟩
        case round =>
          obtain ⟨j, O, rfl, HJ, HO, HDO, HLO, HVO, hB⟩ := hrel
          by_cases hgo : 2 * j < n - k
          · obtain ⟨p, hp⟩ : ∃ p, n - 1 - 2 * j = p := ⟨_, rfl⟩
            have hpI : (n : Int) - 1 - 2 * (j : Int) = (p : Int) := by omega
            rw [hpI]
            have hpk : (k : Int) ≤ (p : Int) := by omega
            have hpn : (p : Int) < (n : Int) := by omega
            have pb : (p : Int) ≤ 9223372036854775807 := by omega
            have hd0 := HD.out.at (by decide : (0 : Int) < 256) p
            obtain ⟨b', o', hae, e2⟩ := (hs.below hB).at p (by omega)
            cases hae
            have hv2 := val_two (xs.drop k).reverse j
            have hr0 := revDrop xs k (2 * j) (by rw [HL.out]; exact hgo)
            rw [HL.out, hp] at hr0
            rw [hr0] at hv2
            have HJ' : Hid (2 * (j + 1) ≤ n - k + 1) := by unfold Hid; omega
            have hj9 : j ≤ 1000 := by omega
            obtain ⟨d, hd⟩ : ∃ d, xs.getD p 0 = d := ⟨_, rfl⟩
            rw [hd] at e2 hd0 hv2
            by_cases h1 : 2 * j + 1 < n - k
            · obtain ⟨q, hq⟩ : ∃ q, p - 1 = q := ⟨_, rfl⟩
              have hqI : (p : Int) - 1 = (q : Int) := by omega
              have hqn : (q : Int) < (n : Int) := by omega
              have hkp : (k : Int) < (p : Int) := by omega
              have hf0 := HD.out.at (by decide : (0 : Int) < 256) q
              obtain ⟨b2, o2, hae2, e3⟩ := (hs.below hB).at q (by omega)
              cases hae2
              have hr1 := revDrop xs k (2 * j + 1) (by rw [HL.out]; exact h1)
              rw [HL.out, show n - 1 - (2 * j + 1) = q by omega] at hr1
              rw [hr1] at hv2
              obtain ⟨f, hf⟩ : ∃ f, xs.getD q 0 = f := ⟨_, rfl⟩
              rw [hf] at e3 hf0 hv2
              have wm : IntKind.i64.wrap (256 * f) = 256 * f := i64_in _ (by omega)
              have ws : IntKind.i64.wrap (d + 256 * f) = d + 256 * f := i64_in _ (by omega)
              have HV' : Hid (val 65536 (O ++ [d + 256 * f]) = val 256 ((xs.drop k).reverse.take (2 * (j + 1)))) := by unfold Hid; rw [hv2, val_append, HLO.out, HVO.out]; simp [val]
              have hx0 : 0 ≤ d + 256 * f ∧ d + 256 * f < 65536 := by omega
              clear hv2 hr0 hr1 hd hf hp hq hgo h1
              go_wp2_with (at_builtin; refine appG 29 8 Tryd.underlying29 Tryd.infoI _ rfl (.tmp 51) (.tmp 53) rfl w.heap.size _ O rfl (HO.out.alloc _) (some ⟨wr.heap.size, 0, none⟩) 1 1 [d + 256 * f] rfl (SrcG.litAt (B := 65536) [d + 256 * f] _ 1 _ rfl rfl (by intro x hx; simp at hx; omega) (by decide) rfl) (j + 1) (by rw [List.length_append, HLO.out]; rfl) (.inr (by simp)) (by omega) (by omega) (by have := hB.size; simp; omega) ?_; intro g1 c1 w2 ho1 hb1 hl1 hc1 hm1 hg1 hk1)
              have hB2 : Below w.heap.size w w2 := (hB.alloc hB.size _).grown hg1 (by have := hB.size; simp; omega) (by intro k hk; exact (HO.out.lt k hk).1)
              go_roundw
              case rel => exact ⟨j + 1, O ++ [d + 256 * f], by go_num, HJ', ho1, HDO.out.append (by intro x hx; simp at hx; omega), by unfold Hid; rw [List.length_append, HLO.out]; rfl, HV', hB2⟩
              case measure => simp [intOf] <;> omega
            · have hkp : ¬ (k : Int) < (p : Int) := by omega
              have hr1 : (xs.drop k).reverse.getD (2 * j + 1) 0 = 0 := by rw [List.getD, List.getElem?_eq_none (by rw [List.length_reverse, List.length_drop, HL.out]; omega)]; rfl
              rw [hr1] at hv2
              have HV' : Hid (val 65536 (O ++ [d]) = val 256 ((xs.drop k).reverse.take (2 * (j + 1)))) := by unfold Hid; rw [hv2, val_append, HLO.out, HVO.out]; simp [val]
              clear hv2 hr0 hr1 hd hp hgo h1
              go_wp2_with (at_builtin; refine appG 29 8 Tryd.underlying29 Tryd.infoI _ rfl (.tmp 51) (.tmp 53) rfl w.heap.size _ O rfl (HO.out.alloc _) (some ⟨wr.heap.size, 0, none⟩) 1 1 [d] rfl (SrcG.litAt (B := 65536) [d] _ 1 _ rfl rfl (by intro x hx; simp at hx; omega) (by decide) rfl) (j + 1) (by rw [List.length_append, HLO.out]; rfl) (.inr (by simp)) (by omega) (by omega) (by have := hB.size; simp; omega) ?_; intro g1 c1 w2 ho1 hb1 hl1 hc1 hm1 hg1 hk1)
              have hB2 : Below w.heap.size w w2 := (hB.alloc hB.size _).grown hg1 (by have := hB.size; simp; omega) (by intro k hk; exact (HO.out.lt k hk).1)
              go_roundw
              case rel => exact ⟨j + 1, O ++ [d], by go_num, HJ', ho1, HDO.out.append (by intro x hx; simp at hx; omega), by unfold Hid; rw [List.length_append, HLO.out]; rfl, HV', hB2⟩
              case measure => simp [intOf] <;> omega
          · have hpk : ¬ (k : Int) ≤ (n : Int) - 1 - 2 * (j : Int) := by omega
            have hj9 : j ≤ 257 := by have := HJ.out; omega
            have hj8 : Hid (j ≤ 256) := by unfold Hid; have := HJ.out; omega
            obtain ⟨aO, cO, hsh⟩ := HO.out.shape
            have hsrc := (hsh ▸ HO.out : OwnG .i64 3 wr w.heap.size (.slice aO O.length cO) O).toSrc HDO.out
            rw [HLO.out] at hsh hsrc
            subst hsh
            have HSRC := hide hsrc
            have HVE : Hid (val 65536 O = val 256 xs.reverse) := by
              unfold Hid
              rw [HVO.out, List.take_of_length_le (by rw [List.length_reverse, List.length_drop, HL.out]; omega), ← he.out, lz_val]
            clear hsrc HO
            go_wp2_with fail
            refine (bare_any _ _ _ O _ HSRC.out (by omega)).mono ?_
            rintro e w3 ⟨g, c', rfl, hs3, hB3⟩
            go_wp2
            go_ret2
            refine ⟨_, rfl, ⟨_, _, _, trm O, rfl, hs3, trm_tr _, by have h9 := trm_len O; rw [HLO.out] at h9; have := hj8.out; omega, by rw [trm_val, HVE.out]⟩, hB.trans (hB3.mono hB.size)⟩
    · obtain rfl : k = n := by omega
      have he : Hid (lz xs = xs.drop k) := by unfold Hid; rw [HV.out]; exact lz_here xs k (.inl (by rw [HL.out]))
      have hK2 := HK.out
      rw [he.out, List.length_drop, HL.out] at hK2
      clear hkn
      go_wp2
      go_loopw [5, 6] (fun v i wr => ∃ (j : Nat) (O : List Int), i = .int .i64 ((k : Int) - 1 - 2 * (j : Int)) ∧ Hid (2 * j ≤ k - k + 1) ∧ Hid (OwnG .i64 3 wr w.heap.size v O) ∧ Hid (Dg 65536 O) ∧ Hid (O.length = j) ∧ Hid (val 65536 O = val 256 ((xs.drop k).reverse.take (2 * j))) ∧ Below w.heap.size w wr) (fun _ i _ => ((intOf i) + 2).toNat)
      case atStart => exact ⟨0, [], by go_num, by unfold Hid; omega, OwnG.nil _ _, by intro x hx; simp at hx, rfl, by unfold Hid; simp [val], Below.refl _ _⟩
      case round =>
        obtain ⟨j, O, rfl, HJ, HO, HDO, HLO, HVO, hB⟩ := hrel
        have hj0 : j = 0 := by have := HJ.out; omega
        subst hj0
        obtain ⟨aO, cO, hsh⟩ := HO.out.shape
        have hsrc := (hsh ▸ HO.out : OwnG .i64 3 wr w.heap.size (.slice aO O.length cO) O).toSrc HDO.out
        rw [HLO.out] at hsh hsrc
        subst hsh
        have HSRC := hide hsrc
        have HVE : Hid (val 65536 O = val 256 xs.reverse) := by
          unfold Hid
          rw [HVO.out, List.take_of_length_le (by rw [List.length_reverse, List.length_drop, HL.out]; omega), ← he.out, lz_val]
        clear hsrc HO
        go_wp2_with fail
        refine (bare_any _ _ _ O _ HSRC.out (by omega)).mono ?_
        rintro e w3 ⟨g, c', rfl, hs3, hB3⟩
        go_wp2
        go_ret2
        refine ⟨_, rfl, ⟨_, _, _, trm O, rfl, hs3, trm_tr _, by have h9 := trm_len O; rw [HLO.out] at h9; omega, by rw [trm_val, HVE.out]⟩, hB.trans (hB3.mono hB.size)⟩

end Go.Proofs.YtekhobmjjoegpaaDoor
