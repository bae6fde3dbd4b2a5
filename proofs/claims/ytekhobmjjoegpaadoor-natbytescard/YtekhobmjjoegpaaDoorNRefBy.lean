/-
  The document's Bytes and FromBytes.
-/
import Derived.Test.YtekhobmjjoegpaaDoorNRefB
namespace Go.Proofs.YtekhobmjjoegpaaDoor
open Go.RowKit Go.IntWalk

/-- Bytes without a nought ahead. -/
def Hd (bs : List Int) : Prop := bs = [] ∨ bs.getD 0 0 ≠ 0

theorem Hd.rev {bs : List Int} (h : Hd bs) : Tr bs.reverse := by
  intro hne
  have hn : bs ≠ [] := by simpa using hne
  have hl : bs.length ≠ 0 := by intro h'; exact hn (List.eq_nil_of_length_eq_zero h')
  rw [List.length_reverse, rev_getD bs _ (by omega), show bs.length - 1 - (bs.length - 1) = 0 by omega]
  rcases h with h | h
  · exact absurd h hn
  · exact h

theorem dg_rev {b : Int} {bs : List Int} (h : Dg b bs) : Dg b bs.reverse := by intro x hx; exact h x (by simpa using hx)

/-- Bytes are told by the number that they say. -/
theorem bytes_inj {xs ys : List Int} (hx : Dg 256 xs) (hy : Dg 256 ys) (tx : Hd xs) (ty : Hd ys) (hv : val 256 xs.reverse = val 256 ys.reverse) : xs = ys := by
  have := tr_inj (b := 256) (by decide) (dg_rev hx) (dg_rev hy) tx.rev ty.rev hv
  simpa using congrArg List.reverse this

theorem val_snoc (bs : List Int) (d : Int) : val 256 (bs ++ [d]).reverse = d + 256 * val 256 bs.reverse := by
  rw [List.reverse_append]
  rfl

theorem Hd.snoc {bs : List Int} (d : Int) (h : Hd bs) (hd : bs ≠ [] ∨ d ≠ 0) : Hd (bs ++ [d]) := by
  right
  cases bs with
  | nil => rcases hd with hd | hd; exact absurd rfl hd; simpa
  | cons x r => rcases h with h | h; cases h; simpa using h

theorem Dg.snoc {b : Int} {bs : List Int} (h : Dg b bs) (d : Int) (h0 : 0 ≤ d) (h1 : d < b) : Dg b (bs ++ [d]) := h.append (by intro x hx; simp at hx; omega)

theorem two_bytes (h l V X D : Int) (hD : D = 256 * h + l) (hX : X = l + 256 * (h + 256 * V)) : X = D + 65536 * V := by rw [hX, hD]; omega

set_option maxRecDepth 100000 in
set_option maxHeartbeats 4000000 in
theorem refBytes_any (v : Value) (x : Int) (w : World) (h : NumD w v x 256) :
    Calls Tryd.prog 11 #[v] w fun e w' => ∃ ao c bs, e = .returned (.slice ao bs.length c) ∧ SrcG .u8 256 w' ao bs.length c bs ∧ Hd bs ∧ val 256 bs.reverse = x ∧ Below w.heap.size w w' := by
  obtain ⟨ao, n, c, xs, rfl, hs, ht, hl, hv⟩ := h
  have z1 := hide hs.hlen
  have d1 := hide hs.hdg
  have HV := hide hv
  have nb : (n : Int) ≤ 256 := by omega
  clear ht hv
  go_enter Tryd.func11, Tryd.ntmps11
  go_wp2
  go_loopw [3, 4] (fun v i wr => ∃ (k : Nat) (O : List Int), i = .int .i64 ((k : Int) - 1) ∧ k ≤ n ∧ Hid (OwnG .u8 5 wr w.heap.size v O) ∧ Hid (Dg 256 O) ∧ Hid (Hd O) ∧ Hid (O.length + 2 * k ≤ 2 * n) ∧ Hid (val 256 O.reverse = val 65536 (xs.drop k)) ∧ Below w.heap.size w wr) (fun _ i _ => ((intOf i) + 1).toNat)
  case atStart => exact ⟨n, [], by go_num, Nat.le_refl _, OwnG.nil _ _, by intro x hx; simp at hx, .inl rfl, by unfold Hid; simp, by unfold Hid; rw [List.drop_eq_nil_of_le (by rw [z1.out]; exact Nat.le_refl _)]; rfl, Below.refl _ _⟩
  case round =>
    obtain ⟨k, O, rfl, hk, HO, HDO, HH, HLE, HVO, hB⟩ := hrel
    rcases Nat.eq_zero_or_pos k with hk0 | hk0
    · subst hk0
      obtain ⟨aO, cO, hsh⟩ := HO.out.shape
      have hsrc := (hsh ▸ HO.out : OwnG .u8 5 wr w.heap.size (.slice aO O.length cO) O).toSrc HDO.out
      have HSRC := hide hsrc
      have HSH := hide hsh
      have hv9 := HVO.out
      rw [List.drop_zero, HV.out] at hv9
      have HV9 := hide hv9
      clear hsrc hsh hv9
      go_wp2
      go_ret
      exact ⟨aO, cO, O, by rw [← HSH.out]; rfl, HSRC.out, HH.out, HV9.out, hB⟩
    · obtain ⟨j, rfl⟩ : ∃ j, k = j + 1 := ⟨k - 1, by omega⟩
      obtain ⟨b, o, rfl, e1⟩ := (hs.below hB).at j (by omega)
      have hj1 : ((j + 1 : Nat) : Int) - 1 = (j : Int) := by omega
      rw [hj1]
      have hjI : (j : Int) < (n : Int) := by omega
      have hd := d1.out.at (by decide : (0 : Int) < 65536) j
      have hvd := val_dropAt 65536 xs j
      obtain ⟨D, hDD⟩ : ∃ D, xs.getD j 0 = D := ⟨_, rfl⟩
      rw [hDD] at e1 hd hvd
      obtain ⟨h, hh⟩ : ∃ h, D / 256 = h := ⟨_, rfl⟩
      obtain ⟨l, hll⟩ : ∃ l, D % 256 = l := ⟨_, rfl⟩
      have tq : Int.tdiv D 256 = h := by rw [Int.tdiv_eq_ediv_of_nonneg hd.1]; exact hh
      have tr : Int.tmod D 256 = l := by rw [Int.tmod_eq_emod_of_nonneg hd.1]; exact hll
      have hh0 : 0 ≤ h ∧ h < 256 := by omega
      have hl0 : 0 ≤ l ∧ l < 256 := by omega
      have hDe : D = 256 * h + l := by omega
      have w8 : IntKind.u8.wrap h = h := by rw [IntKind.wrap_u8]; omega
      have w9 : IntKind.u8.wrap l = l := by rw [IntKind.wrap_u8]; omega
      have HDE := hide hDe
      have HVD := hide hvd
      clear hDD hh hll hvd hDe
      obtain ⟨aO, cO, hsh⟩ := HO.out.shape
      obtain ⟨m, hm⟩ : ∃ m, O.length = m := ⟨_, rfl⟩
      rw [hm] at hsh
      have HM := hide hm
      have hmb : m ≤ 512 := by have := HLE.out; omega
      have mI : (m : Int) ≤ 512 := by omega
      have jn : (j : Int) ≤ 256 := by omega
      subst hsh
      have HC : Hid (∀ W : World, Below w.heap.size w W → W.cell? ⟨b, o + j, none⟩ = some (.int .i64 D)) := by
        intro W hW
        have g1 := World.cell?_of_block (w := w) (w' := W) (a := ⟨b, o + j, none⟩) (hW.block b (hs.blk b o rfl (by intro h'; have := z1.out; rw [h'] at this; simp at this; omega)))
        have g2 := World.cell?_of_block (w := w) (w' := wr) (a := ⟨b, o + j, none⟩) (hB.block b (hs.blk b o rfl (by intro h'; have := z1.out; rw [h'] at this; simp at this; omega)))
        rw [g1, ← g2]
        exact e1
      have HLL : Hid ((O ++ [h] ++ [l]).length + 2 * j ≤ 2 * n) := by unfold Hid; have := HLE.out; simp [hm]; omega
      have HVV : Hid (val 256 (O ++ [h] ++ [l]).reverse = val 65536 (xs.drop j)) := by
        unfold Hid
        rw [val_snoc, val_snoc, HVD.out, HVO.out]
        exact two_bytes h l _ _ D HDE.out rfl
      by_cases hO : 0 < m
      · have hmI : (0 : Int) < (m : Int) := by omega
        have hne : O ≠ [] := by intro h'; rw [h'] at hm; simp at hm; omega
        have HHH : Hid (Hd (O ++ [h] ++ [l])) := (HH.out.snoc h (.inl hne)).snoc l (.inl (by simp))
        clear hm hne hO
        go_wp2_with (first | (at_builtin; refine appG 22 1 Tryd.underlying22 Tryd.infoB _ rfl (.tmp 23) (.tmp 30) rfl w.heap.size (.slice aO m cO) O rfl (HO.out.alloc _) (some ⟨wr.heap.size, 0, none⟩) 1 1 [h] rfl (SrcG.litAt (B := 256) [h] _ 1 _ rfl rfl (by intro x hx; simp at hx; omega) (by decide) rfl) (m + 1) (by rw [List.length_append, HM.out]; rfl) (.inr (by simp)) (by omega) (by omega) (by have := hB.size; simp; omega) ?_; intro g1 c1 w2 ho1 hb1 hl1 hc1 hm1 hg1 hk1; have hB2 : Below w.heap.size w w2 := (hB.alloc hB.size _).grown hg1 (by have := hB.size; simp; omega) (by intro k hk; exact (HO.out.lt k hk).1); have e2 := HC.out w2 hB2) | (at_builtin; refine appG 22 1 Tryd.underlying22 Tryd.infoB _ rfl (.tmp 43) (.tmp 50) rfl w.heap.size (.slice (some ⟨g1, 0, none⟩) (m + 1) c1) (O ++ [h]) rfl (ho1.alloc _) (some ⟨w2.heap.size, 0, none⟩) 1 1 [l] rfl (SrcG.litAt (B := 256) [l] _ 1 _ rfl rfl (by intro x hx; simp at hx; omega) (by decide) rfl) (m + 1 + 1) (by rw [List.length_append, List.length_append, HM.out]; rfl) (.inr (by simp)) (by omega) (by omega) (by have := hB.size; have := hg1.size; simp at this ⊢; omega) ?_; intro g2 c2 w3 ho2 hb2 hl2 hc2 hm2 hg2 hk2))
        have hB3 : Below w.heap.size w w3 := (hB2.alloc hB2.size _).grown hg2 (by have := hB2.size; simp; omega) (by intro k hk; cases hk; exact hb1)
        go_roundw
        case rel => exact ⟨j, O ++ [h] ++ [l], by go_num, by omega, ho2, (HDO.out.snoc h hh0.1 hh0.2).snoc l hl0.1 hl0.2, HHH, HLL, HVV, hB3⟩
        case measure => simp [intOf] <;> omega
      · obtain rfl : m = 0 := by omega
        have hne : O = [] := List.eq_nil_of_length_eq_zero (by omega)
        by_cases hh1 : 0 < h
        · have HHH : Hid (Hd (O ++ [h] ++ [l])) := (HH.out.snoc h (.inr (by omega))).snoc l (.inl (by simp))
          clear hm hne hO
          go_wp2_with (first | (at_builtin; refine appG 22 1 Tryd.underlying22 Tryd.infoB _ rfl (.tmp 23) (.tmp 30) rfl w.heap.size (.slice aO 0 cO) O rfl (HO.out.alloc _) (some ⟨wr.heap.size, 0, none⟩) 1 1 [h] rfl (SrcG.litAt (B := 256) [h] _ 1 _ rfl rfl (by intro x hx; simp at hx; omega) (by decide) rfl) (1) (by rw [List.length_append, HM.out]; rfl) (.inr (by simp)) (by omega) (by omega) (by have := hB.size; simp; omega) ?_; intro g1 c1 w2 ho1 hb1 hl1 hc1 hm1 hg1 hk1; have hB2 : Below w.heap.size w w2 := (hB.alloc hB.size _).grown hg1 (by have := hB.size; simp; omega) (by intro k hk; exact (HO.out.lt k hk).1); have e2 := HC.out w2 hB2) | (at_builtin; refine appG 22 1 Tryd.underlying22 Tryd.infoB _ rfl (.tmp 43) (.tmp 50) rfl w.heap.size (.slice (some ⟨g1, 0, none⟩) (1) c1) (O ++ [h]) rfl (ho1.alloc _) (some ⟨w2.heap.size, 0, none⟩) 1 1 [l] rfl (SrcG.litAt (B := 256) [l] _ 1 _ rfl rfl (by intro x hx; simp at hx; omega) (by decide) rfl) (2) (by rw [List.length_append, List.length_append, HM.out]; rfl) (.inr (by simp)) (by omega) (by omega) (by have := hB.size; have := hg1.size; simp at this ⊢; omega) ?_; intro g2 c2 w3 ho2 hb2 hl2 hc2 hm2 hg2 hk2))
          have hB3 : Below w.heap.size w w3 := (hB2.alloc hB2.size _).grown hg2 (by have := hB2.size; simp; omega) (by intro k hk; cases hk; exact hb1)
          go_roundw
          case rel => exact ⟨j, O ++ [h] ++ [l], by go_num, by omega, ho2, (HDO.out.snoc h hh0.1 hh0.2).snoc l hl0.1 hl0.2, HHH, HLL, HVV, hB3⟩
          case measure => simp [intOf] <;> omega
        · have hhz : h = 0 := by omega
          subst hhz
          have HVL : Hid (val 256 (O ++ [l]).reverse = val 65536 (xs.drop j)) := by
            unfold Hid
            rw [← HVV.out, hne]
            simp [val]
          by_cases hl1 : 0 < l
          · have HHH : Hid (Hd (O ++ [l])) := HH.out.snoc l (.inr (by omega))
            have HL2 : Hid ((O ++ [l]).length + 2 * j ≤ 2 * n) := by unfold Hid; have := HLE.out; simp [hm]; omega
            clear hm hne hO
            go_wp2_with (at_builtin; refine appG 22 1 Tryd.underlying22 Tryd.infoB _ rfl (.tmp 43) (.tmp 50) rfl w.heap.size (.slice aO 0 cO) O rfl (HO.out.alloc _) (some ⟨wr.heap.size, 0, none⟩) 1 1 [l] rfl (SrcG.litAt (B := 256) [l] _ 1 _ rfl rfl (by intro x hx; simp at hx; omega) (by decide) rfl) (1) (by rw [List.length_append, HM.out]; rfl) (.inr (by simp)) (by omega) (by omega) (by have := hB.size; simp; omega) ?_; intro g1 c1 w2 ho1 hb1 hl1 hc1 hm1 hg1 hk1)
            have hB2 : Below w.heap.size w w2 := (hB.alloc hB.size _).grown hg1 (by have := hB.size; simp; omega) (by intro k hk; exact (HO.out.lt k hk).1)
            go_roundw
            case rel => exact ⟨j, O ++ [l], by go_num, by omega, ho1, HDO.out.snoc l hl0.1 hl0.2, HHH, HL2, HVL, hB2⟩
            case measure => simp [intOf] <;> omega
          · have hlz : l = 0 := by omega
            subst hlz
            have HVN : Hid (val 256 O.reverse = val 65536 (xs.drop j)) := by
              unfold Hid
              rw [← HVL.out, hne]
              simp [val]
            clear hm hne hO
            go_wp2
            go_roundw
            case rel => exact ⟨j, O, by go_num, by omega, HO, HDO, HH, by unfold Hid; have := HLE.out; omega, HVN, hB⟩
            case measure => simp [intOf] <;> omega

end Go.Proofs.YtekhobmjjoegpaaDoor
