/-
  The statement ShaPieces: its walk.
-/
import Derived.Test.YtfajdcomjcoclaaDoorSaL1
import Derived.Deep.DeepCutAuto
namespace Go.Proofs.YtfajdcomjcoclaaDoor
open Go.RowKit Go.IntWalk

attribute [local go_sem ↓] ld_words ld_part ld_sched ld_hash ld_dig ld_arr st_words st_part st_sched st_hash st_dig st_arr ix_words bd_hash bd_keyed bd_dig eq_dig

theorem Pcs0.two {w : World} {b : Nat} {a1 a2 : Option Addr} {n1 c1 n2 c2 : Nat} {xs ys : List Int} (h1 : w.cell? ⟨b, 0, none⟩ = some (.slice a1 n1 c1)) (h2 : w.cell? ⟨b, 1, none⟩ = some (.slice a2 n2 c2)) (s1 : SrcG .u8 256 w a1 n1 c1 xs) (s2 : SrcG .u8 256 w a2 n2 c2 ys) : Pcs0 w (some ⟨b, 0, none⟩) 2 [xs, ys] := by
  refine ⟨rfl, fun _ => ⟨b, 0, rfl, fun i hi => ?_⟩⟩
  rcases (show i = 0 ∨ i = 1 by omega) with rfl | rfl
  · exact ⟨_, _, _, h1, s1⟩
  · exact ⟨_, _, _, h2, s2⟩

theorem Pcs0.three {w : World} {b : Nat} {a1 a2 a3 : Option Addr} {n1 c1 n2 c2 n3 c3 : Nat} {xs ys zs : List Int} (h1 : w.cell? ⟨b, 0, none⟩ = some (.slice a1 n1 c1)) (h2 : w.cell? ⟨b, 1, none⟩ = some (.slice a2 n2 c2)) (h3 : w.cell? ⟨b, 2, none⟩ = some (.slice a3 n3 c3)) (s1 : SrcG .u8 256 w a1 n1 c1 xs) (s2 : SrcG .u8 256 w a2 n2 c2 ys) (s3 : SrcG .u8 256 w a3 n3 c3 zs) : Pcs0 w (some ⟨b, 0, none⟩) 3 [xs, ys, zs] := by
  refine ⟨rfl, fun _ => ⟨b, 0, rfl, fun i hi => ?_⟩⟩
  rcases (show i = 0 ∨ i = 1 ∨ i = 2 by omega) with rfl | rfl | rfl
  · exact ⟨_, _, _, h1, s1⟩
  · exact ⟨_, _, _, h2, s2⟩
  · exact ⟨_, _, _, h3, s3⟩


theorem mk_rest {U : World} {P : World → Value → Value → Prop} {G : Prop} (h : Hid (∀ W x y, Below U.heap.size U W → P W x y) → G) (k : ∀ W x y, Below U.heap.size U W → P W x y) : G := h k

theorem mk_rest1 {U : World} {P : World → Value → Prop} {G : Prop} (h : Hid (∀ W x, Below U.heap.size U W → P W x) → G) (k : ∀ W x, Below U.heap.size U W → P W x) : G := h k

theorem below_al {U W : World} (h : Below U.heap.size U W) (ob : Obj) : Below U.heap.size U (W.alloc ob) := h.alloc h.size ob

set_option maxRecDepth 100000 in
set_option maxHeartbeats 8000000 in
theorem pieces_walk (a : Option Addr) (n c : Nat) (xs : List Int) (i k : Int) (w : World) (hs : SrcG .u8 256 w a n c xs) (hn : n ≤ 140737488351232) (hT : Tabs w) :
    Calls Tryd.prog 6 #[.slice a n c, .int .i64 i, .int .i64 k] w fun e w' => e = .returned (.bool true) ∧ Below w.heap.size w w' := by
  have HS := hide hs
  have HT := hide hT
  have HLt := hide hT.lt
  have HCap := hide (And.intro hs.hcap hs.hlen)
  obtain ⟨I, hI⟩ : ∃ I : Nat, (i % 18446744073709551616) % ((n : Int) + 1) = (I : Int) := ⟨_, (Int.toNat_of_nonneg (Int.emod_nonneg _ (by omega))).symm⟩
  obtain ⟨K, hK⟩ : ∃ K : Nat, (k % 18446744073709551616) % ((n : Int) + 1) = (K : Int) := ⟨_, (Int.toNat_of_nonneg (Int.emod_nonneg _ (by omega))).symm⟩
  have hI1 : I ≤ n := by have := Int.emod_lt_of_pos (i % 18446744073709551616) (show (0 : Int) < (n : Int) + 1 by omega); omega
  have hK1 : K ≤ n := by have := Int.emod_lt_of_pos (k % 18446744073709551616) (show (0 : Int) < (n : Int) + 1 by omega); omega
  have hnI : (n : Int) ≤ 140737488351232 := by omega
  have hII : (I : Int) ≤ (n : Int) := by omega
  have hKI : (K : Int) ≤ (n : Int) := by omega
  have hm1 : (IntKind.u64.wrap i).tmod ((n : Int) + 1) = (I : Int) := by rw [IntKind.wrap_u64, Int.tmod_eq_emod_of_nonneg (by omega)]; exact hI
  have hm2 : (IntKind.u64.wrap k).tmod ((n : Int) + 1) = (K : Int) := by rw [IntKind.wrap_u64, Int.tmod_eq_emod_of_nonneg (by omega)]; exact hK
  have hnz : ¬ ((n : Int) + 1 = 0) := by omega
  clear hs hT hn hI hK
  go_enter Tryd.func6, Tryd.ntmps6
  go_wp2
  go_quiet (fail)
  go_upto_if 25 with fail
  go_cut [1, 2] (fun x y wx => (∃ lo hi : Nat, lo ≤ hi ∧ hi ≤ n ∧ x = .int .i64 lo ∧ y = .int .i64 hi) ∧ Drew w wx)
  case first =>
    by_cases hle : K < I
    · have hle' : (K : Int) < (I : Int) := by omega
      go_wp2
      go_meet
      case rel => exact ⟨⟨K, I, by omega, hI1, rfl, rfl⟩, (Drew.refl _).more _⟩
    · have hle' : ¬ (K : Int) < (I : Int) := by omega
      go_wp2
      go_meet
      case rel => exact ⟨⟨I, K, by omega, hK1, rfl, rfl⟩, (Drew.refl _).more _⟩
  case rest =>
    obtain ⟨⟨lo, hi', hlo, hhi, rfl, rfl⟩, hD⟩ := hcut
    clear hm1 hm2 hII hKI hnz hI1 hK1
    have HW0 : Hid (Below w.heap.size w wc) := hD.below (Below.refl _ _)
    have hcap := HCap.out.1
    have s0 : SrcG .u8 256 w a lo c (xs.take lo) := by
      have := HS.out.cut 0 lo (Nat.zero_le _) (by omega)
      rw [cutG_zero] at this
      simpa using this
    have s1 := HS.out.cut lo hi' hlo hhi
    have s2 : SrcG .u8 256 w (cutG a c hi') (n - hi') (c - hi') (xs.drop hi') := by
      have := HS.out.cut hi' n hhi (Nat.le_refl _)
      rwa [List.take_of_length_le (by rw [HCap.out.2]; omega)] at this
    have s3 : SrcG .u8 256 w (cutG a c lo) (n - lo) (c - lo) (xs.drop lo) := by
      have := HS.out.cut lo n (by omega) (Nat.le_refl _)
      rwa [List.take_of_length_le (by rw [HCap.out.2]; omega)] at this
    have HS0 := hide s0
    have HS1 := hide s1
    have HS2 := hide s2
    have HS3 := hide s3
    have HLen := hide HCap.out.2
    have HFl : Hid (xs.take lo ++ ((xs.take hi').drop lo ++ xs.drop hi') = xs) := by
      unfold Hid
      have e : (xs.take hi').drop lo ++ xs.drop hi' = xs.drop lo := by
        conv => rhs; rw [← List.take_append_drop hi' xs, List.drop_append_of_le_length (by rw [List.length_take, HLen.out]; omega)]
      rw [e, List.take_append_drop]
    have HFl2 : Hid ((xs.take hi').drop lo ++ xs.drop hi' = xs.drop lo) := by
      unfold Hid
      conv => rhs; rw [← List.take_append_drop hi' xs, List.drop_append_of_le_length (by rw [List.length_take, HLen.out]; omega)]
    have e1 : ∀ W : World, (Instr.slice 22 (.slice a n c) none (some (.int .i64 (lo : Int))) none).run Tryd.prog W = .ok (.slice a lo c) W := fun W => by rw [sliceB_hi W a n c _ lo rfl (by omega), cutG_zero]
    have e2 : ∀ W : World, (Instr.slice 22 (.slice a n c) (some (.int .i64 (lo : Int))) (some (.int .i64 (hi' : Int))) none).run Tryd.prog W = .ok (.slice (cutG a c lo) (hi' - lo) (c - lo)) W := fun W => sliceB_lh W a n c _ _ lo hi' rfl rfl hlo (by omega)
    have e3 : ∀ W : World, (Instr.slice 22 (.slice a n c) (some (.int .i64 (hi' : Int))) none none).run Tryd.prog W = .ok (.slice (cutG a c hi') (n - hi') (c - hi')) W := fun W => sliceB_lo W a n c _ hi' rfl hhi
    have e4 : ∀ W : World, (Instr.slice 22 (.slice a n c) (some (.int .i64 (lo : Int))) none none).run Tryd.prog W = .ok (.slice (cutG a c lo) (n - lo) (c - lo)) W := fun W => sliceB_lo W a n c _ lo rfl (by omega)
    clear s0 s1 s2 s3 hcap HCap hD
    go_wp2_with fail
    refine (new_any wc (HT.out.below HW0.out HLt.out)).mono ?_
    rintro e w1 ⟨rfl, hH1, hB1⟩
    have HH1 := hide hH1
    have HW1 : Hid (Below w.heap.size w w1) := HW0.out.trans (hB1.mono HW0.out.size)
    have HZ : Hid (w.heap.size ≤ wc.heap.size) := HW0.out.size
    have HZ1 : Hid (wc.heap.size < w1.heap.size) := hH1.lt
    clear hH1 hB1
    have hwr1 : Calls Tryd.prog 18 #[.pointer (some ⟨wc.heap.size, 0, none⟩), .slice (some ⟨w1.heap.size, 0, none⟩) 1 1] (w1.alloc (.cells #[.slice a lo c] 22)).drew fun e w2 => e = .returned (.int .i64 0) ∧ Hid (Hs 56 w2 wc.heap.size [] [] (xs.take lo)) ∧ Hid (Below w.heap.size w w2) ∧ Hid (wc.heap.size < w2.heap.size) := by
      have hbl : Below w.heap.size w (w1.alloc (.cells #[.slice a lo c] 22)).drew := (HW1.out.alloc HW1.out.size _).drew
      refine (write_yes 56 wc.heap.size 0 [] [] [] (some ⟨w1.heap.size, 0, none⟩) 1 1 [xs.take lo] (w1.alloc (.cells #[.slice a lo c] 22)).drew ((HH1.out.alloc _).heap rfl) rfl (Pcs.one (a := a) (n := lo) (c := c) (xs := xs.take lo) (by simp) (by have := HZ1.out; omega) (HS0.out.below hbl) (fun b' o' he hx => by have := HS0.out.blk b' o' he hx; have := HZ.out; omega)) (HT.out.below hbl HLt.out) (by have := HLt.out; have := HZ.out; omega) (by have := HLen.out; simp; omega) (by omega)).mono ?_
      rintro e w2 ⟨he, h1, h2⟩
      have h3 := gTrans (gDrew _ _) h2
      refine ⟨he, by unfold Hid; simpa using h1, (HW1.out.alloc HW1.out.size _).grown h3 (by have := HW1.out.size; simp; omega) (fun k hk => by simp at hk; have := HZ.out; omega), h1.lt⟩
    have HWR1 := hide hwr1
    clear hwr1
    have hwr2 : ∀ w2, Hs 56 w2 wc.heap.size [] [] (xs.take lo) → Below w.heap.size w w2 → wc.heap.size < w2.heap.size → Calls Tryd.prog 18 #[.pointer (some ⟨wc.heap.size, 0, none⟩), .slice (some ⟨w2.heap.size, 0, none⟩) 2 2] (w2.alloc (.cells #[.slice (cutG a c lo) (hi' - lo) (c - lo), .slice (cutG a c hi') (n - hi') (c - hi')] 22)) fun e w3 => e = .returned (.int .i64 0) ∧ Hid (Hs 56 w3 wc.heap.size [] [] xs) ∧ Hid (Below w.heap.size w w3) := by
      intro w2 hH hB hz
      have hbl : Below w.heap.size w (w2.alloc (.cells #[.slice (cutG a c lo) (hi' - lo) (c - lo), .slice (cutG a c hi') (n - hi') (c - hi')] 22)) := hB.alloc hB.size _
      have hbk : Blk 22 (w2.alloc (.cells #[.slice (cutG a c lo) (hi' - lo) (c - lo), .slice (cutG a c hi') (n - hi') (c - hi')] 22)) w2.heap.size [.slice (cutG a c lo) (hi' - lo) (c - lo), .slice (cutG a c hi') (n - hi') (c - hi')] := Blk.new w2 _ _ _ rfl rfl
      have hp : Pcs (w2.alloc (.cells #[.slice (cutG a c lo) (hi' - lo) (c - lo), .slice (cutG a c hi') (n - hi') (c - hi')] 22)) wc.heap.size (some ⟨w2.heap.size, 0, none⟩) 2 [(xs.take hi').drop lo, xs.drop hi'] := by
        refine ⟨rfl, fun _ => ⟨_, _, rfl, by omega, fun i hi => ?_⟩⟩
        rcases (show i = 0 ∨ i = 1 by omega) with rfl | rfl
        · exact ⟨_, _, _, hbk.cell 0, HS1.out.below hbl, fun b' o' he hx => by have := HS1.out.blk b' o' he hx; have := HZ.out; omega⟩
        · exact ⟨_, _, _, hbk.cell 1, HS2.out.below hbl, fun b' o' he hx => by have := HS2.out.blk b' o' he hx; have := HZ.out; omega⟩
      refine (write_yes 56 wc.heap.size 0 [] [] (xs.take lo) _ 2 2 _ (w2.alloc (.cells #[.slice (cutG a c lo) (hi' - lo) (c - lo), .slice (cutG a c hi') (n - hi') (c - hi')] 22)) (hH.alloc _) rfl hp (HT.out.below hbl HLt.out) (by have := HLt.out; have := HZ.out; omega) (by have := HLen.out; simp; omega) (by omega)).mono ?_
      rintro e w3 ⟨he, h1, h2⟩
      refine ⟨he, ?_, hbl.grown h2 (by have := hB.size; simp; omega) (fun k hk => by simp at hk; have := HZ.out; omega)⟩
      have e5 : xs.take lo ++ [(xs.take hi').drop lo, xs.drop hi'].flatten = xs := by rw [← HFl.out]; simp [HFl.out]
      rw [e5] at h1
      exact h1
    have HWR2 := hide hwr2
    clear hwr2
    go_wp2
    go_region_held3 (fun _ => True) (trivial) (first | (go_at_call_of 18 (2 : Nat); refine (HWR2.out _ HH2.out HW2.out HZ2.out).mono ?_; rintro e w3 ⟨rfl, HH3, HW3⟩) | (go_at_call 18; refine HWR1.out.mono ?_; rintro e w2 ⟨rfl, HH2, HW2, HZ2⟩))
    go_wp2
    generalize w3 = U at *
    have HTU := hide (HT.out.below HW3.out HLt.out)
    have C1 : Hid (∀ W b, Below U.heap.size U W → Blk 22 W b [.slice a n c] → Calls Tryd.prog 10 #[.slice (some ⟨b, 0, none⟩) 1 1] W fun e w' => e = .returned (.agg ((dig xs).map (Value.int .u8)).toArray) ∧ Below U.heap.size U w' ∧ Below W.heap.size W w') := by
      intro W b hW hc
      have hbl := HW3.out.trans (hW.mono HW3.out.size)
      refine (sum_one b a n c xs W (hc.cell 0) (HS.out.below hbl) (by omega) (HTU.out.below hW HTU.out.lt)).mono ?_
      rintro e w' ⟨he, hb⟩
      exact ⟨he, keep_below hW hb, hb⟩
    have C3 : Hid (∀ W b, Below U.heap.size U W → Blk 22 W b [.slice a lo c, .slice (cutG a c lo) (hi' - lo) (c - lo), .slice (cutG a c hi') (n - hi') (c - hi')] → Calls Tryd.prog 10 #[.slice (some ⟨b, 0, none⟩) 3 3] W fun e w' => e = .returned (.agg ((dig xs).map (Value.int .u8)).toArray) ∧ Below U.heap.size U w' ∧ Below W.heap.size W w') := by
      intro W b hW hc
      have hbl := HW3.out.trans (hW.mono HW3.out.size)
      have h := sum_any (some ⟨b, 0, none⟩) 3 3 _ W (Pcs0.three (hc.cell 0) (hc.cell 1) (hc.cell 2) (HS0.out.below hbl) (HS1.out.below hbl) (HS2.out.below hbl)) (HTU.out.below hW HTU.out.lt) (by have := HLen.out; simp; omega) (by omega)
      have e5 : [xs.take lo, (xs.take hi').drop lo, xs.drop hi'].flatten = xs := by have := HFl.out; simpa using this
      rw [e5] at h
      refine h.mono ?_
      rintro e w' ⟨he, hb⟩
      exact ⟨he, keep_below hW hb, hb⟩
    have CH : Hid (∀ W, Below U.heap.size U W → Calls Tryd.prog 19 #[.pointer (some ⟨wc.heap.size, 0, none⟩)] W fun e w' => e = .returned (.agg ((dig xs).map (Value.int .u8)).toArray) ∧ Below U.heap.size U w' ∧ Below W.heap.size W w') := by
      intro W hW
      refine (hsum_yes 56 wc.heap.size 0 [] [] xs W (HH3.out.below hW) rfl (HTU.out.below hW HTU.out.lt) (by have := HLen.out; omega)).mono ?_
      rintro e w' ⟨he, hb⟩
      exact ⟨he, keep_below hW hb, hb⟩
    have M1 : Hid (∀ W b, Below U.heap.size U W → Blk 22 W b [.slice (cutG a c lo) (n - lo) (c - lo)] → Calls Tryd.prog 13 #[.slice a lo c, .slice (some ⟨b, 0, none⟩) 1 1] W fun e w' => e = .returned (.agg ((macD (xs.take lo) (xs.drop lo)).map (Value.int .u8)).toArray) ∧ Below U.heap.size U w' ∧ Below W.heap.size W w') := by
      intro W b hW hc
      have hbl := HW3.out.trans (hW.mono HW3.out.size)
      refine (mac_one a lo c (xs.take lo) b _ _ _ (xs.drop lo) W (HS0.out.below hbl) (by omega) (hc.cell 0) (HS3.out.below hbl) (by omega) (HTU.out.below hW HTU.out.lt)).mono ?_
      rintro e w' ⟨he, hb⟩
      exact ⟨he, keep_below hW hb, hb⟩
    have M3 : Hid (∀ W b, Below U.heap.size U W → Blk 22 W b [.slice (cutG a c lo) (hi' - lo) (c - lo), .slice none 0 0, .slice (cutG a c hi') (n - hi') (c - hi')] → Calls Tryd.prog 13 #[.slice a lo c, .slice (some ⟨b, 0, none⟩) 3 3] W fun e w' => e = .returned (.agg ((macD (xs.take lo) (xs.drop lo)).map (Value.int .u8)).toArray) ∧ Below U.heap.size U w' ∧ Below W.heap.size W w') := by
      intro W b hW hc
      have hbl := HW3.out.trans (hW.mono HW3.out.size)
      have hnil : SrcG .u8 256 W none 0 0 [] := ⟨rfl, Nat.le_refl _, by decide, fun _ => ⟨rfl, rfl⟩, fun h => absurd rfl h, by intro x hx; simp at hx⟩
      have h := mac_any a lo c (xs.take lo) (some ⟨b, 0, none⟩) 3 3 _ W (HS0.out.below hbl) (by omega) (Pcs0.three (hc.cell 0) (hc.cell 1) (hc.cell 2) (HS1.out.below hbl) hnil (HS2.out.below hbl)) (HTU.out.below hW HTU.out.lt) (by have := HLen.out; simp; omega) (by omega)
      have e5 : [(xs.take hi').drop lo, [], xs.drop hi'].flatten = xs.drop lo := by have := HFl2.out; simpa using this
      rw [e5] at h
      refine h.mono ?_
      rintro e w' ⟨he, hb⟩
      exact ⟨he, keep_below hW hb, hb⟩
    have CW : Hid (∀ W, Below U.heap.size U W → Calls Tryd.prog 24 #[] W fun e w' => e = .returned (.bool true) ∧ Below U.heap.size U w' ∧ Below W.heap.size W w') := by
      intro W hW
      refine (works_any W (HTU.out.below hW HTU.out.lt)).mono ?_
      rintro e w' ⟨he, hb⟩
      exact ⟨he, keep_below hW hb, hb⟩
    have q1 := fun W => eqD_same (dig xs) (dig_len xs) W
    have q2 := fun W => eqD_same (macD (xs.take lo) (xs.drop lo)) (macD_len _ _) W
    generalize dig xs = D at *
    generalize macD (xs.take lo) (xs.drop lo) = M at *
    have h0 : Below U.heap.size U U.drew := (Below.refl _ _).drew
    clear HWR1 HWR2 HS HS0 HS1 HS2 HS3 HFl HFl2 HH1 HW1 HW0 HLen
    refine wp_region_held (S := fun W => Below U.heap.size U W) (by kernel_rfl) ?_
    refine wpAnyH_take (i := 0) (v := ?_) rfl (by kernel_rfl) (by kernel_rfl) (by kernel_rfl) (fun _ _ _ h => h) (Or.inl ⟨by rfl, ?_⟩) (by assumption) ?_
    rotate_left
    · intro wq hSq
      go_simp
      try with_reducible rfl
    simp only [List.getElem_toArray, List.getElem_cons_zero, Act.put, List.setIfInBounds_toArray, List.set_cons_zero, List.set_cons_succ]
    refine wpAnyH_take (i := 3) (v := ?_) rfl (by kernel_rfl) (by kernel_rfl) (by kernel_rfl) (fun _ _ _ h => h) (Or.inl ⟨by rfl, ?_⟩) (by assumption) ?_
    rotate_left
    · intro wq hSq
      go_simp
      try with_reducible rfl
    simp only [List.getElem_toArray, List.getElem_cons_succ, List.getElem_cons_zero, Act.put, List.setIfInBounds_toArray, List.set_cons_zero, List.set_cons_succ]
    refine wpAnyH_take (i := 4) (v := ?_) rfl (by kernel_rfl) (by kernel_rfl) (by kernel_rfl) (fun _ _ _ h => h) (Or.inl ⟨by rfl, ?_⟩) (by assumption) ?_
    rotate_left
    · intro wq hSq
      go_simp
      try with_reducible rfl
    simp only [List.getElem_toArray, List.getElem_cons_succ, List.getElem_cons_zero, Act.put, List.setIfInBounds_toArray, List.set_cons_zero, List.set_cons_succ]
    refine wpAnyH_take (i := 5) (v := ?_) rfl (by kernel_rfl) (by kernel_rfl) (by kernel_rfl) (fun _ _ _ h => h) (Or.inl ⟨by rfl, ?_⟩) (by assumption) ?_
    rotate_left
    · intro wq hSq
      go_simp
      try with_reducible rfl
    simp only [List.getElem_toArray, List.getElem_cons_succ, List.getElem_cons_zero, Act.put, List.setIfInBounds_toArray, List.set_cons_zero, List.set_cons_succ]
    refine wpAnyH_take (i := 6) (v := ?_) rfl (by kernel_rfl) (by kernel_rfl) (by kernel_rfl) (fun _ _ _ h => h) (Or.inl ⟨by rfl, ?_⟩) (by assumption) ?_
    rotate_left
    · intro wq hSq
      go_simp
      try with_reducible rfl
    simp only [List.getElem_toArray, List.getElem_cons_succ, List.getElem_cons_zero, Act.put, List.setIfInBounds_toArray, List.set_cons_zero, List.set_cons_succ]
    refine wpAnyH_take (i := 7) (v := ?_) rfl (by kernel_rfl) (by kernel_rfl) (by kernel_rfl) (fun _ _ _ h => h) (Or.inl ⟨by rfl, ?_⟩) (by assumption) ?_
    rotate_left
    · intro wq hSq
      go_simp
      try with_reducible rfl
    simp only [List.getElem_toArray, List.getElem_cons_succ, List.getElem_cons_zero, Act.put, List.setIfInBounds_toArray, List.set_cons_zero, List.set_cons_succ]
    refine wpAnyH_take (i := 8) (v := ?_) rfl (by kernel_rfl) (by kernel_rfl) (by kernel_rfl) (fun _ _ _ h => h) (Or.inl ⟨by rfl, ?_⟩) (by assumption) ?_
    rotate_left
    · intro wq hSq
      go_simp
      try with_reducible rfl
    simp only [List.getElem_toArray, List.getElem_cons_succ, List.getElem_cons_zero, Act.put, List.setIfInBounds_toArray, List.set_cons_zero, List.set_cons_succ]
    refine wpAnyH_take (i := 9) (v := ?_) rfl (by kernel_rfl) (by kernel_rfl) (by kernel_rfl) (fun _ _ _ h => h) (Or.inl ⟨by rfl, ?_⟩) (by assumption) ?_
    rotate_left
    · intro wq hSq
      go_simp
      try with_reducible rfl
    simp only [List.getElem_toArray, List.getElem_cons_succ, List.getElem_cons_zero, Act.put, List.setIfInBounds_toArray, List.set_cons_zero, List.set_cons_succ]
    refine wpAnyH_take (i := 10) (v := ?_) rfl (by kernel_rfl) (by kernel_rfl) (by kernel_rfl) (fun _ _ _ h => h) (Or.inl ⟨by rfl, ?_⟩) (by assumption) ?_
    rotate_left
    · intro wq hSq
      go_simp
      try with_reducible rfl
    simp only [List.getElem_toArray, List.getElem_cons_succ, List.getElem_cons_zero, Act.put, List.setIfInBounds_toArray, List.set_cons_zero, List.set_cons_succ]
    refine wpAnyH_take (i := 11) (v := ?_) rfl (by kernel_rfl) (by kernel_rfl) (by kernel_rfl) (fun _ _ _ h => h) (Or.inl ⟨by rfl, ?_⟩) (by assumption) ?_
    rotate_left
    · intro wq hSq
      go_simp
      try with_reducible rfl
    simp only [List.getElem_toArray, List.getElem_cons_succ, List.getElem_cons_zero, Act.put, List.setIfInBounds_toArray, List.set_cons_zero, List.set_cons_succ]
    refine wpAnyH_take (i := 12) (v := ?_) rfl (by kernel_rfl) (by kernel_rfl) (by kernel_rfl) (fun _ _ _ h => h) (Or.inl ⟨by rfl, ?_⟩) (by assumption) ?_
    rotate_left
    · intro wq hSq
      go_simp
      try with_reducible rfl
    simp only [List.getElem_toArray, List.getElem_cons_succ, List.getElem_cons_zero, Act.put, List.setIfInBounds_toArray, List.set_cons_zero, List.set_cons_succ]
    refine' mk_rest (U := U) (fun REST1 => ?_) ?_
    rotate_left
    · skip
      refine wpAnyH_ready (rs := [1, 13]) (by kernel_rfl) (by simp) ?_
      refine AllReadyH.cons rfl (fun Kq hKq => ?_) (AllReadyH.cons rfl (fun Kq hKq => ?_) AllReadyH.nil)
      · go_simp
        refine hKq.out _ _ ((below_al (Below.refl _ U) _).drew) (fun hHeld => ?_)
        clear hKq Kq hHeld
        refine wpAnyH_ready (rs := [2, 13]) (by kernel_rfl) (by simp) ?_
        refine AllReadyH.cons rfl (fun Kq hKq => ?_) (AllReadyH.cons rfl (fun Kq hKq => ?_) AllReadyH.nil)
        · go_simp
          refine (C1.out ((U.alloc (.cells #[.slice a n c] 22)).drew) U.heap.size ((below_al (Below.refl _ U) _).drew) (Blk.heap (w := U.alloc (.cells #[.slice a n c] 22)) (Blk.new U _ _ _ rfl rfl) rfl)).mono ?_
          rintro e w4 ⟨rfl, hw4, bw4⟩
          refine hKq.out _ _ hw4 (fun hHeld => ?_)
          clear hKq Kq hHeld
          refine wpAnyH_ready (rs := [13]) (by kernel_rfl) (by simp) ?_
          refine AllReadyH.cons rfl (fun Kq hKq => ?_) AllReadyH.nil
          go_simp
          refine hKq.out _ _ (below_al hw4 _) (fun hHeld => ?_)
          clear hKq Kq hHeld
          refine wpAnyH_ready (rs := [14]) (by kernel_rfl) (by simp) ?_
          refine AllReadyH.cons rfl (fun Kq hKq => ?_) AllReadyH.nil
          go_simp
          refine (C3.out (w4.alloc (.cells #[.slice a lo c, .slice (cutG a c lo) (hi' - lo) (c - lo), .slice (cutG a c hi') (n - hi') (c - hi')] 22)) w4.heap.size (below_al hw4 _) (Blk.new w4 _ _ _ rfl rfl)).mono ?_
          rintro e w5 ⟨rfl, hw5, bw5⟩
          refine hKq.out _ _ hw5 (fun hHeld => ?_)
          clear hKq Kq hHeld
          generalize (Value.slice (some ⟨U.heap.size, 0, none⟩) 1 1) = x
          generalize (Value.slice (some ⟨w4.heap.size, 0, none⟩) 3 3) = y
          exact REST1.out w5 x y hw5
        · go_simp
          refine hKq.out _ _ ((below_al (below_al (Below.refl _ U) _) _).drew) (fun hHeld => ?_)
          clear hKq Kq hHeld
          refine wpAnyH_ready (rs := [2]) (by kernel_rfl) (by simp) ?_
          refine AllReadyH.cons rfl (fun Kq hKq => ?_) AllReadyH.nil
          go_simp
          refine (C1.out (((U.alloc (.cells #[.slice a n c] 22)).alloc (.cells #[.slice a lo c, .slice (cutG a c lo) (hi' - lo) (c - lo), .slice (cutG a c hi') (n - hi') (c - hi')] 22)).drew) U.heap.size ((below_al (below_al (Below.refl _ U) _) _).drew) (Blk.heap (w := (U.alloc (.cells #[.slice a n c] 22)).alloc (.cells #[.slice a lo c, .slice (cutG a c lo) (hi' - lo) (c - lo), .slice (cutG a c hi') (n - hi') (c - hi')] 22)) ((Blk.new U _ _ _ rfl rfl).alloc _) rfl)).mono ?_
          rintro e w4 ⟨rfl, hw4, bw4⟩
          refine hKq.out _ _ hw4 (fun hHeld => ?_)
          clear hKq Kq hHeld
          refine wpAnyH_ready (rs := [14]) (by kernel_rfl) (by simp) ?_
          refine AllReadyH.cons rfl (fun Kq hKq => ?_) AllReadyH.nil
          go_simp
          refine (C3.out w4 (U.heap.size + 1) hw4 (Blk.below (Blk.heap (w' := ((U.alloc (.cells #[.slice a n c] 22)).alloc (.cells #[.slice a lo c, .slice (cutG a c lo) (hi' - lo) (c - lo), .slice (cutG a c hi') (n - hi') (c - hi')] 22)).drew) (Blk.new _ _ _ _ rfl (by simp)) rfl) bw4)).mono ?_
          rintro e w5 ⟨rfl, hw5, bw5⟩
          refine hKq.out _ _ hw5 (fun hHeld => ?_)
          clear hKq Kq hHeld
          exact REST1.out w5 _ _ hw5
      · go_simp
        refine hKq.out _ _ ((below_al (Below.refl _ U) _).drew) (fun hHeld => ?_)
        clear hKq Kq hHeld
        refine wpAnyH_ready (rs := [1]) (by kernel_rfl) (by simp) ?_
        refine AllReadyH.cons rfl (fun Kq hKq => ?_) AllReadyH.nil
        go_simp
        refine hKq.out _ _ ((below_al (below_al (Below.refl _ U) _) _).drew) (fun hHeld => ?_)
        clear hKq Kq hHeld
        refine wpAnyH_ready (rs := [2]) (by kernel_rfl) (by simp) ?_
        refine AllReadyH.cons rfl (fun Kq hKq => ?_) AllReadyH.nil
        go_simp
        refine (C1.out (((U.alloc (.cells #[.slice a lo c, .slice (cutG a c lo) (hi' - lo) (c - lo), .slice (cutG a c hi') (n - hi') (c - hi')] 22)).alloc (.cells #[.slice a n c] 22)).drew) (U.heap.size + 1) ((below_al (below_al (Below.refl _ U) _) _).drew) (Blk.heap (w := (U.alloc (.cells #[.slice a lo c, .slice (cutG a c lo) (hi' - lo) (c - lo), .slice (cutG a c hi') (n - hi') (c - hi')] 22)).alloc (.cells #[.slice a n c] 22)) (Blk.new _ _ _ _ rfl (by simp)) rfl)).mono ?_
        rintro e w4 ⟨rfl, hw4, bw4⟩
        refine hKq.out _ _ hw4 (fun hHeld => ?_)
        clear hKq Kq hHeld
        refine wpAnyH_ready (rs := [14]) (by kernel_rfl) (by simp) ?_
        refine AllReadyH.cons rfl (fun Kq hKq => ?_) AllReadyH.nil
        go_simp
        refine (C3.out w4 U.heap.size hw4 (Blk.below (Blk.heap (w' := ((U.alloc (.cells #[.slice a lo c, .slice (cutG a c lo) (hi' - lo) (c - lo), .slice (cutG a c hi') (n - hi') (c - hi')] 22)).alloc (.cells #[.slice a n c] 22)).drew) ((Blk.new U _ _ _ rfl rfl).alloc _) rfl) bw4)).mono ?_
        rintro e w5 ⟨rfl, hw5, bw5⟩
        refine hKq.out _ _ hw5 (fun hHeld => ?_)
        clear hKq Kq hHeld
        exact REST1.out w5 _ _ hw5
    · intro W1 x1 y1 hW1
      refine wpAnyH_take (i := 15) (v := ?_) rfl (by kernel_rfl) (by kernel_rfl) (by kernel_rfl) (fun _ _ _ h => h) (Or.inl ⟨by rfl, ?_⟩) (by assumption) ?_
      rotate_left
      · intro wq hSq
        go_simp
        try with_reducible rfl
      simp only [List.getElem_toArray, List.getElem_cons_succ, List.getElem_cons_zero, Act.put, List.setIfInBounds_toArray, List.set_cons_zero, List.set_cons_succ]
      refine wpAnyH_take (i := 16) (v := ?_) rfl (by kernel_rfl) (by kernel_rfl) (by kernel_rfl) (fun _ _ _ h => h) (Or.inl ⟨by rfl, ?_⟩) (by assumption) ?_
      rotate_left
      · intro wq hSq
        go_simp
        try with_reducible rfl
      simp only [List.getElem_toArray, List.getElem_cons_succ, List.getElem_cons_zero, Act.put, List.setIfInBounds_toArray, List.set_cons_zero, List.set_cons_succ]
      refine wpAnyH_take (i := 17) (v := ?_) rfl (by kernel_rfl) (by kernel_rfl) (by kernel_rfl) (fun _ _ _ h => h) (Or.inl ⟨by rfl, ?_⟩) (by assumption) ?_
      rotate_left
      · intro wq hSq
        go_simp
        try with_reducible rfl
      simp only [List.getElem_toArray, List.getElem_cons_succ, List.getElem_cons_zero, Act.put, List.setIfInBounds_toArray, List.set_cons_zero, List.set_cons_succ]
      refine wpAnyH_take (i := 19) (v := ?_) rfl (by kernel_rfl) (by kernel_rfl) (by kernel_rfl) (fun _ _ _ h => h) (Or.inl ⟨by rfl, ?_⟩) (by assumption) ?_
      rotate_left
      · intro wq hSq
        go_simp
        try with_reducible rfl
      simp only [List.getElem_toArray, List.getElem_cons_succ, List.getElem_cons_zero, Act.put, List.setIfInBounds_toArray, List.set_cons_zero, List.set_cons_succ]
      refine' mk_rest1 (U := U) (fun REST2 => ?_) ?_
      rotate_left
      · skip
        refine wpAnyH_ready (rs := [18, 20]) (by kernel_rfl) (by simp) ?_
        refine AllReadyH.cons rfl (fun Kq hKq => ?_) (AllReadyH.cons rfl (fun Kq hKq => ?_) AllReadyH.nil)
        · go_simp
          refine (CH.out W1 hW1).mono ?_
          rintro e w4 ⟨rfl, hw4, bw4⟩
          refine hKq.out _ _ hw4 (fun hHeld => ?_)
          clear hKq Kq hHeld
          refine wpAnyH_ready (rs := [20]) (by kernel_rfl) (by simp) ?_
          refine AllReadyH.cons rfl (fun Kq hKq => ?_) AllReadyH.nil
          go_simp
          refine hKq.out _ _ (below_al hw4 _) (fun hHeld => ?_)
          clear hKq Kq hHeld
          refine wpAnyH_ready (rs := [21]) (by kernel_rfl) (by simp) ?_
          refine AllReadyH.cons rfl (fun Kq hKq => ?_) AllReadyH.nil
          go_simp
          refine (C1.out (w4.alloc (.cells #[.slice a n c] 22)) w4.heap.size (below_al hw4 _) (Blk.new w4 _ _ _ rfl rfl)).mono ?_
          rintro e w5 ⟨rfl, hw5, bw5⟩
          refine hKq.out _ _ hw5 (fun hHeld => ?_)
          clear hKq Kq hHeld
          generalize (Value.slice (some ⟨w4.heap.size, 0, none⟩) 1 1) = x
          exact REST2.out w5 x hw5
        · go_simp
          refine hKq.out _ _ (below_al hW1 _) (fun hHeld => ?_)
          clear hKq Kq hHeld
          refine wpAnyH_ready (rs := [18]) (by kernel_rfl) (by simp) ?_
          refine AllReadyH.cons rfl (fun Kq hKq => ?_) AllReadyH.nil
          go_simp
          refine (CH.out (W1.alloc (.cells #[.slice a n c] 22)) (below_al hW1 _)).mono ?_
          rintro e w4 ⟨rfl, hw4, bw4⟩
          refine hKq.out _ _ hw4 (fun hHeld => ?_)
          clear hKq Kq hHeld
          refine wpAnyH_ready (rs := [21]) (by kernel_rfl) (by simp) ?_
          refine AllReadyH.cons rfl (fun Kq hKq => ?_) AllReadyH.nil
          go_simp
          refine (C1.out w4 W1.heap.size hw4 (Blk.below (Blk.new W1 _ _ _ rfl rfl) bw4)).mono ?_
          rintro e w5 ⟨rfl, hw5, bw5⟩
          refine hKq.out _ _ hw5 (fun hHeld => ?_)
          clear hKq Kq hHeld
          exact REST2.out w5 _ hw5
      · intro W2 x2 hW2
        refine wpAnyH_take (i := 22) (v := ?_) rfl (by kernel_rfl) (by kernel_rfl) (by kernel_rfl) (fun _ _ _ h => h) (Or.inl ⟨by rfl, ?_⟩) (by assumption) ?_
        rotate_left
        · intro wq hSq
          go_simp
          try with_reducible rfl
        simp only [List.getElem_toArray, List.getElem_cons_succ, List.getElem_cons_zero, Act.put, List.setIfInBounds_toArray, List.set_cons_zero, List.set_cons_succ]
        refine wpAnyH_take (i := 23) (v := ?_) rfl (by kernel_rfl) (by kernel_rfl) (by kernel_rfl) (fun _ _ _ h => h) (Or.inl ⟨by rfl, ?_⟩) (by assumption) ?_
        rotate_left
        · intro wq hSq
          go_simp
          try with_reducible rfl
        simp only [List.getElem_toArray, List.getElem_cons_succ, List.getElem_cons_zero, Act.put, List.setIfInBounds_toArray, List.set_cons_zero, List.set_cons_succ]
        refine wpAnyH_take (i := 24) (v := ?_) rfl (by kernel_rfl) (by kernel_rfl) (by kernel_rfl) (fun _ _ _ h => h) (Or.inl ⟨by rfl, ?_⟩) (by assumption) ?_
        rotate_left
        · intro wq hSq
          go_simp
          try with_reducible rfl
        simp only [List.getElem_toArray, List.getElem_cons_succ, List.getElem_cons_zero, Act.put, List.setIfInBounds_toArray, List.set_cons_zero, List.set_cons_succ]
        refine wpAnyH_take (i := 25) (v := ?_) rfl (by kernel_rfl) (by kernel_rfl) (by kernel_rfl) (fun _ _ _ h => h) (Or.inl ⟨by rfl, ?_⟩) (by assumption) ?_
        rotate_left
        · intro wq hSq
          go_simp
          try with_reducible rfl
        simp only [List.getElem_toArray, List.getElem_cons_succ, List.getElem_cons_zero, Act.put, List.setIfInBounds_toArray, List.set_cons_zero, List.set_cons_succ]
        refine wpAnyH_take (i := 26) (v := ?_) rfl (by kernel_rfl) (by kernel_rfl) (by kernel_rfl) (fun _ _ _ h => h) (Or.inl ⟨by rfl, ?_⟩) (by assumption) ?_
        rotate_left
        · intro wq hSq
          go_simp
          try with_reducible rfl
        simp only [List.getElem_toArray, List.getElem_cons_succ, List.getElem_cons_zero, Act.put, List.setIfInBounds_toArray, List.set_cons_zero, List.set_cons_succ]
        refine wpAnyH_take (i := 27) (v := ?_) rfl (by kernel_rfl) (by kernel_rfl) (by kernel_rfl) (fun _ _ _ h => h) (Or.inl ⟨by rfl, ?_⟩) (by assumption) ?_
        rotate_left
        · intro wq hSq
          go_simp
          try with_reducible rfl
        simp only [List.getElem_toArray, List.getElem_cons_succ, List.getElem_cons_zero, Act.put, List.setIfInBounds_toArray, List.set_cons_zero, List.set_cons_succ]
        refine wpAnyH_take (i := 28) (v := ?_) rfl (by kernel_rfl) (by kernel_rfl) (by kernel_rfl) (fun _ _ _ h => h) (Or.inl ⟨by rfl, ?_⟩) (by assumption) ?_
        rotate_left
        · intro wq hSq
          go_simp
          try with_reducible rfl
        simp only [List.getElem_toArray, List.getElem_cons_succ, List.getElem_cons_zero, Act.put, List.setIfInBounds_toArray, List.set_cons_zero, List.set_cons_succ]
        refine wpAnyH_take (i := 29) (v := ?_) rfl (by kernel_rfl) (by kernel_rfl) (by kernel_rfl) (fun _ _ _ h => h) (Or.inl ⟨by rfl, ?_⟩) (by assumption) ?_
        rotate_left
        · intro wq hSq
          go_simp
          try with_reducible rfl
        simp only [List.getElem_toArray, List.getElem_cons_succ, List.getElem_cons_zero, Act.put, List.setIfInBounds_toArray, List.set_cons_zero, List.set_cons_succ]
        refine wpAnyH_take (i := 30) (v := ?_) rfl (by kernel_rfl) (by kernel_rfl) (by kernel_rfl) (fun _ _ _ h => h) (Or.inl ⟨by rfl, ?_⟩) (by assumption) ?_
        rotate_left
        · intro wq hSq
          go_simp
          try with_reducible rfl
        simp only [List.getElem_toArray, List.getElem_cons_succ, List.getElem_cons_zero, Act.put, List.setIfInBounds_toArray, List.set_cons_zero, List.set_cons_succ]
        refine wpAnyH_take (i := 33) (v := ?_) rfl (by kernel_rfl) (by kernel_rfl) (by kernel_rfl) (fun _ _ _ h => h) (Or.inl ⟨by rfl, ?_⟩) (by assumption) ?_
        rotate_left
        · intro wq hSq
          go_simp
          try with_reducible rfl
        simp only [List.getElem_toArray, List.getElem_cons_succ, List.getElem_cons_zero, Act.put, List.setIfInBounds_toArray, List.set_cons_zero, List.set_cons_succ]
        refine wpAnyH_take (i := 34) (v := ?_) rfl (by kernel_rfl) (by kernel_rfl) (by kernel_rfl) (fun _ _ _ h => h) (Or.inl ⟨by rfl, ?_⟩) (by assumption) ?_
        rotate_left
        · intro wq hSq
          go_simp
          try with_reducible rfl
        simp only [List.getElem_toArray, List.getElem_cons_succ, List.getElem_cons_zero, Act.put, List.setIfInBounds_toArray, List.set_cons_zero, List.set_cons_succ]
        refine wpAnyH_take (i := 35) (v := ?_) rfl (by kernel_rfl) (by kernel_rfl) (by kernel_rfl) (fun _ _ _ h => h) (Or.inl ⟨by rfl, ?_⟩) (by assumption) ?_
        rotate_left
        · intro wq hSq
          go_simp
          try with_reducible rfl
        simp only [List.getElem_toArray, List.getElem_cons_succ, List.getElem_cons_zero, Act.put, List.setIfInBounds_toArray, List.set_cons_zero, List.set_cons_succ]
        refine wpAnyH_take (i := 36) (v := ?_) rfl (by kernel_rfl) (by kernel_rfl) (by kernel_rfl) (fun _ _ _ h => h) (Or.inl ⟨by rfl, ?_⟩) (by assumption) ?_
        rotate_left
        · intro wq hSq
          go_simp
          try with_reducible rfl
        simp only [List.getElem_toArray, List.getElem_cons_succ, List.getElem_cons_zero, Act.put, List.setIfInBounds_toArray, List.set_cons_zero, List.set_cons_succ]
        refine wpAnyH_take (i := 37) (v := ?_) rfl (by kernel_rfl) (by kernel_rfl) (by kernel_rfl) (fun _ _ _ h => h) (Or.inl ⟨by rfl, ?_⟩) (by assumption) ?_
        rotate_left
        · intro wq hSq
          go_simp
          try with_reducible rfl
        simp only [List.getElem_toArray, List.getElem_cons_succ, List.getElem_cons_zero, Act.put, List.setIfInBounds_toArray, List.set_cons_zero, List.set_cons_succ]
        refine wpAnyH_take (i := 38) (v := ?_) rfl (by kernel_rfl) (by kernel_rfl) (by kernel_rfl) (fun _ _ _ h => h) (Or.inl ⟨by rfl, ?_⟩) (by assumption) ?_
        rotate_left
        · intro wq hSq
          go_simp
          try with_reducible rfl
        simp only [List.getElem_toArray, List.getElem_cons_succ, List.getElem_cons_zero, Act.put, List.setIfInBounds_toArray, List.set_cons_zero, List.set_cons_succ]
        refine wpAnyH_take (i := 39) (v := ?_) rfl (by kernel_rfl) (by kernel_rfl) (by kernel_rfl) (fun _ _ _ h => h) (Or.inl ⟨by rfl, ?_⟩) (by assumption) ?_
        rotate_left
        · intro wq hSq
          go_simp
          try with_reducible rfl
        simp only [List.getElem_toArray, List.getElem_cons_succ, List.getElem_cons_zero, Act.put, List.setIfInBounds_toArray, List.set_cons_zero, List.set_cons_succ]
        refine wpAnyH_take (i := 40) (v := ?_) rfl (by kernel_rfl) (by kernel_rfl) (by kernel_rfl) (fun _ _ _ h => h) (Or.inl ⟨by rfl, ?_⟩) (by assumption) ?_
        rotate_left
        · intro wq hSq
          go_simp
          try with_reducible rfl
        simp only [List.getElem_toArray, List.getElem_cons_succ, List.getElem_cons_zero, Act.put, List.setIfInBounds_toArray, List.set_cons_zero, List.set_cons_succ]
        refine wpAnyH_take (i := 41) (v := ?_) rfl (by kernel_rfl) (by kernel_rfl) (by kernel_rfl) (fun _ _ _ h => h) (Or.inl ⟨by rfl, ?_⟩) (by assumption) ?_
        rotate_left
        · intro wq hSq
          go_simp
          try with_reducible rfl
        simp only [List.getElem_toArray, List.getElem_cons_succ, List.getElem_cons_zero, Act.put, List.setIfInBounds_toArray, List.set_cons_zero, List.set_cons_succ]
        refine wpAnyH_take (i := 42) (v := ?_) rfl (by kernel_rfl) (by kernel_rfl) (by kernel_rfl) (fun _ _ _ h => h) (Or.inl ⟨by rfl, ?_⟩) (by assumption) ?_
        rotate_left
        · intro wq hSq
          go_simp
          try with_reducible rfl
        simp only [List.getElem_toArray, List.getElem_cons_succ, List.getElem_cons_zero, Act.put, List.setIfInBounds_toArray, List.set_cons_zero, List.set_cons_succ]
        refine' mk_rest (U := U) (fun REST3 => ?_) ?_
        rotate_left
        · skip
          refine wpAnyH_ready (rs := [31, 43]) (by kernel_rfl) (by simp) ?_
          refine AllReadyH.cons rfl (fun Kq hKq => ?_) (AllReadyH.cons rfl (fun Kq hKq => ?_) AllReadyH.nil)
          · go_simp
            refine hKq.out _ _ (below_al hW2 _) (fun hHeld => ?_)
            clear hKq Kq hHeld
            refine wpAnyH_ready (rs := [32, 43]) (by kernel_rfl) (by simp) ?_
            refine AllReadyH.cons rfl (fun Kq hKq => ?_) (AllReadyH.cons rfl (fun Kq hKq => ?_) AllReadyH.nil)
            · go_simp
              refine (M1.out (W2.alloc (.cells #[.slice (cutG a c lo) (n - lo) (c - lo)] 22)) W2.heap.size (below_al hW2 _) (Blk.new W2 _ _ _ rfl rfl)).mono ?_
              rintro e w4 ⟨rfl, hw4, bw4⟩
              refine hKq.out _ _ hw4 (fun hHeld => ?_)
              clear hKq Kq hHeld
              refine wpAnyH_ready (rs := [43]) (by kernel_rfl) (by simp) ?_
              refine AllReadyH.cons rfl (fun Kq hKq => ?_) AllReadyH.nil
              go_simp
              refine hKq.out _ _ (below_al hw4 _) (fun hHeld => ?_)
              clear hKq Kq hHeld
              refine wpAnyH_ready (rs := [44]) (by kernel_rfl) (by simp) ?_
              refine AllReadyH.cons rfl (fun Kq hKq => ?_) AllReadyH.nil
              go_simp
              refine (M3.out (w4.alloc (.cells #[.slice (cutG a c lo) (hi' - lo) (c - lo), .slice none 0 0, .slice (cutG a c hi') (n - hi') (c - hi')] 22)) w4.heap.size (below_al hw4 _) (Blk.new w4 _ _ _ rfl rfl)).mono ?_
              rintro e w5 ⟨rfl, hw5, bw5⟩
              refine hKq.out _ _ hw5 (fun hHeld => ?_)
              clear hKq Kq hHeld
              generalize (Value.slice (some ⟨W2.heap.size, 0, none⟩) 1 1) = x
              generalize (Value.slice (some ⟨w4.heap.size, 0, none⟩) 3 3) = y
              exact REST3.out w5 x y hw5
            · go_simp
              refine hKq.out _ _ (below_al (below_al hW2 _) _) (fun hHeld => ?_)
              clear hKq Kq hHeld
              refine wpAnyH_ready (rs := [32]) (by kernel_rfl) (by simp) ?_
              refine AllReadyH.cons rfl (fun Kq hKq => ?_) AllReadyH.nil
              go_simp
              refine (M1.out ((W2.alloc (.cells #[.slice (cutG a c lo) (n - lo) (c - lo)] 22)).alloc (.cells #[.slice (cutG a c lo) (hi' - lo) (c - lo), .slice none 0 0, .slice (cutG a c hi') (n - hi') (c - hi')] 22)) W2.heap.size (below_al (below_al hW2 _) _) ((Blk.new W2 _ _ _ rfl rfl).alloc _)).mono ?_
              rintro e w4 ⟨rfl, hw4, bw4⟩
              refine hKq.out _ _ hw4 (fun hHeld => ?_)
              clear hKq Kq hHeld
              refine wpAnyH_ready (rs := [44]) (by kernel_rfl) (by simp) ?_
              refine AllReadyH.cons rfl (fun Kq hKq => ?_) AllReadyH.nil
              go_simp
              refine (M3.out w4 (W2.heap.size + 1) hw4 (Blk.below (Blk.new (W2.alloc (.cells #[.slice (cutG a c lo) (n - lo) (c - lo)] 22)) _ _ _ rfl (by simp)) bw4)).mono ?_
              rintro e w5 ⟨rfl, hw5, bw5⟩
              refine hKq.out _ _ hw5 (fun hHeld => ?_)
              clear hKq Kq hHeld
              exact REST3.out w5 _ _ hw5
          · go_simp
            refine hKq.out _ _ (below_al hW2 _) (fun hHeld => ?_)
            clear hKq Kq hHeld
            refine wpAnyH_ready (rs := [31]) (by kernel_rfl) (by simp) ?_
            refine AllReadyH.cons rfl (fun Kq hKq => ?_) AllReadyH.nil
            go_simp
            refine hKq.out _ _ (below_al (below_al hW2 _) _) (fun hHeld => ?_)
            clear hKq Kq hHeld
            refine wpAnyH_ready (rs := [32]) (by kernel_rfl) (by simp) ?_
            refine AllReadyH.cons rfl (fun Kq hKq => ?_) AllReadyH.nil
            go_simp
            refine (M1.out ((W2.alloc (.cells #[.slice (cutG a c lo) (hi' - lo) (c - lo), .slice none 0 0, .slice (cutG a c hi') (n - hi') (c - hi')] 22)).alloc (.cells #[.slice (cutG a c lo) (n - lo) (c - lo)] 22)) (W2.heap.size + 1) (below_al (below_al hW2 _) _) (Blk.new (W2.alloc (.cells #[.slice (cutG a c lo) (hi' - lo) (c - lo), .slice none 0 0, .slice (cutG a c hi') (n - hi') (c - hi')] 22)) _ _ _ rfl (by simp))).mono ?_
            rintro e w4 ⟨rfl, hw4, bw4⟩
            refine hKq.out _ _ hw4 (fun hHeld => ?_)
            clear hKq Kq hHeld
            refine wpAnyH_ready (rs := [44]) (by kernel_rfl) (by simp) ?_
            refine AllReadyH.cons rfl (fun Kq hKq => ?_) AllReadyH.nil
            go_simp
            refine (M3.out w4 W2.heap.size hw4 (Blk.below ((Blk.new W2 _ _ _ rfl rfl).alloc _) bw4)).mono ?_
            rintro e w5 ⟨rfl, hw5, bw5⟩
            refine hKq.out _ _ hw5 (fun hHeld => ?_)
            clear hKq Kq hHeld
            exact REST3.out w5 _ _ hw5
        · intro W3 x3 y3 hW3
          refine wpAnyH_take (i := 45) (v := ?_) rfl (by kernel_rfl) (by kernel_rfl) (by kernel_rfl) (fun _ _ _ h => h) (Or.inl ⟨by rfl, ?_⟩) (by assumption) ?_
          rotate_left
          · intro wq hSq
            go_simp
            try with_reducible rfl
          simp only [List.getElem_toArray, List.getElem_cons_succ, List.getElem_cons_zero, Act.put, List.setIfInBounds_toArray, List.set_cons_zero, List.set_cons_succ]
          refine wpAnyH_take (i := 46) (v := ?_) rfl (by kernel_rfl) (by kernel_rfl) (by kernel_rfl) (fun _ _ _ h => h) (Or.inl ⟨by rfl, ?_⟩) (by assumption) ?_
          rotate_left
          · intro wq hSq
            go_simp
            try with_reducible rfl
          simp only [List.getElem_toArray, List.getElem_cons_succ, List.getElem_cons_zero, Act.put, List.setIfInBounds_toArray, List.set_cons_zero, List.set_cons_succ]
          refine wpAnyH_take (i := 47) (v := ?_) rfl (by kernel_rfl) (by kernel_rfl) (by kernel_rfl) (fun _ _ _ h => h) (Or.inl ⟨by rfl, ?_⟩) (by assumption) ?_
          rotate_left
          · intro wq hSq
            go_simp
            try with_reducible rfl
          simp only [List.getElem_toArray, List.getElem_cons_succ, List.getElem_cons_zero, Act.put, List.setIfInBounds_toArray, List.set_cons_zero, List.set_cons_succ]
          refine wpAnyH_ready (rs := [48]) (by kernel_rfl) (by simp) ?_
          refine AllReadyH.cons rfl (fun Kq hKq => ?_) AllReadyH.nil
          go_simp
          refine (CW.out W3 hW3).mono ?_
          rintro e w6 ⟨rfl, hw6, bw6⟩
          refine hKq.out _ _ hw6 (fun hHeld => ?_)
          clear hKq Kq hHeld
          refine wpAnyH_take (i := 49) (v := ?_) rfl (by kernel_rfl) (by kernel_rfl) (by kernel_rfl) (fun _ _ _ h => h) (Or.inl ⟨by rfl, ?_⟩) (by assumption) ?_
          rotate_left
          · intro wq hSq
            go_simp
            try with_reducible rfl
          simp only [List.getElem_toArray, List.getElem_cons_succ, List.getElem_cons_zero, Act.put, List.setIfInBounds_toArray, List.set_cons_zero, List.set_cons_succ]
          refine wpAnyH_take (i := 50) (v := ?_) rfl (by kernel_rfl) (by kernel_rfl) (by kernel_rfl) (fun _ _ _ h => h) (Or.inl ⟨by rfl, ?_⟩) (by assumption) ?_
          rotate_left
          · intro wq hSq
            go_simp
            try with_reducible rfl
          simp only [List.getElem_toArray, List.getElem_cons_succ, List.getElem_cons_zero, Act.put, List.setIfInBounds_toArray, List.set_cons_zero, List.set_cons_succ]
          refine wpAnyH_done (by kernel_rfl) ?_ _
          go_wp2
          go_ret
          exact ⟨rfl, HW3.out.trans (hw6.mono HW3.out.size)⟩

end Go.Proofs.YtfajdcomjcoclaaDoor
