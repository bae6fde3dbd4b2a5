/-
  The document's character: how many bytes the character has that begins at a place.
-/
import Derived.Test.YtklchpdpooikdaaGreatDoorXLentToTxV1
namespace Go.Proofs.YtklchpdpooikdaaGreatDoor
open Go.RowKit Go.IntWalk

theorem bt_one (l : List UInt8) (k : Nat) : bt (l.drop 1) k = bt l (k + 1) := by unfold bt; rw [List.getD_eq_getElem?_getD, List.getD_eq_getElem?_getD, List.getElem?_drop, Nat.add_comm]
theorem ct_one (l : List UInt8) (k : Nat) : ct (l.drop 1) k = ct l (k + 1) := by
  unfold ct
  rw [bt_one, List.length_drop]
  congr 1
  exact decide_eq_decide.2 (by omega)

theorem mores_1 (l : List UInt8) : mores (l.drop 1) 1 = ct l 1 := by unfold mores mores; rw [ct_one]; rfl
theorem mores_2 (l : List UInt8) : mores (l.drop 1) 2 = (ct l 1 && ct l 2) := by unfold mores; rw [mores_1, ct_one]
theorem mores_3 (l : List UInt8) : mores (l.drop 1) 3 = ((ct l 1 && ct l 2) && ct l 3) := by unfold mores; rw [mores_2, ct_one]

/-- A character's number, so far. -/
def vAt (l : List UInt8) (v : Int) : Nat → Int
  | 0 => v
  | k + 1 => 64 * vAt l v k + (bt l (k + 1) : Int) - 128

theorem vAt_in (l : List UInt8) (v : Int) (h0 : 0 ≤ v) (h1 : v ≤ 31) : ∀ (k : Nat), k ≤ 3 → (∀ j, j < k → ct l (j + 1) = true) → 0 ≤ vAt l v k ∧ vAt l v k ≤ 16777215
  | 0, _, _ => by simp [vAt]; omega
  | 1, _, hc => by have a1 := ((ct_iff _ _).1 (hc 0 (by omega))).2; simp only [vAt]; simp only [Nat.zero_add] at *; omega
  | 2, _, hc => by have a1 := ((ct_iff _ _).1 (hc 0 (by omega))).2; have a2 := ((ct_iff _ _).1 (hc 1 (by omega))).2; simp only [vAt]; simp only [Nat.zero_add, Nat.reduceAdd] at *; omega
  | 3, _, hc => by
    have a1 := ((ct_iff _ _).1 (hc 0 (by omega))).2; have a2 := ((ct_iff _ _).1 (hc 1 (by omega))).2; have a3 := ((ct_iff _ _).1 (hc 2 (by omega))).2
    simp only [vAt]; simp only [Nat.zero_add, Nat.reduceAdd] at *; omega
  | k + 4, h, _ => by omega

/-- Is a number none of a character of so many bytes? -/
def noV (least v : Int) : Prop := v < least ∨ 1114111 < v ∨ (55296 ≤ v ∧ v ≤ 57343)

theorem charL_1 (l : List UInt8) (h : bt l 0 < 128) : charL l = 1 := by unfold charL; rw [if_pos h]
theorem charL_0 (l : List UInt8) (h : 128 ≤ bt l 0) (h2 : bt l 0 < 192 ∨ 247 < bt l 0) : charL l = 0 := by
  have := bt_lt l 0
  unfold charL
  rw [if_neg (by omega), if_neg (by omega), if_neg (by omega), if_neg (by omega)]
theorem charL_2 (l : List UInt8) (h : 192 ≤ bt l 0) (h2 : bt l 0 < 224) :
    (ct l 1 = false → charL l = 0) ∧ (ct l 1 = true → (noV 128 (vAt l ((bt l 0 : Int) - 192) 1) → charL l = 0) ∧ (¬ noV 128 (vAt l ((bt l 0 : Int) - 192) 1) → charL l = 2)) := by
  have g1 := bt_lt l 1
  refine ⟨fun hc => ?_, fun hc => ?_⟩
  · unfold charL
    rw [if_neg (by omega), if_neg (by rw [hc]; simp), if_neg (by omega), if_neg (by omega)]
  · have q := ((ct_iff _ _).1 hc).2
    unfold charL noV
    rw [if_neg (by omega), if_pos ⟨by omega, hc⟩]
    simp only [vAt, Nat.zero_add]
    constructor
    · intro h; rw [if_neg (by omega)]
    · intro h; rw [if_pos (by omega)]
theorem charL_3 (l : List UInt8) (h : 224 ≤ bt l 0) (h2 : bt l 0 < 240) :
    (ct l 1 = false ∨ ct l 2 = false → charL l = 0) ∧ (ct l 1 = true → ct l 2 = true → (noV 2048 (vAt l ((bt l 0 : Int) - 224) 2) → charL l = 0) ∧ (¬ noV 2048 (vAt l ((bt l 0 : Int) - 224) 2) → charL l = 3)) := by
  have g1 := bt_lt l 1
  have g2 := bt_lt l 2
  refine ⟨fun hc => ?_, fun hc hd => ?_⟩
  · unfold charL
    rw [if_neg (by omega), if_neg (by omega), if_neg (by rcases hc with hc | hc <;> rw [hc] <;> simp), if_neg (by omega)]
  · have q := ((ct_iff _ _).1 hc).2
    have q2 := ((ct_iff _ _).1 hd).2
    unfold charL noV
    rw [if_neg (by omega), if_neg (by omega), if_pos ⟨by omega, hc, hd⟩]
    simp only [vAt, Nat.zero_add, Nat.reduceAdd]
    constructor
    · intro h; rw [if_neg (by omega)]
    · intro h; rw [if_pos (by omega)]
theorem charL_4 (l : List UInt8) (h : 240 ≤ bt l 0) (h2 : bt l 0 ≤ 247) :
    (ct l 1 = false ∨ ct l 2 = false ∨ ct l 3 = false → charL l = 0) ∧ (ct l 1 = true → ct l 2 = true → ct l 3 = true → (noV 65536 (vAt l ((bt l 0 : Int) - 240) 3) → charL l = 0) ∧ (¬ noV 65536 (vAt l ((bt l 0 : Int) - 240) 3) → charL l = 4)) := by
  have g1 := bt_lt l 1
  have g2 := bt_lt l 2
  have g3 := bt_lt l 3
  refine ⟨fun hc => ?_, fun hc hd he => ?_⟩
  · unfold charL
    rw [if_neg (by omega), if_neg (by omega), if_neg (by omega), if_neg (by rcases hc with hc | hc | hc <;> rw [hc] <;> simp)]
  · have q := ((ct_iff _ _).1 hc).2
    have q2 := ((ct_iff _ _).1 hd).2
    have q3 := ((ct_iff _ _).1 he).2
    unfold charL noV
    rw [if_neg (by omega), if_neg (by omega), if_neg (by omega), if_pos ⟨by omega, hc, hd, he⟩]
    simp only [vAt, Nat.zero_add, Nat.reduceAdd]
    constructor
    · intro h; rw [if_neg (by omega)]
    · intro h; rw [if_pos (by omega)]


set_option maxRecDepth 100000 in
set_option maxHeartbeats 2000000 in
theorem character_any (s : ByteArray) (a : Nat) (hs : s.size ≤ 140737488355328) (ha : a < s.size) (w : World) :
    Calls Tryz.prog 175 #[.string s, .int .i64 a] w fun e w' => e = .returned (.int .i64 (charL (s.data.toList.drop a))) ∧ w' = w := by
  have hB := hide (byte_at s a)
  have hL := hide (len_at s a)
  obtain ⟨l, hl⟩ : ∃ l, s.data.toList.drop a = l := ⟨_, rfl⟩
  rw [hl] at hB hL ⊢
  have h0 : (s[a]'ha).toNat = bt l 0 := hB.out 0 ha
  have g0 := bt_lt l 0
  by_cases c1 : bt l 0 < 128
  · have C := hide (charL_1 l c1)
    go_enter Tryz.func175, Tryz.ntmps175
    go_wp2
    go_ret
    exact ⟨by rw [C.out]; rfl, rfl⟩
  by_cases c2 : bt l 0 < 192
  · have C := hide (charL_0 l (by omega) (.inl c2))
    go_enter Tryz.func175, Tryz.ntmps175
    go_wp2
    go_ret
    exact ⟨by rw [C.out]; rfl, rfl⟩
  by_cases c3 : 247 < bt l 0
  · have C := hide (charL_0 l (by omega) (.inr c3))
    go_enter Tryz.func175, Tryz.ntmps175
    go_wp2
    go_ret
    exact ⟨by rw [C.out]; rfl, rfl⟩
  by_cases c4 : bt l 0 < 224
  · have C := hide (charL_2 l (by omega) c4)
    -- 1: how many go on; 192: what the first byte stands on; 128: the least number
    have mm := hide (fun W => more_any s (a + 1) 1 (by omega) hs (by omega) W)
    have eL : s.data.toList.drop (a + 1) = l.drop 1 := by rw [← hl, List.drop_drop]
    rw [eL] at mm
    have eC : ((a + 1 : Nat) : Int) = (a : Int) + 1 := by omega
    rw [eC] at mm
    have eN : (((1 : Nat)) : Int) = 1 := rfl
    rw [eN] at mm
    clear eL eC eN
    generalize hM : mores (l.drop 1) 1 = M at mm
    go_enter Tryz.func175, Tryz.ntmps175
    cases M with
    | false =>
      have hz : Hid (charL l = 0) := by
        refine C.out.1 ?_
        rw [mores_1] at hM
        exact hM
      clear hM
      go_wp2_with (go_at_call 187; refine (mm.out _).mono ?_; rintro e w' ⟨rfl, rfl⟩)
      go_ret
      exact ⟨by rw [hz.out]; rfl, rfl⟩
    | true =>
      have hy : Hid (∀ j, j < 1 → ct l (j + 1) = true) := by
        unfold Hid
        intro j hj
        rw [mores_1] at hM
        (obtain rfl : j = 0 := by omega); exact hM
      clear hM
      have V := hide (vAt_in l ((bt l 0 : Int) - 192) (by omega) (by omega))
      go_wp2_with (go_at_call 187; refine (mm.out _).mono ?_; rintro e w' ⟨rfl, rfl⟩)
      go_loop [8, 7] (fun i v => ∃ k : Nat, i = .int .i64 ((k : Int) + 1) ∧ k ≤ 1 ∧ v = .int .i64 (vAt l ((bt l 0 : Int) - 192) k)) (fun i _ => 1 + 1 - (intOf i).toNat)
      case atStart => exact ⟨0, rfl, by omega, rfl⟩
      case round =>
        obtain ⟨k, rfl, hk, rfl⟩ := hrel
        by_cases hlt : k < 1
        · have hc := ((ct_iff _ _).1 (hy.out k hlt))
          have hV := V.out k (by omega) (fun j hj => hy.out j (by omega))
          have hsz : a + (k + 1) < s.size := by have := hL.out; omega
          have hb1 : (s[a + (k + 1)]'hsz).toNat = bt l (k + 1) := hB.out (k + 1) hsz
          have e1 : ((a : Int) + ((k : Int) + 1)).toNat = a + (k + 1) := by omega
          have q1 := hc.2
          clear hc
          have hnx : Hid (64 * vAt l ((bt l 0 : Int) - 192) k + (bt l (k + 1) : Int) - 128 = vAt l ((bt l 0 : Int) - 192) (k + 1)) := rfl
          generalize vAt l ((bt l 0 : Int) - 192) k = X at hnx hV
          go_wp2
          all_goals first
            | exact ⟨⟨k + 1, by simp, by omega, by rw [← hnx.out]⟩, by simp [intOf]; omega⟩
        · obtain rfl : k = 1 := by omega
          have D := hide (C.out.2 (hy.out 0 (by omega)))
          unfold noV at D
          generalize vAt l ((bt l 0 : Int) - 192) 1 = X at D
          clear C
          go_wp2
          all_goals go_ret
          all_goals refine ⟨?_, rfl⟩
          all_goals first
            | (rw [D.out.1 (by omega)]; rfl)
            | (rw [D.out.2 (by omega)]; rfl)
  by_cases c5 : bt l 0 < 240
  · have C := hide (charL_3 l (by omega) c5)
    -- 2: how many go on; 224: what the first byte stands on; 2048: the least number
    have mm := hide (fun W => more_any s (a + 1) 2 (by omega) hs (by omega) W)
    have eL : s.data.toList.drop (a + 1) = l.drop 1 := by rw [← hl, List.drop_drop]
    rw [eL] at mm
    have eC : ((a + 1 : Nat) : Int) = (a : Int) + 1 := by omega
    rw [eC] at mm
    have eN : (((2 : Nat)) : Int) = 2 := rfl
    rw [eN] at mm
    clear eL eC eN
    generalize hM : mores (l.drop 1) 2 = M at mm
    go_enter Tryz.func175, Tryz.ntmps175
    cases M with
    | false =>
      have hz : Hid (charL l = 0) := by
        refine C.out.1 ?_
        rw [mores_2] at hM
        exact Bool.and_eq_false_iff.1 hM
      clear hM
      go_wp2_with (go_at_call 187; refine (mm.out _).mono ?_; rintro e w' ⟨rfl, rfl⟩)
      go_ret
      exact ⟨by rw [hz.out]; rfl, rfl⟩
    | true =>
      have hy : Hid (∀ j, j < 2 → ct l (j + 1) = true) := by
        unfold Hid
        intro j hj
        rw [mores_2] at hM
        rw [Bool.and_eq_true] at hM; rcases (by omega : j = 0 ∨ j = 1) with rfl | rfl <;> first | exact hM.1 | exact hM.2
      clear hM
      have V := hide (vAt_in l ((bt l 0 : Int) - 224) (by omega) (by omega))
      go_wp2_with (go_at_call 187; refine (mm.out _).mono ?_; rintro e w' ⟨rfl, rfl⟩)
      go_loop [8, 7] (fun i v => ∃ k : Nat, i = .int .i64 ((k : Int) + 1) ∧ k ≤ 2 ∧ v = .int .i64 (vAt l ((bt l 0 : Int) - 224) k)) (fun i _ => 2 + 1 - (intOf i).toNat)
      case atStart => exact ⟨0, rfl, by omega, rfl⟩
      case round =>
        obtain ⟨k, rfl, hk, rfl⟩ := hrel
        by_cases hlt : k < 2
        · have hc := ((ct_iff _ _).1 (hy.out k hlt))
          have hV := V.out k (by omega) (fun j hj => hy.out j (by omega))
          have hsz : a + (k + 1) < s.size := by have := hL.out; omega
          have hb1 : (s[a + (k + 1)]'hsz).toNat = bt l (k + 1) := hB.out (k + 1) hsz
          have e1 : ((a : Int) + ((k : Int) + 1)).toNat = a + (k + 1) := by omega
          have q1 := hc.2
          clear hc
          have hnx : Hid (64 * vAt l ((bt l 0 : Int) - 224) k + (bt l (k + 1) : Int) - 128 = vAt l ((bt l 0 : Int) - 224) (k + 1)) := rfl
          generalize vAt l ((bt l 0 : Int) - 224) k = X at hnx hV
          go_wp2
          all_goals first
            | exact ⟨⟨k + 1, by simp, by omega, by rw [← hnx.out]⟩, by simp [intOf]; omega⟩
        · obtain rfl : k = 2 := by omega
          have D := hide (C.out.2 (hy.out 0 (by omega)) (hy.out 1 (by omega)))
          unfold noV at D
          generalize vAt l ((bt l 0 : Int) - 224) 2 = X at D
          clear C
          go_wp2
          all_goals go_ret
          all_goals refine ⟨?_, rfl⟩
          all_goals first
            | (rw [D.out.1 (by omega)]; rfl)
            | (rw [D.out.2 (by omega)]; rfl)
  · have C := hide (charL_4 l (by omega) (by omega))
    -- 3: how many go on; 240: what the first byte stands on; 65536: the least number
    have mm := hide (fun W => more_any s (a + 1) 3 (by omega) hs (by omega) W)
    have eL : s.data.toList.drop (a + 1) = l.drop 1 := by rw [← hl, List.drop_drop]
    rw [eL] at mm
    have eC : ((a + 1 : Nat) : Int) = (a : Int) + 1 := by omega
    rw [eC] at mm
    have eN : (((3 : Nat)) : Int) = 3 := rfl
    rw [eN] at mm
    clear eL eC eN
    generalize hM : mores (l.drop 1) 3 = M at mm
    go_enter Tryz.func175, Tryz.ntmps175
    cases M with
    | false =>
      have hz : Hid (charL l = 0) := by
        refine C.out.1 ?_
        rw [mores_3] at hM
        (rw [Bool.and_eq_false_iff, Bool.and_eq_false_iff] at hM; rcases hM with (hM | hM) | hM <;> first | exact .inl hM | exact .inr (.inl hM) | exact .inr (.inr hM))
      clear hM
      go_wp2_with (go_at_call 187; refine (mm.out _).mono ?_; rintro e w' ⟨rfl, rfl⟩)
      go_ret
      exact ⟨by rw [hz.out]; rfl, rfl⟩
    | true =>
      have hy : Hid (∀ j, j < 3 → ct l (j + 1) = true) := by
        unfold Hid
        intro j hj
        rw [mores_3] at hM
        rw [Bool.and_eq_true, Bool.and_eq_true] at hM; rcases (by omega : j = 0 ∨ j = 1 ∨ j = 2) with rfl | rfl | rfl <;> first | exact hM.1.1 | exact hM.1.2 | exact hM.2
      clear hM
      have V := hide (vAt_in l ((bt l 0 : Int) - 240) (by omega) (by omega))
      go_wp2_with (go_at_call 187; refine (mm.out _).mono ?_; rintro e w' ⟨rfl, rfl⟩)
      go_loop [8, 7] (fun i v => ∃ k : Nat, i = .int .i64 ((k : Int) + 1) ∧ k ≤ 3 ∧ v = .int .i64 (vAt l ((bt l 0 : Int) - 240) k)) (fun i _ => 3 + 1 - (intOf i).toNat)
      case atStart => exact ⟨0, rfl, by omega, rfl⟩
      case round =>
        obtain ⟨k, rfl, hk, rfl⟩ := hrel
        by_cases hlt : k < 3
        · have hc := ((ct_iff _ _).1 (hy.out k hlt))
          have hV := V.out k (by omega) (fun j hj => hy.out j (by omega))
          have hsz : a + (k + 1) < s.size := by have := hL.out; omega
          have hb1 : (s[a + (k + 1)]'hsz).toNat = bt l (k + 1) := hB.out (k + 1) hsz
          have e1 : ((a : Int) + ((k : Int) + 1)).toNat = a + (k + 1) := by omega
          have q1 := hc.2
          clear hc
          have hnx : Hid (64 * vAt l ((bt l 0 : Int) - 240) k + (bt l (k + 1) : Int) - 128 = vAt l ((bt l 0 : Int) - 240) (k + 1)) := rfl
          generalize vAt l ((bt l 0 : Int) - 240) k = X at hnx hV
          go_wp2
          all_goals first
            | exact ⟨⟨k + 1, by simp, by omega, by rw [← hnx.out]⟩, by simp [intOf]; omega⟩
        · obtain rfl : k = 3 := by omega
          have D := hide (C.out.2 (hy.out 0 (by omega)) (hy.out 1 (by omega)) (hy.out 2 (by omega)))
          unfold noV at D
          generalize vAt l ((bt l 0 : Int) - 240) 3 = X at D
          clear C
          go_wp2
          all_goals go_ret
          all_goals refine ⟨?_, rfl⟩
          all_goals first
            | (rw [D.out.1 (by omega)]; rfl)
            | (rw [D.out.2 (by omega)]; rfl)

end Go.Proofs.YtklchpdpooikdaaGreatDoor
