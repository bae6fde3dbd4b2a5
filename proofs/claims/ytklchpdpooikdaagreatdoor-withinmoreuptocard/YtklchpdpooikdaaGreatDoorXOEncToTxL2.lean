/-
  oid.Encode and the document's Encode lay the content of an object identifier (encS), or refuse.
  What is folded stays as it is folded again, and is not longer; blanks make no difference. No program.
  TextTwice and TextBlanks answer true, and write nothing that was there.
-/
import Derived.Test.YtklchpdpooikdaaGreatDoorXLenToRMay
import Derived.Test.YtklchpdpooikdaaGreatDoorXONum
import Derived.Deep.RegionHeld3
import Derived.Test.YtklchpdpooikdaaGreatDoorXTxW1ToTxF1
import Derived.Test.YtklchpdpooikdaaGreatDoorXTxL0ToPut
namespace Go.Proofs.YtklchpdpooikdaaGreatDoor
open Go.RowKit Go.IntWalk

/-- The content of an object identifier. -/
def encS (xs : List Int) : List Int := numB (40 * xs.getD 0 0 + xs.getD 1 0) ++ ((xs.drop 2).map numB).flatten
def encC (xs : List Int) : List Int := if mayS xs = true then encS xs else []
def encE (xs : List Int) : Int := if mayS xs = true then 0 else 2

theorem may_parts {xs : List Int} (h : mayS xs = true) : 2 ≤ xs.length ∧ xs.length ≤ 20 ∧ (∀ x ∈ xs, 0 ≤ x ∧ x ≤ 2147483647) ∧ pairB (xs.getD 0 0) (xs.getD 1 0) = true := by
  unfold mayS at h
  simp only [Bool.and_eq_true, decide_eq_true_eq, List.all_eq_true] at h
  obtain ⟨⟨⟨h1, h2⟩, h3⟩, h4⟩ := h
  refine ⟨h1, h2, fun x hx => ?_, h4⟩
  have := h3 x hx
  unfold arcB at this
  simpa using this

theorem first_in {xs : List Int} (h : mayS xs = true) : 0 ≤ 40 * xs.getD 0 0 + xs.getD 1 0 ∧ 40 * xs.getD 0 0 + xs.getD 1 0 ≤ 2147483647 ∧ 0 ≤ xs.getD 0 0 ∧ xs.getD 0 0 ≤ 2 ∧ 0 ≤ xs.getD 1 0 ∧ xs.getD 1 0 ≤ 2147483647 := by
  obtain ⟨h1, _, h3, h4⟩ := may_parts h
  have e0 : 0 ≤ xs.getD 0 0 ∧ xs.getD 0 0 ≤ 2147483647 := by
    rw [List.getD, List.getElem?_eq_getElem (show 0 < xs.length by omega)]; exact h3 _ (List.getElem_mem _)
  have e1 : 0 ≤ xs.getD 1 0 ∧ xs.getD 1 0 ≤ 2147483647 := by
    rw [List.getD, List.getElem?_eq_getElem (show 1 < xs.length by omega)]; exact h3 _ (List.getElem_mem _)
  unfold pairB at h4
  split at h4
  · have := of_decide_eq_true h4
    omega
  · split at h4
    · have := of_decide_eq_true h4
      omega
    · simp at h4

theorem flat_next (l : List Int) (k : Nat) (h : k < l.length) : ((l.take (k + 1)).map numB).flatten = ((l.take k).map numB).flatten ++ numB (l.getD k 0) := by
  rw [List.take_add_one, List.map_append, List.flatten_append]
  simp [List.getD, h]

theorem flat_len : ∀ l : List Int, ((l.map numB).flatten).length ≤ 5 * l.length
  | [] => by simp
  | x :: l => by
    have h1 := flat_len l
    have h2 := numB_len x
    have h3 := (sizeS_in x).2
    rw [List.map_cons, List.flatten_cons, List.length_append, List.length_cons]
    omega

theorem flat_byte (l : List Int) : ∀ x ∈ (l.map numB).flatten, 0 ≤ x ∧ x < 256 := by
  intro x hx
  rw [List.mem_flatten] at hx
  obtain ⟨ys, h1, h2⟩ := hx
  rw [List.mem_map] at h1
  obtain ⟨y, _, rfl⟩ := h1
  exact numB_byte y x h2

theorem encC_byte (xs : List Int) : ∀ x ∈ encC xs, 0 ≤ x ∧ x < 256 := by
  unfold encC encS
  split
  · intro x hx
    rcases List.mem_append.1 hx with hx | hx
    · exact numB_byte _ x hx
    · exact flat_byte _ x hx
  · simp

set_option maxRecDepth 100000 in
set_option maxHeartbeats 1000000 in
theorem encode_any (ao : Option Addr) (n cap : Nat) (xs : List Int) (w : World) (hs : SrcI w ao n cap xs) :
    Calls Tryz.prog 172 #[.slice ao n cap] w fun e w' => ∃ ao' c', e = .returned (.tuple #[.slice ao' (encC xs).length c', .int .i64 (encE xs)]) ∧ OwnB w' w.heap.size (.slice ao' (encC xs).length c') (encC xs) ∧ Below w.heap.size w w' := by
  have HL := hide hs.hlen
  have Hm := hide (mayI_any ao n cap xs w hs)
  cases hm : mayS xs with
  | false =>
    rw [hm] at Hm
    have e1 : encC xs = [] := by simp [encC, hm]
    have e2 : encE xs = 2 := by simp [encE, hm]
    rw [e1, e2]
    clear e1 e2 hm
    go_enter Tryz.func172, Tryz.ntmps172
    go_wp2_with fail
    refine Hm.out.mono ?_
    rintro e w1 ⟨rfl, hD⟩
    go_wp2
    refine bodyPost_ret (v := .tuple #[.slice none 0 0, .int .i64 2]) (by simp [results, Tryz.results172, go_sem]) rfl ⟨none, 0, rfl, OwnB.nil _ _, hD.toBelow _⟩
  | true =>
    rw [hm] at Hm
    have e1 : encC xs = encS xs := by simp [encC, hm]
    have e2 : encE xs = 0 := by simp [encE, hm]
    obtain ⟨p2, p20, pall, _⟩ := may_parts hm
    obtain ⟨f0, f1, f2, f3, f4, f5⟩ := first_in hm
    rw [e1, e2]
    clear e1 e2 hm
    have HP := hide pall
    rw [HL.out] at p2 p20
    obtain ⟨m, rfl⟩ : ∃ m, n = m + 2 := ⟨n - 2, by omega⟩
    obtain ⟨b, off, rfl, c0⟩ := hs.at 0 (by omega)
    obtain ⟨b', off', hbo, c1⟩ := hs.at 1 (by omega)
    simp at hbo
    obtain ⟨rfl, rfl⟩ := hbo
    rw [Nat.add_zero] at c0
    have ht := hs.cut 2 (m + 2) (by omega) (Nat.le_refl _)
    rw [List.take_of_length_le (by rw [HL.out]; exact Nat.le_refl _), Nat.add_sub_cancel] at ht
    have sl := fun W => sliceI_lo W (some ⟨b, off, none⟩) (m + 2) cap 2 2 rfl (by omega)
    simp only [Nat.add_sub_cancel] at sl
    generalize cutA (some ⟨b, off, none⟩) cap 2 = A at ht sl
    have hbl : b < w.heap.size := lt_of_cell c0
    have hE : Hid (encS xs = numB (40 * xs.getD 0 0 + xs.getD 1 0) ++ ((xs.drop 2).map numB).flatten) := rfl
    have hall2 : Hid (∀ x ∈ xs.drop 2, 0 ≤ x ∧ x ≤ 2147483647) := fun x hx => HP.out x (List.mem_of_mem_drop hx)
    have hl2 : Hid ((xs.drop 2).length = m) := ht.hlen
    generalize xs.drop 2 = ys at ht hE hall2 hl2
    generalize xs.getD 0 0 = x0 at *
    generalize xs.getD 1 0 = x1 at *
    have g1 : (1 : Int) < (m : Int) + 2 := by omega
    have g0 : (0 : Int) < (m : Int) + 2 := by omega
    have hm20 : (m : Int) ≤ 18 := by omega
    have gw : IntKind.i64.wrap (40 * x0) = 40 * x0 := i64_in _ (by omega)
    have gw2 : IntKind.i64.wrap (40 * x0 + x1) = 40 * x0 + x1 := i64_in _ (by omega)
    go_enter Tryz.func172, Tryz.ntmps172
    go_wp2_with fail
    refine Hm.out.mono ?_
    rintro e w1 ⟨rfl, hD⟩
    have d0 := (hD.cell ⟨b, off, none⟩).trans c0
    have d1 := (hD.cell ⟨b, off + 1, none⟩).trans c1
    have hbl1 : b < w1.heap.size := by rw [hD.heap]; exact hbl
    go_wp2_with fail
    go_region_held3 (fun W => W.cell? ⟨b, off, none⟩ = some (.int .i64 x0) ∧ W.cell? ⟨b, off + 1, none⟩ = some (.int .i64 x1)) (go_keep) (first | (go_at_call 184; refine (oput_any none 0 0 [] (40 * x0 + x1) w1.heap.size _ (OwnB.nil _ _) ?_ f0 (by omega) (by simp)).mono ?_; exact Nat.le_refl _; rintro e w2 ⟨aP, cP, rfl, oP, B2⟩; have k0 := (B2.cell (p := ⟨b, off, none⟩) hbl1).trans d0; have k1 := (B2.cell (p := ⟨b, off + 1, none⟩) hbl1).trans d1))
    rw [List.nil_append] at oP
    have hF5 : Hid ((numB (40 * x0 + x1)).length ≤ 5) := by unfold Hid; have h1 := numB_len (40 * x0 + x1); have h2 := (sizeS_in (40 * x0 + x1)).2; omega
    generalize numB (40 * x0 + x1) = F at *
    have B2' : Below w1.heap.size w1 w2 := (Drawn.more (Drawn.refl w1) 1).toBelow w1.heap.size |>.trans B2
    clear k0 k1 d0 d1
    go_wp2
    go_loopw [4, 6, 22] (fun v _ i wr => ∃ (k M : Nat) (aO : Option Addr) (cO : Nat), k ≤ m ∧ i = .int .i64 k ∧ v = .slice aO M cO ∧ OwnB wr w1.heap.size (.slice aO M cO) (F ++ ((ys.take k).map numB).flatten) ∧ Below w1.heap.size w1 wr) (fun _ _ i _ => m - (intOf i).toNat)
    case atStart => exact ⟨0, _, aP, cP, Nat.zero_le _, rfl, rfl, by simpa using oP, B2'⟩
    case round =>
      obtain ⟨k, M, aO, cO, hk, rfl, rfl, hO, hB⟩ := hrel
      have hBs := hB.size
      by_cases hlt : k < m
      · have st := (ht.heap hD.heap).below hB
        obtain ⟨b2, o2, hA, e1⟩ := st.at k hlt
        subst hA
        have hx : Hid (0 ≤ ys.getD k 0 ∧ ys.getD k 0 ≤ 2147483647) := by
          unfold Hid
          rw [List.getD, List.getElem?_eq_getElem (by rw [hl2.out]; exact hlt)]
          exact hall2.out _ (List.getElem_mem _)
        have hnx := hide (flat_next ys k (by rw [hl2.out]; exact hlt))
        have hfl : Hid ((F ++ ((ys.take k).map numB).flatten).length ≤ 1048576) := by
          unfold Hid
          have h1 := flat_len (ys.take k)
          have h2 := hF5.out
          rw [List.length_append]
          simp at h1 ⊢
          omega
        generalize ys.getD k 0 = x at e1 hx hnx
        have kI : (k : Int) < (m : Int) := by omega
        go_wp2_with (go_at_call 184; refine (oput_any aO M cO _ x w1.heap.size _ hO hBs hx.out.1 (by have := hx.out.2; omega) hfl.out).mono ?_; rintro e w3 ⟨aN, cN, rfl, oN, B3⟩; generalize (F ++ ((ys.take k).map numB).flatten ++ numB x).length = LN at oN ⊢)
        go_roundw
        case rel => exact ⟨k + 1, _, aN, cN, by omega, by go_num, rfl, by rw [hnx.out, ← List.append_assoc]; exact oN, hB.trans B3⟩
        case measure => simp [intOf]; omega
      · have kI : ¬ (k : Int) < (m : Int) := by omega
        have hfin : Hid (F ++ ((ys.take k).map numB).flatten = encS xs) := by
          unfold Hid
          rw [hE.out, List.take_of_length_le (by rw [hl2.out]; omega)]
        rw [hfin.out] at hO
        have hM : Hid ((encS xs).length = M) := by
          unfold Hid
          rcases hO.split with ⟨h1, h2⟩ | ⟨g, c, h1, _⟩
          · simp at h1; rw [h2]; exact h1.2.1.symm
          · simp at h1; exact h1.2.1.symm
        go_wp2
        refine bodyPost_ret (v := .tuple #[.slice aO M cO, .int .i64 0]) (by simp [results, Tryz.results172, go_sem]) rfl ⟨aO, cO, by rw [hM.out], by rw [hM.out]; exact hO.rebase (by rw [hD.heap]; exact Nat.le_refl _), (hD.toBelow _).trans (hB.mono (by rw [hD.heap]; exact Nat.le_refl _))⟩

set_option maxRecDepth 100000 in
set_option maxHeartbeats 1000000 in
theorem refEncode_any (ao : Option Addr) (n cap : Nat) (xs : List Int) (w : World) (hs : SrcI w ao n cap xs) :
    Calls Tryz.prog 92 #[.slice ao n cap] w fun e w' => ∃ ao' c', e = .returned (.tuple #[.slice ao' (encC xs).length c', .int .i64 (encE xs)]) ∧ OwnB w' w.heap.size (.slice ao' (encC xs).length c') (encC xs) ∧ Below w.heap.size w w' := by
  have HL := hide hs.hlen
  have Hm := hide (refMayI_any ao n cap xs w hs)
  cases hm : mayS xs with
  | false =>
    rw [hm] at Hm
    have e1 : encC xs = [] := by simp [encC, hm]
    have e2 : encE xs = 2 := by simp [encE, hm]
    rw [e1, e2]
    clear e1 e2 hm
    go_enter Tryz.func92, Tryz.ntmps92
    go_wp2_with fail
    refine Hm.out.mono ?_
    rintro e w1 ⟨rfl, hD⟩
    go_wp2
    refine bodyPost_ret (v := .tuple #[.slice none 0 0, .int .i64 2]) (by simp [results, Tryz.results92, go_sem]) rfl ⟨none, 0, rfl, OwnB.nil _ _, hD.toBelow _⟩
  | true =>
    rw [hm] at Hm
    have e1 : encC xs = encS xs := by simp [encC, hm]
    have e2 : encE xs = 0 := by simp [encE, hm]
    obtain ⟨p2, p20, pall, _⟩ := may_parts hm
    obtain ⟨f0, f1, f2, f3, f4, f5⟩ := first_in hm
    rw [e1, e2]
    clear e1 e2 hm
    have HP := hide pall
    rw [HL.out] at p2 p20
    obtain ⟨m, rfl⟩ : ∃ m, n = m + 2 := ⟨n - 2, by omega⟩
    obtain ⟨b, off, rfl, c0⟩ := hs.at 0 (by omega)
    obtain ⟨b', off', hbo, c1⟩ := hs.at 1 (by omega)
    simp at hbo
    obtain ⟨rfl, rfl⟩ := hbo
    rw [Nat.add_zero] at c0
    have HC : Hid (∀ k, k < m → w.cell? ⟨b, off + (2 + k), none⟩ = some (.int .i64 ((xs.drop 2).getD k 0))) := by
      intro k hk
      obtain ⟨b2, o2, he, hc⟩ := hs.at (2 + k) (by omega)
      simp at he
      obtain ⟨rfl, rfl⟩ := he
      rw [hc]
      simp [List.getD]
    have hbl : b < w.heap.size := lt_of_cell c0
    have hE : Hid (encS xs = numB (40 * xs.getD 0 0 + xs.getD 1 0) ++ ((xs.drop 2).map numB).flatten) := rfl
    have hall2 : Hid (∀ x ∈ xs.drop 2, 0 ≤ x ∧ x ≤ 2147483647) := fun x hx => HP.out x (List.mem_of_mem_drop hx)
    have hl2 : Hid ((xs.drop 2).length = m) := by unfold Hid; rw [List.length_drop, HL.out]; rfl
    generalize xs.drop 2 = ys at HC hE hall2 hl2
    generalize xs.getD 0 0 = x0 at *
    generalize xs.getD 1 0 = x1 at *
    have g1 : (1 : Int) < (m : Int) + 2 := by omega
    have g0 : (0 : Int) < (m : Int) + 2 := by omega
    have hm20 : (m : Int) ≤ 18 := by omega
    have gw : IntKind.i64.wrap (40 * x0) = 40 * x0 := i64_in _ (by omega)
    have gw2 : IntKind.i64.wrap (40 * x0 + x1) = 40 * x0 + x1 := i64_in _ (by omega)
    go_enter Tryz.func92, Tryz.ntmps92
    go_wp2_with fail
    refine Hm.out.mono ?_
    rintro e w1 ⟨rfl, hD⟩
    have d0 := (hD.cell ⟨b, off, none⟩).trans c0
    have d1 := (hD.cell ⟨b, off + 1, none⟩).trans c1
    have hbl1 : b < w1.heap.size := by rw [hD.heap]; exact hbl
    have HC1 : Hid (∀ k, k < m → w1.cell? ⟨b, off + (2 + k), none⟩ = some (.int .i64 (ys.getD k 0))) := fun k hk => (hD.cell _).trans (HC.out k hk)
    go_wp2_with fail
    go_region_held3 (fun W => W.cell? ⟨b, off, none⟩ = some (.int .i64 x0) ∧ W.cell? ⟨b, off + 1, none⟩ = some (.int .i64 x1)) (go_keep) (first | (go_at_call 130; refine (refNumber_any (40 * x0 + x1) f0 (by omega) _).mono ?_; rintro e w2 ⟨aP, cP, rfl, oP, B2⟩; have k0 := (B2.cell (p := ⟨b, off, none⟩) hbl1).trans d0; have k1 := (B2.cell (p := ⟨b, off + 1, none⟩) hbl1).trans d1))
    have hF5 : Hid ((numB (40 * x0 + x1)).length ≤ 5) := by unfold Hid; have h1 := numB_len (40 * x0 + x1); have h2 := (sizeS_in (40 * x0 + x1)).2; omega
    generalize numB (40 * x0 + x1) = F at *
    have B2' : Below w1.heap.size w1 w2 := (Drawn.more (Drawn.refl w1) 1).toBelow w1.heap.size |>.trans B2
    have oP : OwnB w2 w1.heap.size (.slice aP F.length cP) F := oP
    clear k0 k1 d0 d1
    go_wp2
    go_loopw [4, 5] (fun v i wr => ∃ (k M : Nat) (aO : Option Addr) (cO : Nat), k ≤ m ∧ i = .int .i64 (2 + (k : Int)) ∧ v = .slice aO M cO ∧ OwnB wr w1.heap.size (.slice aO M cO) (F ++ ((ys.take k).map numB).flatten) ∧ Below w1.heap.size w1 wr) (fun _ i _ => m + 2 - (intOf i).toNat)
    case atStart => exact ⟨0, _, aP, cP, Nat.zero_le _, rfl, rfl, by simpa using oP, B2'⟩
    case round =>
      obtain ⟨k, M, aO, cO, hk, rfl, rfl, hO, hB⟩ := hrel
      have hBs := hB.size
      by_cases hlt : k < m
      · have e1 := (hB.cell (p := ⟨b, off + (2 + k), none⟩) hbl1).trans (HC1.out k hlt)
        have hx : Hid (0 ≤ ys.getD k 0 ∧ ys.getD k 0 ≤ 2147483647) := by
          unfold Hid
          rw [List.getD, List.getElem?_eq_getElem (by rw [hl2.out]; exact hlt)]
          exact hall2.out _ (List.getElem_mem _)
        have hnx : Hid (F ++ ((ys.take (k + 1)).map numB).flatten = F ++ ((ys.take k).map numB).flatten ++ numB (ys.getD k 0)) := by unfold Hid; rw [flat_next ys k (by rw [hl2.out]; exact hlt), List.append_assoc]
        have hfl : Hid ((F ++ ((ys.take k).map numB).flatten).length ≤ 1000000) := by
          unfold Hid
          have h1 := flat_len (ys.take k)
          have h2 := hF5.out
          rw [List.length_append]
          simp at h1 ⊢
          omega
        generalize ys.getD k 0 = x at e1 hx hnx
        generalize F ++ ((ys.take k).map numB).flatten = G at hO hnx hfl
        have hnl : Hid ((numB x).length ≤ 5) := by unfold Hid; have h1 := numB_len x; have h2 := (sizeS_in x).2; omega
        have kI : (2 : Int) + (k : Int) < (m : Int) + 2 := by omega
        have k2 : (0 : Int) ≤ 2 + (k : Int) := by omega
        have k3 : ((2 : Int) + (k : Int)).toNat = 2 + k := by omega
        obtain ⟨aG, cG, hG⟩ := ownShape hO
        simp only [Value.slice.injEq] at hG
        obtain ⟨rfl, rfl, rfl⟩ := hG
        go_wp2_with (first | (go_at_call 130; refine (refNumber_any x hx.out.1 (by have := hx.out.2; omega) _).mono ?_; rintro e w3 ⟨aN, cN, rfl, oN, B3⟩; have hO3 := (hO.belowA B3); have sN := oN.toSrc (numB_byte x)) | (at_builtin; refine wpList_appB _ rfl (.tmp 24) (.tmp 29) rfl w1.heap.size _ G rfl hO3 aN _ cN (numB x) rfl sN (by have := hfl.out; have := hnl.out; omega) (by have := B3.size; omega) ?_; intro v' w4 ho4 hg4 _; obtain ⟨aV, cV, hV⟩ := ownShape ho4; subst hV; generalize (G ++ numB x).length = LN at ho4 ⊢))
        have B4 : Below w1.heap.size w1 w4 := (hB.trans (B3.mono hBs)).grown hg4 (by have := B3.size; omega) (by intro k hk; exact ((hO.lt k hk).1))
        go_roundw
        case rel => exact ⟨k + 1, _, aV, cV, by omega, by go_num, rfl, by rw [hnx.out]; exact ho4, B4⟩
        case measure => simp [intOf]; omega
      · have kI : ¬ (2 : Int) + (k : Int) < (m : Int) + 2 := by omega
        have hfin : Hid (F ++ ((ys.take k).map numB).flatten = encS xs) := by
          unfold Hid
          rw [hE.out, List.take_of_length_le (by rw [hl2.out]; omega)]
        rw [hfin.out] at hO
        have hM : Hid ((encS xs).length = M) := by
          unfold Hid
          rcases hO.split with ⟨h1, h2⟩ | ⟨g, c, h1, _⟩
          · simp at h1; rw [h2]; exact h1.2.1.symm
          · simp at h1; exact h1.2.1.symm
        go_wp2
        refine bodyPost_ret (v := .tuple #[.slice aO M cO, .int .i64 0]) (by simp [results, Tryz.results92, go_sem]) rfl ⟨aO, cO, by rw [hM.out], by rw [hM.out]; exact hO.rebase (by rw [hD.heap]; exact Nat.le_refl _), (hD.toBelow _).trans (hB.mono (by rw [hD.heap]; exact Nat.le_refl _))⟩

end Go.Proofs.YtklchpdpooikdaaGreatDoor

namespace Go.Proofs.YtklchpdpooikdaaGreatDoor

theorem small_small (b : UInt8) : smallB (smallB b) = smallB b := by
  have h : ∀ n : Fin 256, smallB (smallB (UInt8.ofNat n.val)) = smallB (UInt8.ofNat n.val) := by decide +kernel
  have hb := b.toNat_lt
  have := h ⟨b.toNat, by omega⟩
  simpa using this

theorem small_blank (b : UInt8) (hb : b ≠ 32) : smallB b ≠ 32 := by
  have h : ∀ n : Fin 256, UInt8.ofNat n.val ≠ 32 → smallB (UInt8.ofNat n.val) ≠ 32 := by decide +kernel
  have hl := b.toNat_lt
  have := h ⟨b.toNat, by omega⟩
  simp only [UInt8.ofNat_toNat] at this
  exact this hb

/-- Words with one blank between. -/
def joinB : List (List UInt8) → List UInt8
  | [] => []
  | [u] => u
  | u :: v :: r => u ++ 32 :: joinB (v :: r)

theorem lay_join : ∀ (ws : List (List UInt8)) (acc : List UInt8), 0 < acc.length → (∀ u ∈ ws, 0 < u.length) → lay acc ws = joinB (acc :: ws.map (·.map smallB))
  | [], acc, _, _ => rfl
  | u :: ws, acc, ha, hw => by
    have hu := hw u (by simp)
    rw [lay, lay_join ws _ (by rw [List.length_append, List.length_map]; omega) (fun x hx => hw x (List.mem_cons_of_mem _ hx))]
    unfold gap
    rw [if_neg (by omega)]
    cases ws with
    | nil => simp [joinB]
    | cons v r => simp [joinB]

theorem fold_join (l : List UInt8) : foldL l = joinB ((wordsL l).map (·.map smallB)) := by
  unfold foldL
  have hp := wordsL_pos l
  cases h : wordsL l with
  | nil => rfl
  | cons u ws =>
    rw [h] at hp
    have hu := hp u (by simp)
    rw [lay, lay_join ws _ (by unfold gap; simp; omega) (fun x hx => hp x (List.mem_cons_of_mem _ hx))]
    simp [gap]

/-- No word has a blank. -/
theorem wordsG_noblank : ∀ (r cur : List UInt8), (∀ b ∈ cur, b ≠ 32) → ∀ u ∈ wordsG cur r, ∀ b ∈ u, b ≠ 32
  | [], cur, hc, u, hu => by
    rw [wordsG] at hu
    split at hu
    · cases hu
    · simp at hu; subst hu; exact hc
  | b :: r, cur, hc, u, hu => by
    rw [wordsG] at hu
    split at hu
    · split at hu
      · exact wordsG_noblank r [] (by simp) u hu
      · rcases List.mem_cons.1 hu with rfl | hu
        · exact hc
        · exact wordsG_noblank r [] (by simp) u hu
    · rename_i hb
      refine wordsG_noblank r (cur ++ [b]) ?_ u hu
      intro x hx
      rcases List.mem_append.1 hx with hx | hx
      · exact hc x hx
      · simp at hx; subst hx; exact hb

theorem words_of_join : ∀ (vs : List (List UInt8)), (∀ u ∈ vs, 0 < u.length ∧ ∀ b ∈ u, b ≠ 32) → wordsL (joinB vs) = vs
  | [], _ => rfl
  | [u], h => by
    have hu := h u (by simp)
    have h1 := wordsG_run u [] [] hu.2
    unfold wordsL
    rw [joinB]
    simp only [List.append_nil, List.nil_append] at h1
    rw [h1, wordsG, if_neg (by omega)]
  | u :: v :: r, h => by
    have hu := h u (by simp)
    have ih := words_of_join (v :: r) (fun x hx => h x (List.mem_cons_of_mem _ hx))
    unfold wordsL at ih ⊢
    rw [joinB, wordsG_run u _ [] hu.2, List.nil_append, wordsG, if_pos rfl, if_neg (by omega), ih]

theorem mapped_words (l : List UInt8) : ∀ u ∈ (wordsL l).map (·.map smallB), 0 < u.length ∧ ∀ b ∈ u, b ≠ 32 := by
  intro u hu
  obtain ⟨x, hx, rfl⟩ := List.mem_map.1 hu
  refine ⟨by rw [List.length_map]; exact wordsL_pos l x hx, ?_⟩
  intro b hb
  obtain ⟨y, hy, rfl⟩ := List.mem_map.1 hb
  exact small_blank y (wordsG_noblank l [] (by simp) x hx y hy)

theorem words_of_fold (l : List UInt8) : wordsL (foldL l) = (wordsL l).map (·.map smallB) := by
  rw [fold_join]
  exact words_of_join _ (mapped_words l)

/-- Fold of Fold is Fold. -/
theorem fold_fold (l : List UInt8) : foldL (foldL l) = foldL l := by
  rw [fold_join (foldL l), words_of_fold, fold_join l]
  congr 1
  rw [List.map_map]
  apply List.map_congr_left
  intro u _
  show (u.map smallB).map smallB = u.map smallB
  rw [List.map_map]
  apply List.map_congr_left
  intro b _
  exact small_small b

theorem join_map_len : ∀ vs : List (List UInt8), (joinB (vs.map (·.map smallB))).length = (joinB vs).length
  | [] => rfl
  | [u] => by simp [joinB]
  | u :: v :: r => by
    have ih := join_map_len (v :: r)
    simp only [List.map_cons, joinB, List.length_append, List.length_cons, List.length_map] at ih ⊢
    rw [ih]

theorem join_len : ∀ (r cur : List UInt8), (joinB (wordsG cur r)).length ≤ cur.length + r.length
  | [], cur => by
    rw [wordsG]
    split
    · simp [joinB]
    · simp [joinB]
  | b :: r, cur => by
    rw [wordsG, List.length_cons]
    split
    · have ih := join_len r []
      simp only [List.length_nil, Nat.zero_add] at ih
      split
      · omega
      · cases h : wordsG [] r with
        | nil => simp only [joinB]; omega
        | cons v t =>
          rw [h] at ih
          simp only [joinB, List.length_append, List.length_cons] at ih ⊢
          omega
    · have ih := join_len r (cur ++ [b])
      rw [List.length_append, List.length_singleton] at ih
      omega

theorem fold_len (l : List UInt8) : (foldL l).length ≤ l.length := by
  rw [fold_join, join_map_len]
  have := join_len l []
  simpa [wordsL] using this

/-- Texts with the same words are folded alike. -/
theorem fold_words (a b : List UInt8) (h : wordsL a = wordsL b) : foldL a = foldL b := by rw [fold_join, fold_join, h]

/-- The words of what is joined by a blank. -/
theorem words_cat : ∀ (a b cur : List UInt8), wordsG cur (a ++ 32 :: b) = wordsG cur a ++ wordsL b
  | [], b, cur => by
    simp only [List.nil_append, wordsG, if_true, wordsL]
    split <;> rfl
  | x :: a, b, cur => by
    rw [List.cons_append, wordsG, wordsG]
    split
    · split
      · exact words_cat a b []
      · rw [words_cat a b []]; rfl
    · exact words_cat a b _

theorem words_ahead : ∀ (n : Nat) (l : List UInt8), wordsL (List.replicate n 32 ++ l) = wordsL l
  | 0, l => rfl
  | n + 1, l => by
    have ih := words_ahead n l
    rw [List.replicate_succ, List.cons_append]
    unfold wordsL at ih ⊢
    rw [wordsG, if_pos rfl, if_pos List.length_nil]
    exact ih

theorem words_blanks (n : Nat) : wordsL (List.replicate n 32) = [] := by
  have := words_ahead n []
  rw [List.append_nil] at this
  rw [this]
  rfl

/-- Blanks between. -/
theorem words_between (n : Nat) (a b : List UInt8) : wordsL (a ++ (List.replicate (n + 1) 32 ++ b)) = wordsL (a ++ 32 :: b) := by
  rw [List.replicate_succ, List.cons_append]
  unfold wordsL
  rw [words_cat, words_cat, words_ahead]

/-- Blanks behind. -/
theorem words_behind (n : Nat) (a : List UInt8) : wordsL (a ++ List.replicate (n + 1) 32) = wordsL a := by
  have h := words_between n a []
  rw [List.append_nil] at h
  rw [h]
  unfold wordsL
  rw [words_cat]
  simp [wordsL, wordsG]

end Go.Proofs.YtklchpdpooikdaaGreatDoor

namespace Go.Proofs.YtklchpdpooikdaaGreatDoor
open Go.RowKit Go.Shelf Go.IntWalk

theorem foldS_size (s : ByteArray) : (foldS s).size ≤ s.size := by
  have h := fold_len s.data.toList
  rw [size_len] at h
  exact h

theorem foldS_twice (s : ByteArray) : foldS (foldS s) = foldS s := by
  unfold foldS
  rw [fold_fold]

theorem text_eq (A B : ByteArray) : (A.toList == B.toList) = decide (A = B) := by
  by_cases h : A = B
  · subst h; simp
  · rw [decide_eq_false h, beq_eq_false_iff_ne, ByteArray.toList_eq, ByteArray.toList_eq]
    intro e
    exact h (ByteArray.ext (Array.ext' e))

set_option maxRecDepth 100000 in
theorem same_any (a b : ByteArray) (ha : a.size + 1 ≤ 140737488355328) (hb : b.size + 1 ≤ 140737488355328) (w : World) :
    Calls Tryz.prog 160 #[.string a, .string b] w fun e w' => e = .returned (.bool (decide (foldS a = foldS b))) ∧ Below w.heap.size w w' := by
  have f1 := hide (fun W => fold_any a ha W)
  have f2 := hide (fun W => fold_any b hb W)
  generalize foldS a = A at f1 ⊢
  generalize foldS b = B at f2 ⊢
  have hB := Below.refl w.heap.size w
  go_enter Tryz.func160, Tryz.ntmps160
  go_wp2_with (first
    | (go_at_call_of 176 (Value.string a); refine (f1.out _).mono ?_; rintro e w1 ⟨rfl, h1⟩; replace hB := hB.trans (h1.mono hB.size))
    | (go_at_call_of 176 (Value.string b); refine (f2.out _).mono ?_; rintro e w1 ⟨rfl, h1⟩; replace hB := hB.trans (h1.mono hB.size)))
  go_ret
  refine ⟨?_, hB⟩
  show Ending.returned (Value.bool (A.toList == B.toList)) = _
  rw [text_eq]

end Go.Proofs.YtklchpdpooikdaaGreatDoor
