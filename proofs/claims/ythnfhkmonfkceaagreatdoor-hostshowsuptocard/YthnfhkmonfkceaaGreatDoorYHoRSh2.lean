/-
  The document's Show.
-/
import Derived.Test.YthnfhkmonfkceaaGreatDoorYHoSh2
import Derived.Test.YthnfhkmonfkceaaGreatDoorYHoR5ToHoRGen
import Derived.Test.YthnfhkmonfkceaaGreatDoorYNmTx2ToNmRTx
namespace Go.Proofs.YthnfhkmonfkceaaGreatDoor
open Go.RowKit Go.IntWalk Go.Shelf
attribute [local go_sem ↓] ix_dig

theorem two_text (W : World) (A B : Int) (hA : 0 ≤ A ∧ A < 256) (hB : 0 ≤ B ∧ B < 256) : (convert 43 9 (.slice (some ⟨W.heap.size, 0, none⟩) 2 2)).run Tryz.prog (W.alloc (.cells #[.int .u8 A, .int .u8 B] 5)) = .ok (.string (strOfNums [A, B])) (W.alloc (.cells #[.int .u8 A, .int .u8 B] 5)) :=
  (Src.lit [A, B] _ 2 rfl rfl (by simp; omega) (by decide)).text

set_option maxRecDepth 100000 in
set_option maxHeartbeats 2000000 in
theorem refShow_any (k : Int) (b : List UInt8) (hb : b.length ≤ 1048576) (w : World) :
    Calls Tryz.prog 7 #[.agg #[.int .i64 k, .string (tx b)]] w fun e w' => e = .returned (.tuple #[.string (tx (showS k b)), .int .i64 (showE k b)]) ∧ Below w.heap.size w w' := by
  cases hm : mayG k b with
  | false =>
    have e1 : Hid (showS k b = []) := by unfold Hid showS; rw [hm]; rfl
    have e2 : Hid (showE k b = 130) := by unfold Hid showE; rw [hm]; rfl
    have BX := nbelowW w (.cells #[.int .i64 k, .string (tx b)] 23)
    have c0 : (w.alloc (.cells #[.int .i64 k, .string (tx b)] 23)).cell? ⟨w.heap.size, 0, none⟩ = some (.int .i64 k) := by simp
    have c1 : (w.alloc (.cells #[.int .i64 k, .string (tx b)] 23)).cell? ⟨w.heap.size, 1, none⟩ = some (.string (tx b)) := by simp
    have d1 := hide (fun W => rgen_any (k) b hb W)
    unfold genP at d1
    rw [hm] at d1
    go_enter Tryz.func7, Tryz.ntmps7
    go_wp2_with fail
    refine (d1.out _).mono ?_
    rintro e w1 ⟨rfl, B1⟩
    have k0 := (B1.cell (p := ⟨w.heap.size, 0, none⟩) (lt_of_cell c0)).trans c0
    have k1 := (B1.cell (p := ⟨w.heap.size, 1, none⟩) (lt_of_cell c1)).trans c1
    have HB := hide (BX.trans (B1.mono BX.size))
    clear d1 B1 BX c0 c1
    go_wp2
    refine bodyPost_ret (v := .tuple #[.string (tx []), .int .i64 130]) (by simp [results, Tryz.results7, go_sem]; rfl) rfl ⟨by rw [e1.out, e2.out], HB.out⟩
  | true =>
    have e1 : Hid (showS k b = showL k b) := by unfold Hid showS; rw [hm]; rfl
    have e2 : Hid (showE k b = 0) := by unfold Hid showE; rw [hm]; rfl
    have zb : (tx b).size = b.length := tx_size b
    obtain ⟨hk, h4, h7⟩ := mayG_kinds hm
    rcases hk with rfl | rfl | rfl | rfl
    · have hL : Hid ((⟨#[101, 109, 97, 105, 108, 58]⟩ : ByteArray) ++ tx b = tx (showL 1 b)) := tx_catW [101, 109, 97, 105, 108, 58] b
      have zA : ¬ 9223372036854775807 < 6 + (tx b).size := by omega
      have BX := nbelowW w (.cells #[.int .i64 1, .string (tx b)] 23)
      have c0 : (w.alloc (.cells #[.int .i64 1, .string (tx b)] 23)).cell? ⟨w.heap.size, 0, none⟩ = some (.int .i64 1) := by simp
      have c1 : (w.alloc (.cells #[.int .i64 1, .string (tx b)] 23)).cell? ⟨w.heap.size, 1, none⟩ = some (.string (tx b)) := by simp
      have d1 := hide (fun W => rgen_any (1) b hb W)
      unfold genP at d1
      rw [hm] at d1
      clear hm h4 h7 zb
      go_enter Tryz.func7, Tryz.ntmps7
      go_wp2_with fail
      refine (d1.out _).mono ?_
      rintro e w1 ⟨rfl, B1⟩
      have k0 := (B1.cell (p := ⟨w.heap.size, 0, none⟩) (lt_of_cell c0)).trans c0
      have k1 := (B1.cell (p := ⟨w.heap.size, 1, none⟩) (lt_of_cell c1)).trans c1
      have HB := hide (BX.trans (B1.mono BX.size))
      clear d1 B1 BX c0 c1
      go_wp2
      refine bodyPost_ret (v := .tuple #[.string (⟨#[101, 109, 97, 105, 108, 58]⟩ ++ tx b), .int .i64 0]) (by simp [results, Tryz.results7, go_sem]) rfl ⟨by rw [e1.out, e2.out, ← hL.out], HB.out⟩
    · have hL : Hid ((⟨#[100, 110, 115, 58]⟩ : ByteArray) ++ tx b = tx (showL 2 b)) := tx_catW [100, 110, 115, 58] b
      have zA : ¬ 9223372036854775807 < 4 + (tx b).size := by omega
      have BX := nbelowW w (.cells #[.int .i64 2, .string (tx b)] 23)
      have c0 : (w.alloc (.cells #[.int .i64 2, .string (tx b)] 23)).cell? ⟨w.heap.size, 0, none⟩ = some (.int .i64 2) := by simp
      have c1 : (w.alloc (.cells #[.int .i64 2, .string (tx b)] 23)).cell? ⟨w.heap.size, 1, none⟩ = some (.string (tx b)) := by simp
      have d1 := hide (fun W => rgen_any (2) b hb W)
      unfold genP at d1
      rw [hm] at d1
      clear hm h4 h7 zb
      go_enter Tryz.func7, Tryz.ntmps7
      go_wp2_with fail
      refine (d1.out _).mono ?_
      rintro e w1 ⟨rfl, B1⟩
      have k0 := (B1.cell (p := ⟨w.heap.size, 0, none⟩) (lt_of_cell c0)).trans c0
      have k1 := (B1.cell (p := ⟨w.heap.size, 1, none⟩) (lt_of_cell c1)).trans c1
      have HB := hide (BX.trans (B1.mono BX.size))
      clear d1 B1 BX c0 c1
      go_wp2
      refine bodyPost_ret (v := .tuple #[.string (⟨#[100, 110, 115, 58]⟩ ++ tx b), .int .i64 0]) (by simp [results, Tryz.results7, go_sem]) rfl ⟨by rw [e1.out, e2.out, ← hL.out], HB.out⟩
    · obtain ⟨T, hT⟩ : ∃ T, txT (ansN (nums b)) = T := ⟨_, rfl⟩
      have hN : ansE (nums b) = 0 := of_decide_eq_true (h4 rfl)
      have hTs := txT_short (ans_ok hN).1
      have hL : Hid ((⟨#[110, 97, 109, 101, 58]⟩ : ByteArray) ++ T = tx (showL 4 b)) := by
        have h := tx_catW [110, 97, 109, 101, 58] T.data.toList
        unfold Hid
        have e : showL 4 b = [110, 97, 109, 101, 58] ++ T.data.toList := by unfold showL toldK; rw [hT]; rfl
        rw [e, ← h]
        rfl
      rw [hT] at hTs
      have zA : ¬ 9223372036854775807 < 5 + T.size := by omega
      have hc := hide (fun W => conv_any (tx b) (by rw [tx_size]; exact hb) W)
      have hd := hide (fun (W : World) (g c : Nat) (h : Src W (some ⟨g, 0, none⟩) (tx b).size c (nums (tx b).data.toList)) => rdecode_any (some ⟨g, 0, none⟩) (tx b).size c _ W h (by rw [tx_size]; exact hb))
      have ht := hide (fun (W : World) (ao : Option Addr) (n c : Nat) (h : Ats W ao n c (ansN (nums b))) => rtextN_any ao n c (ansN (nums b)) W h ansN_small)
      have hz := hide (ansN_small (xs := nums b))
      rw [tx_list] at hc hd
      rw [hT] at ht
      have BX := nbelowW w (.cells #[.int .i64 4, .string (tx b)] 23)
      have c0 : (w.alloc (.cells #[.int .i64 4, .string (tx b)] 23)).cell? ⟨w.heap.size, 0, none⟩ = some (.int .i64 4) := by simp
      have c1 : (w.alloc (.cells #[.int .i64 4, .string (tx b)] 23)).cell? ⟨w.heap.size, 1, none⟩ = some (.string (tx b)) := by simp
      have d1 := hide (fun W => rgen_any (4) b hb W)
      unfold genP at d1
      rw [hm] at d1
      clear hm h4 h7 zb hT hTs
      generalize ansN (nums b) = A at *
      generalize encNE A = E9 at *
      generalize ansE (nums b) = E8 at *
      go_enter Tryz.func7, Tryz.ntmps7
      go_wp2_with fail
      refine (d1.out _).mono ?_
      rintro e w1 ⟨rfl, B1⟩
      have k0 := (B1.cell (p := ⟨w.heap.size, 0, none⟩) (lt_of_cell c0)).trans c0
      have k1 := (B1.cell (p := ⟨w.heap.size, 1, none⟩) (lt_of_cell c1)).trans c1
      have HB := hide (BX.trans (B1.mono BX.size))
      clear d1 B1 BX c0 c1
      obtain ⟨cap, w2, hcv, s2, B2⟩ := hc.out w1
      have h3 := hide (hd.out w2 _ cap s2)
      have HB2 := hide (HB.out.trans (B2.mono HB.out.size))
      clear hc hd s2 B2 HB
      go_wp2_with fail
      refine h3.out.mono ?_
      rintro e w3 ⟨a3, m3, c3, rfl, o3, B3⟩
      have h5 := hide (ht.out w3 a3 m3 c3 (o3.ats hz.out))
      have HB3 := hide (HB2.out.trans (B3.mono HB2.out.size))
      clear h3 ht hz o3 B3 HB2 k0 k1
      go_wp2_with fail
      refine h5.out.mono ?_
      rintro e w5 ⟨rfl, B5⟩
      have HB5 := hide (HB3.out.trans (B5.mono HB3.out.size))
      clear h5 B5 HB3
      go_wp2
      refine bodyPost_ret (v := .tuple #[.string (⟨#[110, 97, 109, 101, 58]⟩ ++ T), .int .i64 0]) (by simp [results, Tryz.results7, go_sem]) rfl ⟨by rw [e1.out, e2.out, ← hL.out], HB5.out⟩
    · have hip : b.length ≤ 16 := by
        have h := h7 rfl
        unfold ipL at h
        rw [Bool.or_eq_true, decide_eq_true_eq, decide_eq_true_eq] at h
        omega
      have hgb := hide (fun (j : Nat) (h : j < (tx b).size) => get_bs (tx b) j h)
      have BX := nbelowW w (.cells #[.int .i64 7, .string (tx b)] 23)
      have c0 : (w.alloc (.cells #[.int .i64 7, .string (tx b)] 23)).cell? ⟨w.heap.size, 0, none⟩ = some (.int .i64 7) := by simp
      have c1 : (w.alloc (.cells #[.int .i64 7, .string (tx b)] 23)).cell? ⟨w.heap.size, 1, none⟩ = some (.string (tx b)) := by simp
      have d1 := hide (fun W => rgen_any (7) b hb W)
      unfold genP at d1
      rw [hm] at d1
      clear hm h4 h7 hb
      go_enter Tryz.func7, Tryz.ntmps7
      go_wp2_with fail
      refine (d1.out _).mono ?_
      rintro e w1 ⟨rfl, B1⟩
      have k0 := (B1.cell (p := ⟨w.heap.size, 0, none⟩) (lt_of_cell c0)).trans c0
      have k1 := (B1.cell (p := ⟨w.heap.size, 1, none⟩) (lt_of_cell c1)).trans c1
      have HB := hide (BX.trans (B1.mono BX.size))
      clear d1 B1 BX c0 c1
      go_wp2
      go_loopw [8, 10] (fun v i wr => ∃ (k : Nat) (E : ByteArray), k ≤ b.length ∧ i = .int .i64 k ∧ v = .string E ∧ Hid (E.data.toList = [105, 112, 58] ++ hexS (b.take k)) ∧ wr.cell? ⟨w.heap.size, 1, none⟩ = some (.string (tx b)) ∧ Below w.heap.size w wr) (fun _ i _ => b.length - (intOf i).toNat)
      case atStart => exact ⟨0, _, Nat.zero_le _, rfl, rfl, by unfold Hid; simp [hexS], k1, HB.out⟩
      case round =>
        obtain ⟨k, E, hk, rfl, rfl, hE, hc, hB⟩ := hrel
        have zI : ((tx b).size : Int) = (b.length : Int) := by omega
        by_cases hlt : k < b.length
        · have ltI : (k : Int) < (b.length : Int) := by omega
          have hks : k < (tx b).size := by omega
          obtain ⟨x, hx⟩ : ∃ x, ((tx b)[k]'hks) = x := ⟨_, rfl⟩
          have hxd : b.getD k 0 = x := by have := hgb.out k hks; rw [tx_list] at this; rw [← this]; exact hx
          have hsn : Hid (hexS (b.take (k + 1)) = hexS (b.take k) ++ hex2 x) := by
            unfold Hid
            rw [List.take_succ_eq_append_getElem hlt, hexS_app]
            have e : b[k]'hlt = x := by rw [← hxd]; simp [List.getD, hlt]
            rw [e]
            simp [hexS]
          have hx256 := x.toNat_lt
          have hxI : (((tx b)[k]'hks).toNat : Int) = (x.toNat : Int) := by rw [hx]
          obtain ⟨n, hn⟩ : ∃ n, x.toNat = n := ⟨_, rfl⟩
          have hHX : Hid (hex2 x = [hexC (n / 16), hexC (n % 16)]) := by unfold Hid; rw [← hn]; rfl
          rw [hn] at hxI
          have i1 := fun W => ixD_atI (n / 16) (by omega) W
          have i2 := fun W => ixD_atI (n % 16) (by omega) W
          obtain ⟨p, hp⟩ : ∃ p, n / 16 = p := ⟨_, rfl⟩
          obtain ⟨r, hr⟩ : ∃ r, n % 16 = r := ⟨_, rfl⟩
          have td : Int.tdiv (n : Int) 16 = (p : Int) := by rw [Int.tdiv_eq_ediv_of_nonneg (by omega)]; omega
          have tm : Int.tmod (n : Int) 16 = (r : Int) := by rw [Int.tmod_eq_emod_of_nonneg (by omega)]; omega
          have nI : (n : Int) < 256 := by omega
          have wp : IntKind.i64.wrap (p : Int) = (p : Int) := i64_in _ (by omega)
          have wr' : IntKind.i64.wrap (r : Int) = (r : Int) := i64_in _ (by omega)
          rw [hp] at i1 hHX
          rw [hr] at i2 hHX
          have hA0 := (hexC p).toNat_lt
          have hB0 := (hexC r).toNat_lt
          have HZ : Hid ((strOfNums [((hexC p).toNat : Int), ((hexC r).toNat : Int)]).data.toList = hex2 x) := by
            unfold Hid
            have h := nums_text [hexC p, hexC r]
            have e : nums [hexC p, hexC r] = [((hexC p).toNat : Int), ((hexC r).toNat : Int)] := rfl
            rw [e] at h
            rw [h, hHX.out]
          obtain ⟨A, hA⟩ : ∃ A : Int, ((hexC p).toNat : Int) = A := ⟨_, rfl⟩
          obtain ⟨B, hB2⟩ : ∃ B : Int, ((hexC r).toNat : Int) = B := ⟨_, rfl⟩
          rw [hA] at i1 HZ
          rw [hB2] at i2 HZ
          have hcv := fun W => two_text W A B (by omega) (by omega)
          have hEs : E.size ≤ 40 := by
            have h1 := bs_len E
            rw [hE.out, List.length_append, hexS_len, List.length_take] at h1
            simp only [List.length_cons, List.length_nil] at h1
            omega
          have hZs : (strOfNums [A, B]).size = 2 := by
            have h1 := bs_len (strOfNums [A, B])
            rw [HZ.out] at h1
            have : (hex2 x).length = 2 := rfl
            omega
          generalize strOfNums [A, B] = Z at *
          have e1' : ¬ 9223372036854775807 < E.size + Z.size := by omega
          have e2' : ¬ 9223372036854775807 < E.size + 2 := by omega
          have HN : Hid ((E ++ Z).data.toList = [105, 112, 58] ++ hexS (b.take (k + 1))) := by
            unfold Hid
            rw [bs_app, hE.out, HZ.out, hsn.out, List.append_assoc]
          have HZS := hide hZs
          clear hx hxd hsn hHX hn hp hr hA hB2 hA0 hB0 HZ hEs hx256 hE hZs
          have hcd := ((Below.refl wr.heap.size wr).drew.cell (p := ⟨w.heap.size, 1, none⟩) (lt_of_cell hc)).trans hc
          have HBd := hide hB.drew
          go_wp2
          refine wp_region_held_drew (S := fun _ => True) (by kernel_rfl) trivial (fun hS => ?_)
          generalize wr.drew = X0 at *
          refine wpAnyH_take (i := 0) (v := ?_) rfl (by kernel_rfl) (by kernel_rfl) (by kernel_rfl) (fun _ _ _ h => h) (Or.inl ⟨by rfl, ?_⟩) (by assumption) ?_
          rotate_left
          · intro wq _
            go_simp
            try with_reducible rfl
          simp only [List.getElem_toArray, List.getElem_cons_zero, Act.put, List.setIfInBounds_toArray, List.set_cons_zero, List.set_cons_succ]
          refine wpAnyH_take (i := 1) (v := ?_) rfl (by kernel_rfl) (by kernel_rfl) (by kernel_rfl) (fun _ _ _ h => h) (Or.inl ⟨by rfl, ?_⟩) (by assumption) ?_
          rotate_left
          · intro wq _
            go_simp
            try with_reducible rfl
          simp only [List.getElem_toArray, List.getElem_cons_succ, List.getElem_cons_zero, Act.put, List.setIfInBounds_toArray, List.set_cons_zero, List.set_cons_succ]
          refine wpAnyH_take (i := 2) (v := ?_) rfl (by kernel_rfl) (by kernel_rfl) (by kernel_rfl) (fun _ _ _ h => h) (Or.inl ⟨by rfl, ?_⟩) (by assumption) ?_
          rotate_left
          · intro wq _
            go_simp
            try with_reducible rfl
          simp only [List.getElem_toArray, List.getElem_cons_succ, List.getElem_cons_zero, Act.put, List.setIfInBounds_toArray, List.set_cons_zero, List.set_cons_succ]
          refine wpAnyH_take (i := 3) (v := ?_) rfl (by kernel_rfl) (by kernel_rfl) (by kernel_rfl) (fun _ _ _ h => h) (Or.inl ⟨by rfl, ?_⟩) (by assumption) ?_
          rotate_left
          · intro wq _
            go_simp
            try with_reducible rfl
          simp only [List.getElem_toArray, List.getElem_cons_succ, List.getElem_cons_zero, Act.put, List.setIfInBounds_toArray, List.set_cons_zero, List.set_cons_succ]
          refine wpAnyH_take (i := 4) (v := ?_) rfl (by kernel_rfl) (by kernel_rfl) (by kernel_rfl) (fun _ _ _ h => h) (Or.inl ⟨by rfl, ?_⟩) (by assumption) ?_
          rotate_left
          · intro wq _
            go_simp
            try with_reducible rfl
          simp only [List.getElem_toArray, List.getElem_cons_succ, List.getElem_cons_zero, Act.put, List.setIfInBounds_toArray, List.set_cons_zero, List.set_cons_succ]
          refine wpAnyH_take (i := 5) (v := ?_) rfl (by kernel_rfl) (by kernel_rfl) (by kernel_rfl) (fun _ _ _ h => h) (Or.inl ⟨by rfl, ?_⟩) (by assumption) ?_
          rotate_left
          · intro wq _
            go_simp
            try with_reducible rfl
          simp only [List.getElem_toArray, List.getElem_cons_succ, List.getElem_cons_zero, Act.put, List.setIfInBounds_toArray, List.set_cons_zero, List.set_cons_succ]
          refine wpAnyH_take (i := 6) (v := ?_) rfl (by kernel_rfl) (by kernel_rfl) (by kernel_rfl) (fun _ _ _ h => h) (Or.inl ⟨by rfl, ?_⟩) (by assumption) ?_
          rotate_left
          · intro wq _
            go_simp
            try with_reducible rfl
          simp only [List.getElem_toArray, List.getElem_cons_succ, List.getElem_cons_zero, Act.put, List.setIfInBounds_toArray, List.set_cons_zero, List.set_cons_succ]
          refine wpAnyH_take (i := 7) (v := ?_) rfl (by kernel_rfl) (by kernel_rfl) (by kernel_rfl) (fun _ _ _ h => h) (Or.inl ⟨by rfl, ?_⟩) (by assumption) ?_
          rotate_left
          · intro wq _
            go_simp
            try with_reducible rfl
          simp only [List.getElem_toArray, List.getElem_cons_succ, List.getElem_cons_zero, Act.put, List.setIfInBounds_toArray, List.set_cons_zero, List.set_cons_succ]
          refine wpAnyH_take (i := 8) (v := ?_) rfl (by kernel_rfl) (by kernel_rfl) (by kernel_rfl) (fun _ _ _ h => h) (Or.inl ⟨by rfl, ?_⟩) (by assumption) ?_
          rotate_left
          · intro wq _
            go_simp
            try with_reducible rfl
          simp only [List.getElem_toArray, List.getElem_cons_succ, List.getElem_cons_zero, Act.put, List.setIfInBounds_toArray, List.set_cons_zero, List.set_cons_succ]
          refine wpAnyH_ready (rs := [9]) (by kernel_rfl) (by simp) ?_
          refine AllReadyH.cons rfl (fun Kq hKq => ?_) AllReadyH.nil
          go_simp
          refine hKq.out _ _ trivial (fun _ => ?_)
          clear hKq Kq
          refine wpAnyH_ready (rs := [10]) (by kernel_rfl) (by simp) ?_
          refine AllReadyH.cons rfl (fun Kq hKq => ?_) AllReadyH.nil
          go_simp
          refine hKq.out _ _ trivial (fun _ => ?_)
          clear hKq Kq
          refine wpAnyH_take (i := 11) (v := ?_) rfl (by kernel_rfl) (by kernel_rfl) (by kernel_rfl) (fun _ _ _ h => h) (Or.inl ⟨by rfl, ?_⟩) (by assumption) ?_
          rotate_left
          · intro wq _
            go_simp
            try with_reducible rfl
          simp only [List.getElem_toArray, List.getElem_cons_succ, List.getElem_cons_zero, Act.put, List.setIfInBounds_toArray, List.set_cons_zero, List.set_cons_succ]
          refine wpAnyH_take (i := 12) (v := ?_) rfl (by kernel_rfl) (by kernel_rfl) (by kernel_rfl) (fun _ _ _ h => h) (Or.inl ⟨by rfl, ?_⟩) (by assumption) ?_
          rotate_left
          · intro wq _
            go_simp
            try with_reducible rfl
          simp only [List.getElem_toArray, List.getElem_cons_succ, List.getElem_cons_zero, Act.put, List.setIfInBounds_toArray, List.set_cons_zero, List.set_cons_succ]
          refine wpAnyH_done (by kernel_rfl) ?_ _
          have nb := nbelow X0 (.cells #[.int .u8 A, .int .u8 B] 5)
          have hc3 := (nb.cell (p := ⟨w.heap.size, 1, none⟩) (lt_of_cell hcd)).trans hcd
          have HB3 := HBd.out.trans (nb.mono HBd.out.size)
          go_wp2
          go_roundw
          case rel => exact ⟨k + 1, _, by omega, by go_num, rfl, HN, hc3, HB3⟩
          case measure => simp [intOf]; omega
        · obtain rfl : k = b.length := by omega
          have nI : ¬ ((b.length : Int) < (b.length : Int)) := by omega
          have hall : b.take b.length = b := List.take_of_length_le (Nat.le_refl _)
          have hEE : Hid (E = tx (showL 7 b)) := by
            unfold Hid
            refine bs_ext ?_
            rw [hE.out, hall]
            rfl
          clear hall
          go_wp2
          refine bodyPost_ret (v := .tuple #[.string E, .int .i64 0]) (by simp [results, Tryz.results7, go_sem]) rfl ⟨by rw [e1.out, e2.out, hEE.out], hB⟩

end Go.Proofs.YthnfhkmonfkceaaGreatDoor
