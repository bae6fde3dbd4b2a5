/-
  The document's Text of a name.
-/
import Derived.Test.YtgbbgfjamneioaaDoorXNmTx2
import Derived.Test.YtgbbgfjamneioaaDoorXNmTxtToNmRMay2
namespace Go.Proofs.YtgbbgfjamneioaaDoor
open Go.RowKit Go.IntWalk Go.Shelf

theorem bs_app (a b : ByteArray) : (a ++ b).data.toList = a.data.toList ++ b.data.toList := by rw [ByteArray.data_append, Array.toList_append]
theorem bs_len (a : ByteArray) : a.data.toList.length = a.size := by rw [Array.length_toList]; rfl
theorem bs_ext {a b : ByteArray} (h : a.data.toList = b.data.toList) : a = b := ByteArray.ext (Array.ext' h)
theorem one_text (W : World) (y : Int) (h : 0 ≤ y ∧ y < 256) : (convert 25 9 (.slice (some ⟨W.heap.size, 0, none⟩) 1 1)).run Tryd.prog (W.alloc (.cells #[.int .u8 y] 5)) = .ok (.string (strOfNums [y])) (W.alloc (.cells #[.int .u8 y] 5)) :=
  (Src.lit [y] _ 1 rfl rfl (by simp; exact h) (by decide)).text
theorem one_list (x : UInt8) : (strOfNums [(x.toNat : Int)]).data.toList = [x] := by
  have h := nums_text [x]
  have e : nums [x] = [(x.toNat : Int)] := rfl
  rw [e] at h
  rw [h]
theorem tldU_eq (t : Int) (s : ByteArray) : tldU (t, s) = (labS t).data.toList ++ [61] ++ markU s.data.toList := by
  unfold tldU tldS mkS
  rw [bs_app, bs_app]

set_option maxRecDepth 100000 in
set_option maxHeartbeats 4000000 in
theorem rtextN_any (ao : Option Addr) (n cap : Nat) (xs : List (Int × ByteArray)) (w : World) (hA : Ats w ao n cap xs) (hz : ∀ x ∈ xs, x.2.size ≤ 1048576) :
    Calls Tryd.prog 11 #[.slice ao n cap] w fun e w' => e = .returned (.tuple #[.string (txT xs), .int .i64 (encNE xs)]) ∧ Below w.heap.size w w' := by
  have hM := hide (rmayN_any ao n cap xs w hA (fun x hx => by have := hz x hx; omega))
  have HL := hide hA.hl
  have hc := hA.hcap
  have hm := hA.hmax
  unfold maxLen at hm
  have HA := hide hA
  clear hA hz
  cases hN : nameL xs with
  | false =>
    have e1 : txT xs = ⟨#[]⟩ := by unfold txT; rw [hN]; rfl
    have e2 : encNE xs = 120 := by unfold encNE; rw [hN]; rfl
    rw [e1, e2]
    rw [hN] at hM
    clear hN e1 e2
    go_enter Tryd.func11, Tryd.ntmps11
    go_wp2_with fail
    refine hM.out.mono ?_
    rintro e w1 ⟨rfl, B1⟩
    go_wp2
    refine bodyPost_ret (v := .tuple #[.string ⟨#[]⟩, .int .i64 120]) (by simp [results, Tryd.results11, go_sem]) rfl ⟨rfl, B1⟩
  | true =>
    have e1 : txT xs = ⟨(txU xs).toArray⟩ := by unfold txT; rw [hN]; rfl
    have e2 : encNE xs = 0 := by unfold encNE; rw [hN]; rfl
    have h16 : n ≤ 16 := by
      unfold nameL at hN
      rw [Bool.and_eq_true] at hN
      have := of_decide_eq_true hN.1
      rw [HL.out] at this
      exact this
    have HAT : Hid (∀ x ∈ xs, attrL x.1 x.2.data.toList = true) := by
      unfold nameL at hN
      rw [Bool.and_eq_true] at hN
      exact List.all_eq_true.1 hN.2
    have HJL : Hid (∀ k, k ≤ 16 → (Lib.join ((xs.take k).map tldU) [44]).length ≤ 2112) := fun k hk => by
      have h2 := joinN_len 131 ((xs.take k).map tldU) (fun x hx => by
        obtain ⟨a, ha, rfl⟩ := List.mem_map.1 hx
        have h3 := attr_short (HAT.out a (List.mem_of_mem_take ha))
        have h4 := tldS_len a
        have h5 : (tldU a).length = (tldS a).size := by unfold tldU; rw [Array.length_toList]; rfl
        omega)
      rw [List.length_map] at h2
      have h6 := List.length_take_le k xs
      omega
    rw [e1, e2]
    rw [hN] at hM
    clear hN e1 e2
    go_enter Tryd.func11, Tryd.ntmps11
    go_wp2_with fail
    refine hM.out.mono ?_
    rintro e w1 ⟨rfl, B1⟩
    have HB := hide B1
    clear B1 hM
    go_wp2
    go_loopw [4, 5] (fun v i wr => ∃ (k : Nat) (D : ByteArray), k ≤ n ∧ i = .int .i64 k ∧ v = .string D ∧ Hid (D.data.toList = Lib.join ((xs.take k).map tldU) [44]) ∧ Below w1.heap.size w1 wr) (fun _ i _ => n - (intOf i).toNat)
    case atStart => exact ⟨0, ⟨#[]⟩, Nat.zero_le _, rfl, rfl, by unfold Hid; simp [Lib.join, List.intercalate], Below.refl _ _⟩
    case round =>
      obtain ⟨k, D, hk, rfl, rfl, hD, hB⟩ := hrel
      have HB2 := hide (HB.out.trans (hB.mono HB.out.size))
      by_cases hlt : k < n
      · have ltI : (k : Int) < (n : Int) := by omega
        obtain ⟨b, off, rfl, hcl⟩ := (HA.out.below HB2.out).hrd (by omega)
        obtain ⟨c0, c1⟩ := hcl k hlt
        have hmem := getD_mem (xs := xs) (i := k) (by rw [HL.out]; exact hlt)
        have hat := HAT.out _ hmem
        have hnx : (xs.take (k + 1)).map tldU = (xs.take k).map tldU ++ [tldU (xs.getD k (0, ByteArray.empty))] := by
          rw [List.take_add_one, List.map_append]
          simp [List.getD, List.getElem?_eq_getElem (show k < xs.length by rw [HL.out]; exact hlt)]
        have hDs : D.size ≤ 2112 := by
          have h1 := bs_len D
          rw [hD.out] at h1
          have := HJL.out k (by omega)
          omega
        obtain ⟨x, hxk0⟩ : ∃ x, xs.getD k (0, ByteArray.empty) = x := ⟨_, rfl⟩
        rw [hxk0] at c0 c1 hat hnx
        obtain ⟨t, s⟩ := x
        have hxk := hide hxk0
        simp only [] at c0 c1 hat
        have hsz := attr_short hat
        have hLl := labS_len t
        have hte := tldU_eq t s
        clear hcl hmem hat hxk0
        by_cases hk0 : k = 0
        · have kI : ¬ ((k : Int) > 0) := by omega
          have hD0 : D.data.toList = [] := by rw [hD.out, hk0]; rfl
          have hT0 : (xs.take k).map tldU = [] := by rw [hk0]; rfl
          obtain ⟨D2, hD2⟩ : ∃ D2, D ++ labS t ++ (⟨#[61]⟩ : ByteArray) = D2 := ⟨_, rfl⟩
          have HNX : Hid (D2.data.toList ++ markU s.data.toList = Lib.join ((xs.take (k + 1)).map tldU) [44]) := by
            unfold Hid
            rw [hnx, hT0, ← hD2, bs_app, bs_app, hD0, hte]
            simp [Lib.join_one]
          have HK0 := hide hk0
          clear hk0 hT0
          have hD2s : D2.size ≤ 2117 := by rw [← hD2, bs_app_len, bs_app_len]; have h3 : (⟨#[61]⟩ : ByteArray).size = 1 := rfl; omega
          have f1 : ¬ 9223372036854775807 < D.size + (labS t).size := by omega
          have f2 : ¬ 9223372036854775807 < D.size + (labS t).size + 1 := by omega
          have f3 : ¬ 9223372036854775807 < (D ++ labS t).size + 1 := by rw [bs_app_len]; exact f2
          have HTE := hide hte
          clear hte hnx hD0 hDs hLl
          obtain ⟨wo, rfl⟩ : ∃ wo : World, wo = wr := ⟨_, rfl⟩
          go_wp2_with fail
          refine (label_any t _).mono ?_
          rintro e wl ⟨rfl, B3⟩
          have HB3 := hide (hB.trans (B3.mono hB.size))
          have HBW := hide (HB.out.trans (HB3.out.mono HB.out.size))
          clear B3
          go_wp2
          go_loopw [4, 6] (fun v i wi => ∃ (j : Nat) (E : ByteArray), j ≤ s.size ∧ i = .int .i64 j ∧ v = .string E ∧ Hid (E.data.toList = D2.data.toList ++ markU (s.data.toList.take j)) ∧ Below w1.heap.size w1 wi) (fun _ i _ => s.size - (intOf i).toNat)
          case atStart => exact ⟨0, D2, Nat.zero_le _, rfl, rfl, by unfold Hid; simp [markU], HB3.out⟩
          case round =>
            obtain ⟨j, E, hj, rfl, rfl, hE, hBi⟩ := hrel
            have HBi := hide (HB.out.trans (hBi.mono HB.out.size))
            obtain ⟨b', off', hb', hcl'⟩ := (HA.out.below HBi.out).hrd (by omega)
            cases hb'
            obtain ⟨_, c1'⟩ := hcl' k hlt
            rw [hxk.out] at c1'
            simp only [] at c1'
            clear hcl'
            by_cases hjl : j < s.size
            · have ltJ : (j : Int) < (s.size : Int) := by omega
              have hsn := hide (markU_snoc s.data.toList j (by rw [bs_len]; exact hjl))
              obtain ⟨x, hx⟩ : ∃ x, (s[j]'hjl) = x := ⟨_, rfl⟩
              have hxd : s.data.toList.getD j 0 = x := by rw [← get_bs s j hjl]; exact hx
              rw [hxd] at hsn
              have hxI : ((s[j]'hjl).toNat : Int) = (x.toNat : Int) := by rw [hx]
              have hx256 := x.toNat_lt
              have hZ := one_list x
              obtain ⟨y, hy⟩ : ∃ y : Int, (x.toNat : Int) = y := ⟨_, rfl⟩
              rw [hy] at hxI hZ
              have hy0 : 0 ≤ y ∧ y < 256 := by omega
              have hcv := one_text wr y hy0
              generalize hZ1 : strOfNums [y] = Z1 at hcv hZ
              have HY := hide hy
              have hZs : Z1.size = 1 := by rw [← bs_len, hZ]; rfl
              have hEs : E.size ≤ 2400 := by
                have h1 := bs_len E
                rw [hE.out, List.length_append, bs_len] at h1
                have h2 := markU_len (s.data.toList.take j)
                have h3 := List.length_take_le j s.data.toList
                omega
              have e1 : ¬ 9223372036854775807 < E.size + 1 := by omega
              have e2 : ¬ 9223372036854775807 < E.size + Z1.size := by omega
              have e3 : ¬ 9223372036854775807 < E.size + 1 + Z1.size := by omega
              have e4 : ¬ 9223372036854775807 < (E ++ (⟨#[92]⟩ : ByteArray)).size + Z1.size := by rw [bs_app_len]; exact e3
              have HZ := hide hZ
              have HZS := hide hZs
              clear hxd hZ1 hZ hZs hEs
              by_cases hsp : spB x = true
              · have HN : Hid ((E ++ (⟨#[92]⟩ : ByteArray) ++ Z1).data.toList = D2.data.toList ++ markU (s.data.toList.take (j + 1))) := by
                  unfold Hid
                  rw [hsn.out, if_pos hsp, bs_app, bs_app, hE.out, HZ.out]
                  simp
                have hc : (y == 44) = true ∨ ((y == 44) = false ∧ (y == 92) = true) := by
                  unfold spB at hsp
                  simp only [Bool.or_eq_true, beq_iff_eq] at hsp
                  by_cases h44 : x = 44
                  · left; subst h44; rw [← HY.out]; rfl
                  · right
                    rcases hsp with h | h
                    · exact absurd h h44
                    · subst h; rw [← HY.out]; exact ⟨rfl, rfl⟩
                clear hsp hsn hx hy
                rcases hc with q1 | ⟨q1, q2⟩
                · go_wp2
                  go_roundw
                  case rel => exact ⟨j + 1, _, by omega, by go_num, rfl, HN, hBi.trans ((nbelow wr (.cells #[.int .u8 y] 5)).mono hBi.size)⟩
                  case measure => simp [intOf]; omega
                · go_wp2
                  go_roundw
                  case rel => exact ⟨j + 1, _, by omega, by go_num, rfl, HN, hBi.trans ((nbelow wr (.cells #[.int .u8 y] 5)).mono hBi.size)⟩
                  case measure => simp [intOf]; omega
              · have HN : Hid ((E ++ Z1).data.toList = D2.data.toList ++ markU (s.data.toList.take (j + 1))) := by
                  unfold Hid
                  rw [hsn.out, if_neg hsp, bs_app, hE.out, HZ.out]
                  simp
                have hc : (y == 44) = false ∧ (y == 92) = false := by
                  unfold spB at hsp
                  simp only [Bool.or_eq_true, beq_iff_eq, not_or] at hsp
                  rw [← HY.out]
                  refine ⟨beq_eq_false_iff_ne.2 (fun e => hsp.1 ?_), beq_eq_false_iff_ne.2 (fun e => hsp.2 ?_)⟩
                  · apply UInt8.toNat_inj.1; show x.toNat = 44; omega
                  · apply UInt8.toNat_inj.1; show x.toNat = 92; omega
                obtain ⟨q1, q2⟩ := hc
                clear hsp hsn hx hy
                go_wp2
                go_roundw
                case rel => exact ⟨j + 1, _, by omega, by go_num, rfl, HN, hBi.trans ((nbelow wr (.cells #[.int .u8 y] 5)).mono hBi.size)⟩
                case measure => simp [intOf]; omega
            · obtain rfl : j = s.size := by omega
              have nJ : ¬ ((s.size : Int) < (s.size : Int)) := by omega
              have hall : s.data.toList.take s.size = s.data.toList := List.take_of_length_le (by rw [bs_len]; exact Nat.le_refl _)
              rw [hall] at hE
              have hNX : Hid (E.data.toList = Lib.join ((xs.take (k + 1)).map tldU) [44]) := by
                unfold Hid
                rw [hE.out]
                exact HNX.out
              clear hall
              go_wp2
              go_roundw
              case rel => exact ⟨k + 1, E, by omega, by go_num, rfl, hNX, hBi⟩
              case measure => simp [intOf]; omega
        · have kI : (k : Int) > 0 := by omega
          have hne : (xs.take k).map tldU ≠ [] := by
            intro e
            have h1 := congrArg List.length e
            rw [List.length_map, List.length_take, HL.out, List.length_nil] at h1
            omega
          obtain ⟨D2, hD2⟩ : ∃ D2, D ++ (⟨#[44]⟩ : ByteArray) ++ labS t ++ (⟨#[61]⟩ : ByteArray) = D2 := ⟨_, rfl⟩
          have HNX : Hid (D2.data.toList ++ markU s.data.toList = Lib.join ((xs.take (k + 1)).map tldU) [44]) := by
            unfold Hid
            rw [hnx, joinN_snoc _ _ _ hne, ← hD2, bs_app, bs_app, bs_app, hD.out, hte]
            simp
          have h61 : (⟨#[61]⟩ : ByteArray).size = 1 := rfl
          have h44 : (⟨#[44]⟩ : ByteArray).size = 1 := rfl
          have hD2s : D2.size ≤ 2117 := by rw [← hD2, bs_app_len, bs_app_len, bs_app_len]; omega
          have f0 : ¬ 9223372036854775807 < D.size + 1 := by omega
          have f1 : ¬ 9223372036854775807 < D.size + 1 + (labS t).size := by omega
          have f2 : ¬ 9223372036854775807 < D.size + 1 + (labS t).size + 1 := by omega
          have f3 : ¬ 9223372036854775807 < (D ++ (⟨#[44]⟩ : ByteArray)).size + (labS t).size := by rw [bs_app_len]; exact f1
          have f4 : ¬ 9223372036854775807 < (D ++ (⟨#[44]⟩ : ByteArray) ++ labS t).size + 1 := by rw [bs_app_len, bs_app_len]; exact f2
          clear hte hnx hDs hLl hne h61 h44
          obtain ⟨wo, rfl⟩ : ∃ wo : World, wo = wr := ⟨_, rfl⟩
          go_wp2_with fail
          refine (label_any t _).mono ?_
          rintro e wl ⟨rfl, B3⟩
          have HB3 := hide (hB.trans (B3.mono hB.size))
          have HBW := hide (HB.out.trans (HB3.out.mono HB.out.size))
          clear B3
          go_wp2
          go_loopw [4, 6] (fun v i wi => ∃ (j : Nat) (E : ByteArray), j ≤ s.size ∧ i = .int .i64 j ∧ v = .string E ∧ Hid (E.data.toList = D2.data.toList ++ markU (s.data.toList.take j)) ∧ Below w1.heap.size w1 wi) (fun _ i _ => s.size - (intOf i).toNat)
          case atStart => exact ⟨0, D2, Nat.zero_le _, rfl, rfl, by unfold Hid; simp [markU], HB3.out⟩
          case round =>
            obtain ⟨j, E, hj, rfl, rfl, hE, hBi⟩ := hrel
            have HBi := hide (HB.out.trans (hBi.mono HB.out.size))
            obtain ⟨b', off', hb', hcl'⟩ := (HA.out.below HBi.out).hrd (by omega)
            cases hb'
            obtain ⟨_, c1'⟩ := hcl' k hlt
            rw [hxk.out] at c1'
            simp only [] at c1'
            clear hcl'
            by_cases hjl : j < s.size
            · have ltJ : (j : Int) < (s.size : Int) := by omega
              have hsn := hide (markU_snoc s.data.toList j (by rw [bs_len]; exact hjl))
              obtain ⟨x, hx⟩ : ∃ x, (s[j]'hjl) = x := ⟨_, rfl⟩
              have hxd : s.data.toList.getD j 0 = x := by rw [← get_bs s j hjl]; exact hx
              rw [hxd] at hsn
              have hxI : ((s[j]'hjl).toNat : Int) = (x.toNat : Int) := by rw [hx]
              have hx256 := x.toNat_lt
              have hZ := one_list x
              obtain ⟨y, hy⟩ : ∃ y : Int, (x.toNat : Int) = y := ⟨_, rfl⟩
              rw [hy] at hxI hZ
              have hy0 : 0 ≤ y ∧ y < 256 := by omega
              have hcv := one_text wr y hy0
              generalize hZ1 : strOfNums [y] = Z1 at hcv hZ
              have HY := hide hy
              have hZs : Z1.size = 1 := by rw [← bs_len, hZ]; rfl
              have hEs : E.size ≤ 2400 := by
                have h1 := bs_len E
                rw [hE.out, List.length_append, bs_len] at h1
                have h2 := markU_len (s.data.toList.take j)
                have h3 := List.length_take_le j s.data.toList
                omega
              have e1 : ¬ 9223372036854775807 < E.size + 1 := by omega
              have e2 : ¬ 9223372036854775807 < E.size + Z1.size := by omega
              have e3 : ¬ 9223372036854775807 < E.size + 1 + Z1.size := by omega
              have e4 : ¬ 9223372036854775807 < (E ++ (⟨#[92]⟩ : ByteArray)).size + Z1.size := by rw [bs_app_len]; exact e3
              have HZ := hide hZ
              have HZS := hide hZs
              clear hxd hZ1 hZ hZs hEs
              by_cases hsp : spB x = true
              · have HN : Hid ((E ++ (⟨#[92]⟩ : ByteArray) ++ Z1).data.toList = D2.data.toList ++ markU (s.data.toList.take (j + 1))) := by
                  unfold Hid
                  rw [hsn.out, if_pos hsp, bs_app, bs_app, hE.out, HZ.out]
                  simp
                have hc : (y == 44) = true ∨ ((y == 44) = false ∧ (y == 92) = true) := by
                  unfold spB at hsp
                  simp only [Bool.or_eq_true, beq_iff_eq] at hsp
                  by_cases h44 : x = 44
                  · left; subst h44; rw [← HY.out]; rfl
                  · right
                    rcases hsp with h | h
                    · exact absurd h h44
                    · subst h; rw [← HY.out]; exact ⟨rfl, rfl⟩
                clear hsp hsn hx hy
                rcases hc with q1 | ⟨q1, q2⟩
                · go_wp2
                  go_roundw
                  case rel => exact ⟨j + 1, _, by omega, by go_num, rfl, HN, hBi.trans ((nbelow wr (.cells #[.int .u8 y] 5)).mono hBi.size)⟩
                  case measure => simp [intOf]; omega
                · go_wp2
                  go_roundw
                  case rel => exact ⟨j + 1, _, by omega, by go_num, rfl, HN, hBi.trans ((nbelow wr (.cells #[.int .u8 y] 5)).mono hBi.size)⟩
                  case measure => simp [intOf]; omega
              · have HN : Hid ((E ++ Z1).data.toList = D2.data.toList ++ markU (s.data.toList.take (j + 1))) := by
                  unfold Hid
                  rw [hsn.out, if_neg hsp, bs_app, hE.out, HZ.out]
                  simp
                have hc : (y == 44) = false ∧ (y == 92) = false := by
                  unfold spB at hsp
                  simp only [Bool.or_eq_true, beq_iff_eq, not_or] at hsp
                  rw [← HY.out]
                  refine ⟨beq_eq_false_iff_ne.2 (fun e => hsp.1 ?_), beq_eq_false_iff_ne.2 (fun e => hsp.2 ?_)⟩
                  · apply UInt8.toNat_inj.1; show x.toNat = 44; omega
                  · apply UInt8.toNat_inj.1; show x.toNat = 92; omega
                obtain ⟨q1, q2⟩ := hc
                clear hsp hsn hx hy
                go_wp2
                go_roundw
                case rel => exact ⟨j + 1, _, by omega, by go_num, rfl, HN, hBi.trans ((nbelow wr (.cells #[.int .u8 y] 5)).mono hBi.size)⟩
                case measure => simp [intOf]; omega
            · obtain rfl : j = s.size := by omega
              have nJ : ¬ ((s.size : Int) < (s.size : Int)) := by omega
              have hall : s.data.toList.take s.size = s.data.toList := List.take_of_length_le (by rw [bs_len]; exact Nat.le_refl _)
              rw [hall] at hE
              have hNX : Hid (E.data.toList = Lib.join ((xs.take (k + 1)).map tldU) [44]) := by
                unfold Hid
                rw [hE.out]
                exact HNX.out
              clear hall
              go_wp2
              go_roundw
              case rel => exact ⟨k + 1, E, by omega, by go_num, rfl, hNX, hBi⟩
              case measure => simp [intOf]; omega
      · obtain rfl : k = n := by omega
        have nI : ¬ ((k : Int) < (k : Int)) := by omega
        have hxs : xs.take k = xs := List.take_of_length_le (by rw [HL.out]; exact Nat.le_refl _)
        rw [hxs] at hD
        have hDX : D = ⟨(txU xs).toArray⟩ := bs_ext (by rw [hD.out]; rfl)
        subst hDX
        clear hD hxs
        go_wp2
        refine bodyPost_ret (v := .tuple #[.string ⟨(txU xs).toArray⟩, .int .i64 0]) (by simp [results, Tryd.results11, go_sem]) rfl ⟨rfl, HB2.out⟩

end Go.Proofs.YtgbbgfjamneioaaDoor
