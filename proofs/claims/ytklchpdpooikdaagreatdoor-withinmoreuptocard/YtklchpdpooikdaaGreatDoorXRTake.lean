/-
  The reference's Take answers as the plain function of the bytes says, the content copied into new memory.
-/
import Derived.Test.YtklchpdpooikdaaGreatDoorXElemToEach
import Derived.Test.YtklchpdpooikdaaGreatDoorXOneToRTag
namespace Go.Proofs.YtklchpdpooikdaaGreatDoor
open Go.RowKit Go.IntWalk

theorem tl_cases (xs : List Int) (hb : ∀ x ∈ xs, 0 ≤ x ∧ x < 256) (h2 : 2 ≤ xs.length) :
    (xs.getD 1 0 ≤ 127 ∧ takeLenS (xs.drop 1) = (xs.getD 1 0, 1, 0)) ∨
    ((xs.getD 1 0 = 128 ∨ 131 < xs.getD 1 0) ∧ takeLenS (xs.drop 1) = (0, 0, 12)) ∨
    ∃ k : Nat, xs.getD 1 0 = 128 + (k : Int) ∧ 1 ≤ k ∧ k ≤ 3 ∧
      ((2 < xs.length ∧ xs.getD 2 0 = 0 ∧ takeLenS (xs.drop 1) = (0, 0, 12)) ∨
       ((2 < xs.length → xs.getD 2 0 ≠ 0) ∧ xs.length < 2 + k ∧ takeLenS (xs.drop 1) = (0, 0, 10)) ∨
       (2 < xs.length ∧ xs.getD 2 0 ≠ 0 ∧ 2 + k ≤ xs.length ∧ takeLenS (xs.drop 1) = if numOf ((xs.drop 2).take k) ≤ 127 then (0, 0, 12) else (numOf ((xs.drop 2).take k), 1 + (k : Int), 0))) := by
  have g0 : (xs.drop 1).getD 0 0 = xs.getD 1 0 := by simp [List.getD]
  have g1 : (xs.drop 1).getD 1 0 = xs.getD 2 0 := by simp [List.getD]
  have gl : (xs.drop 1).length = xs.length - 1 := by simp
  have gd : (xs.drop 1).drop 1 = xs.drop 2 := by simp
  have hf := hb (xs.getD 1 0) (by simp [List.getD, List.getElem?_eq_getElem (show 1 < xs.length by omega)])
  unfold takeLenS
  rw [g0, g1, gl, gd]
  generalize xs.getD 1 0 = f at *
  by_cases h3 : f ≤ 127
  · rw [if_pos h3]; exact .inl ⟨h3, rfl⟩
  · rw [if_neg h3]
    by_cases h4 : f = 128 ∨ 131 < f
    · rw [if_pos h4]; exact .inr (.inl ⟨h4, rfl⟩)
    · rw [if_neg h4]
      refine .inr (.inr ⟨(f - 128).toNat, by omega, by omega, by omega, ?_⟩)
      by_cases h5 : 1 < xs.length - 1 ∧ xs.getD 2 0 = 0
      · rw [if_pos h5]; exact .inl ⟨by omega, h5.2, rfl⟩
      · rw [if_neg h5]
        by_cases h6 : ((xs.length - 1 : Nat) : Int) < 1 + (f - 128)
        · rw [if_pos h6]; exact .inr (.inl ⟨fun h => by intro h'; exact h5 ⟨by omega, h'⟩, by omega, rfl⟩)
        · rw [if_neg h6]
          refine .inr (.inr ⟨by omega, fun h' => h5 ⟨by omega, h'⟩, by omega, ?_⟩)
          by_cases h7 : numOf ((xs.drop 2).take (f - 128).toNat) ≤ 127
          · rw [if_pos h7, if_pos h7]
          · rw [if_neg h7, if_neg h7, Int.toNat_of_nonneg (by omega)]

theorem ne_own {b n : Nat} (h : b < n) {l c : Nat} : some b ≠ (Value.slice (some ⟨n + 1, 0, none⟩) l c).ownBlock := by
  simp [Value.ownBlock]; omega
theorem ne_own2 (n : Nat) {l c : Nat} : some n ≠ (Value.slice (some ⟨n + 1, 0, none⟩) l c).ownBlock := by
  simp [Value.ownBlock]
theorem grown_frozen {w w1 : World} {r : Option Nat} (h : w.grownBy w1 r) (b : Nat) (hb : b < w.heap.size) (hr : some b ≠ r) : ∀ o, w1.frozen? ⟨b, o, none⟩ = w.frozen? ⟨b, o, none⟩ :=
  fun _ => World.frozen?_of_block (h.block b hb hr)
theorem cell?_alloc_lt2 {w : World} {b off : Nat} {v : Value} {o o' : Obj} (hb : b < w.heap.size) (hc : w.cell? ⟨b, off, none⟩ = some v) : ((w.alloc o).alloc o').cell? ⟨b, off, none⟩ = some v :=
  (World.cell?_alloc_lt _ _ _ (by simp; omega)).trans ((World.cell?_alloc_lt _ _ _ hb).trans hc)

set_option maxRecDepth 100000 in
set_option maxHeartbeats 4000000 in
theorem refTake_any (ao : Option Addr) (n cap : Nat) (xs : List Int) (w : World) (hs : Src w ao n cap xs) (hN : (n : Int) ≤ 140737488355328) :
    Calls Tryz.prog 89 #[.slice ao n cap] w fun e w' => ∃ ao' m c',
      e = .returned (.tuple #[.agg #[.int .i64 (findS xs).1, .slice ao' m c'], .int .i64 (findS xs).2.2.1, .int .i64 (findS xs).2.2.2]) ∧ OwnB w' w.heap.size (.slice ao' m c') (contS xs) ∧ Below w.heap.size w w' := by
  have hl := hs.hlen
  have hnc := hs.hcap
  have hbad : ∀ err, findS xs = (0, 0, 0, err) → contS xs = [] := fun err he => by unfold contS; rw [he]; simp
  have hgood : ∀ t (l h : Nat), findS xs = (t, (l : Int), (h : Int), 0) → contS xs = (xs.take h).drop l := fun t l h he => by unfold contS; rw [he]; simp
  by_cases h0 : n = 0
  · have he : findS xs = (0, 0, 0, 10) := by unfold findS; rw [if_pos (by omega)]
    have E := hide he
    have HC := hide (hbad _ he)
    subst h0
    clear hl he hbad hgood
    go_enter Tryz.func89, Tryz.ntmps89
    go_wp2
    refine bodyPost_ret (v := .tuple #[.agg #[.int .i64 0, .slice none 0 0], .int .i64 0, .int .i64 10]) (by simp [results, Tryz.results89, go_sem]) rfl ⟨none, 0, 0, by rw [E.out], by rw [HC.out]; exact OwnB.nil _ _, (Below.refl _ _).alloc (Nat.le_refl _) _⟩
  · obtain ⟨b, off, rfl, hrd0⟩ := hs.hrd (by intro h; rw [h] at hl; simp at hl; omega)
    clear hrd0
    have c0 := hs.cell 0 (by omega)
    rw [Nat.add_zero] at c0
    have hbl : b < w.heap.size := lt_of_cell c0
    have hb0 := hs.byte 0
    obtain ⟨t, ht⟩ : ∃ t, xs.getD 0 0 = t := ⟨_, rfl⟩
    rw [ht] at c0 hb0
    obtain ⟨g0, g1⟩ := hb0
    have hn0 : ((n : Int) == 0) = false := by simp; omega
    have hnI : (0 : Int) < (n : Int) := by omega
    cases hT : isTagB t with
    | false =>
      have he : findS xs = (0, 0, 0, 11) := by unfold findS; rw [if_neg (by omega), ht, if_pos hT]
      have E := hide he
      have HC := hide (hbad _ he)
      have HT := hide hT
      clear hl ht hT he hbad hgood
      go_enter Tryz.func89, Tryz.ntmps89
      go_wp2_with (go_at_call 126; refine (refIsTag_any t _).mono ?_; rintro e w' ⟨rfl, hw⟩; subst hw; rw [HT.out])
      refine bodyPost_ret (v := .tuple #[.agg #[.int .i64 0, .slice none 0 0], .int .i64 0, .int .i64 11]) (by simp [results, Tryz.results89, go_sem]) rfl ⟨none, 0, 0, by rw [E.out], by rw [HC.out]; exact OwnB.nil _ _, (Below.refl _ _).alloc (Nat.le_refl _) _⟩
    | true =>
      by_cases h1 : n = 1
      · have he : findS xs = (0, 0, 0, 10) := by unfold findS; rw [if_neg (by omega), ht, if_neg (by rw [hT]; simp), if_pos (by omega)]
        have E := hide he
        have HC := hide (hbad _ he)
        have HT := hide hT
        subst h1
        clear hl ht hT he hbad hgood
        go_enter Tryz.func89, Tryz.ntmps89
        go_wp2_with (go_at_call 126; refine (refIsTag_any t _).mono ?_; rintro e w' ⟨rfl, hw⟩; subst hw; rw [HT.out])
        refine bodyPost_ret (v := .tuple #[.agg #[.int .i64 0, .slice none 0 0], .int .i64 0, .int .i64 10]) (by simp [results, Tryz.results89, go_sem]) rfl ⟨none, 0, 0, by rw [E.out], by rw [HC.out]; exact OwnB.nil _ _, (Below.refl _ _).alloc (Nat.le_refl _) _⟩
      · have hn1 : ((n : Int) == 1) = false := by simp; omega
        have hnI1 : (1 : Int) < (n : Int) := by omega
        have c1 := hs.cell 1 (by omega)
        have hb1 := hs.byte 1
        have eF : findS xs = if (takeLenS (xs.drop 1)).2.2 ≠ 0 then (0, 0, 0, (takeLenS (xs.drop 1)).2.2)
            else if (n : Int) - (1 + (takeLenS (xs.drop 1)).2.1) < (takeLenS (xs.drop 1)).1 then (0, 0, 0, 10)
            else (t, 1 + (takeLenS (xs.drop 1)).2.1, 1 + (takeLenS (xs.drop 1)).2.1 + (takeLenS (xs.drop 1)).1, 0) := by
          unfold findS
          rw [if_neg (by omega), ht, if_neg (by rw [hT]; simp), if_neg (by omega), hl]
        have HT := hide hT
        rcases tl_cases xs hs.hbyt (by omega) with ⟨h2, htl⟩ | ⟨h2, htl⟩ | ⟨k, hk, k1, k3, h2⟩
        · rw [htl] at eF
          obtain ⟨F, hF⟩ := Int.eq_ofNat_of_zero_le hb1.1
          rw [hF] at c1 h2 eF hb1
          simp only [] at eF
          rw [if_neg (by simp)] at eF
          have f128 : ((F : Int) == 128) = false := by simp; omega
          by_cases h3 : (n : Int) - (1 + 1) < (F : Int)
          · rw [if_pos h3] at eF
            have E := hide eF
            have HC := hide (hbad _ eF)
            clear hl ht hT hbad hgood eF htl hF
            have h3' : (n : Int) - 2 < (F : Int) := by omega
            go_enter Tryz.func89, Tryz.ntmps89
            go_wp2_with (go_at_call 126; refine (refIsTag_any t _).mono ?_; rintro e w' ⟨rfl, hw⟩; subst hw; rw [HT.out])
            refine bodyPost_ret (v := .tuple #[.agg #[.int .i64 0, .slice none 0 0], .int .i64 0, .int .i64 10]) (by simp [results, Tryz.results89, go_sem]) rfl ⟨none, 0, 0, by rw [E.out], by rw [HC.out]; exact OwnB.nil _ _, (Below.refl _ _).alloc (Nat.le_refl _) _⟩
          · rw [if_neg h3] at eF
            have eF' : findS xs = (t, ((2 : Nat) : Int), ((2 + F : Nat) : Int), 0) := by rw [eF]; simp
            have E := hide (show findS xs = (t, 2, 2 + (F : Int), 0) by rw [eF]; simp)
            have HC := hide (hgood _ _ _ eF')
            have h3' : ¬ (n : Int) - 2 < (F : Int) := by omega
            have hs1 := hs.cut 2 (2 + F) (by omega) (by omega)
            have sl := fun W => slice_lh W (some ⟨b, off, none⟩) n cap 2 (2 + (F : Int)) 2 (2 + F) (by omega) (by omega) (by omega) (by omega)
            generalize cutA (some ⟨b, off, none⟩) cap 2 = A at hs1 sl
            generalize (xs.take (2 + F)).drop 2 = ys at hs1 HC
            rw [show 2 + F - 2 = F by omega] at hs1
            have hw : IntKind.i64.wrap (2 + (F : Int)) = 2 + (F : Int) := i64_in _ (by omega)
            have hnN : 0 < n := by omega
            have hbe : ¬ b = w.heap.size := by omega
            have hbe' : ¬ w.heap.size = b := by omega
            have hwt : IntKind.i64.wrap t = t := i64_in _ (by omega)
            clear hl ht hT hbad hgood eF eF' htl hF
            go_enter Tryz.func89, Tryz.ntmps89
            go_wp2_with (go_at_call 126; refine (refIsTag_any t _).mono ?_; rintro e w' ⟨rfl, hw⟩; subst hw; rw [HT.out])
            go_region_held3 (fun W => W.cell? ⟨b, off, none⟩ = some (.int .u8 t)) (go_keep) (first | (refine step_appN _ rfl (.tmp 85) (.tmp 91) rfl (w.heap.size + 1) (.slice (some ⟨w.heap.size + 1, 0, none⟩) 0 0) [] ?_ ?_ A F (cap - 2) ys ?_ ?_ F ?_ ?_ ?_ ?_ ?_; exact rfl; exact OwnB.litAt (w := w.alloc _) (w.heap.size + 1) _ [] _ 0 rfl rfl (by simp) (by simp) (by decide); exact rfl; exact ((hs1.alloc _).alloc _).drewN 1; (simpa using hs1.hlen); (exact .inl (by simp)); omega; (focus (simp; try omega)); intro g1 c1 w1 ho1 hb1 hl1 hc1 hm1 hg1; have k0 : w1.cell? ⟨b, off, none⟩ = some (.int .u8 t) := hg1.cell (cell?_alloc_lt2 hbl c0) (ne_own hbl); have j0 : w1.cell? ⟨w.heap.size, 0, none⟩ = some (.int .i64 0) := hg1.cell (by simp) (ne_own2 _); have j1 : w1.cell? ⟨w.heap.size, 1, none⟩ = some (.slice none 0 0) := hg1.cell (by simp) (ne_own2 _); have j2 := grown_frozen hg1 w.heap.size (by simp; omega) (ne_own2 _); have hz : w.heap.size + 1 < w1.heap.size := (by have := hg1.size; simp at this; omega)))
            go_wp2
            refine bodyPost_ret (v := .tuple #[.agg #[.int .i64 t, .slice (some ⟨g1, 0, none⟩) F c1], .int .i64 (2 + (F : Int)), .int .i64 0]) (by simp [results, Tryz.results89, go_sem, j0, j1]) rfl ⟨_, _, _, by rw [E.out], ?_, ?_⟩
            · rw [HC.out]
              exact ((ho1.setBelow (by simp) _).setBelow (by simp) _).rebase (by omega)
            · exact (((((((Below.refl _ _).alloc (Nat.le_refl _) _).alloc (by simp) _).drew).grown hg1 (by simp; omega) (by intro k hk; cases hk; exact Nat.le_succ _))).setCell (by simp) _).setCell (by simp) _
        · have he : findS xs = (0, 0, 0, 12) := by rw [eF, htl]; simp
          have E := hide he
          have HC := hide (hbad _ he)
          obtain ⟨f, hf⟩ : ∃ f, xs.getD 1 0 = f := ⟨_, rfl⟩
          rw [hf] at c1 h2 hb1
          obtain ⟨q0, q1⟩ := hb1
          clear hl ht hT hbad hgood eF he htl hf
          rcases h2 with h2 | h2
          · subst h2
            go_enter Tryz.func89, Tryz.ntmps89
            go_wp2_with (go_at_call 126; refine (refIsTag_any t _).mono ?_; rintro e w' ⟨rfl, hw⟩; subst hw; rw [HT.out])
            refine bodyPost_ret (v := .tuple #[.agg #[.int .i64 0, .slice none 0 0], .int .i64 0, .int .i64 12]) (by simp [results, Tryz.results89, go_sem]) rfl ⟨none, 0, 0, by rw [E.out], by rw [HC.out]; exact OwnB.nil _ _, (Below.refl _ _).alloc (Nat.le_refl _) _⟩
          · have f128 : (f == 128) = false := by simp; omega
            go_enter Tryz.func89, Tryz.ntmps89
            go_wp2_with (go_at_call 126; refine (refIsTag_any t _).mono ?_; rintro e w' ⟨rfl, hw⟩; subst hw; rw [HT.out])
            refine bodyPost_ret (v := .tuple #[.agg #[.int .i64 0, .slice none 0 0], .int .i64 0, .int .i64 12]) (by simp [results, Tryz.results89, go_sem]) rfl ⟨none, 0, 0, by rw [E.out], by rw [HC.out]; exact OwnB.nil _ _, (Below.refl _ _).alloc (Nat.le_refl _) _⟩
        · rw [hk] at c1
          have kk : ((128 : Int) + (k : Int) == 128) = false := by simp; omega
          clear hb1 hk
          rcases h2 with ⟨h3, h4, htl⟩ | ⟨h3, h4, htl⟩ | ⟨h3, h4, h5, htl⟩
          · have he : findS xs = (0, 0, 0, 12) := by rw [eF, htl]; simp
            have E := hide he
            have HC := hide (hbad _ he)
            have c2 := hs.cell 2 (by omega)
            rw [h4] at c2
            have hn2 : (2 : Int) < (n : Int) := by omega
            clear hl ht hT hbad hgood eF he htl h4
            go_enter Tryz.func89, Tryz.ntmps89
            go_wp2_with (go_at_call 126; refine (refIsTag_any t _).mono ?_; rintro e w' ⟨rfl, hw⟩; subst hw; rw [HT.out])
            refine bodyPost_ret (v := .tuple #[.agg #[.int .i64 0, .slice none 0 0], .int .i64 0, .int .i64 12]) (by simp [results, Tryz.results89, go_sem]) rfl ⟨none, 0, 0, by rw [E.out], by rw [HC.out]; exact OwnB.nil _ _, (Below.refl _ _).alloc (Nat.le_refl _) _⟩
          · have he : findS xs = (0, 0, 0, 10) := by rw [eF, htl]; simp
            have E := hide he
            have HC := hide (hbad _ he)
            have hn4 : (n : Int) < 2 + (128 + (k : Int) - 128) := by omega
            by_cases h6 : 2 < n
            · have c2 := hs.cell 2 (by omega)
              have h3' := h3 (by omega)
              obtain ⟨d, hd⟩ : ∃ d, xs.getD 2 0 = d := ⟨_, rfl⟩
              rw [hd] at c2 h3'
              have hdz : (d == 0) = false := by simpa using h3'
              have hn2 : (2 : Int) < (n : Int) := by omega
              clear hl ht hT hbad hgood eF he htl h3 h3' hd
              go_enter Tryz.func89, Tryz.ntmps89
              go_wp2_with (go_at_call 126; refine (refIsTag_any t _).mono ?_; rintro e w' ⟨rfl, hw⟩; subst hw; rw [HT.out])
              refine bodyPost_ret (v := .tuple #[.agg #[.int .i64 0, .slice none 0 0], .int .i64 0, .int .i64 10]) (by simp [results, Tryz.results89, go_sem]) rfl ⟨none, 0, 0, by rw [E.out], by rw [HC.out]; exact OwnB.nil _ _, (Below.refl _ _).alloc (Nat.le_refl _) _⟩
            · have hn2 : ¬ (2 : Int) < (n : Int) := by omega
              clear hl ht hT hbad hgood eF he htl h3
              go_enter Tryz.func89, Tryz.ntmps89
              go_wp2_with (go_at_call 126; refine (refIsTag_any t _).mono ?_; rintro e w' ⟨rfl, hw⟩; subst hw; rw [HT.out])
              refine bodyPost_ret (v := .tuple #[.agg #[.int .i64 0, .slice none 0 0], .int .i64 0, .int .i64 10]) (by simp [results, Tryz.results89, go_sem]) rfl ⟨none, 0, 0, by rw [E.out], by rw [HC.out]; exact OwnB.nil _ _, (Below.refl _ _).alloc (Nat.le_refl _) _⟩
          · have c2 := hs.cell 2 (by omega)
            obtain ⟨d, hd⟩ : ∃ d, xs.getD 2 0 = d := ⟨_, rfl⟩
            rw [hd] at c2 h4
            have hdz : (d == 0) = false := by simpa using h4
            have hn2 : (2 : Int) < (n : Int) := by omega
            have hn4 : ¬ (n : Int) < 2 + (128 + (k : Int) - 128) := by omega
            have HTL := hide htl
            have HF := hide eF
            have HG := hide hgood
            have HB := hide hbad
            have HLN := hide hl
            clear hl ht hT hbad hgood eF htl hd h4
            go_enter Tryz.func89, Tryz.ntmps89
            go_wp2_with (go_at_call 126; refine (refIsTag_any t _).mono ?_; rintro e w' ⟨rfl, hw⟩; subst hw; rw [HT.out])
            go_loop [5, 8] (fun a i => ∃ j : Nat, j ≤ k ∧ i = .int .i64 j ∧ a = .int .i64 (numOf ((xs.drop 2).take j))) (fun _ i => k - (intOf i).toNat)
            case atStart => exact ⟨0, Nat.zero_le _, rfl, rfl⟩
            case round =>
              obtain ⟨j, hj, rfl, rfl⟩ := hrel
              have hbd := numPart (xs.drop 2) j (by omega) (fun x hx => hs.hbyt x (List.mem_of_mem_drop hx))
              by_cases hlt : j < k
              · have dj := hs.cell (2 + j) (by omega)
                have hbj := hs.byte (2 + j)
                have hsn := hide (numTake (xs.drop 2) j (by rw [List.length_drop, HLN.out]; omega))
                have e2 : (xs.drop 2).getD j 0 = xs.getD (2 + j) 0 := by simp [List.getD]
                obtain ⟨dv, hdv⟩ : ∃ dv, xs.getD (2 + j) 0 = dv := ⟨_, rfl⟩
                rw [hdv] at dj hbj e2
                have HV := hide e2
                obtain ⟨N, hN'⟩ : ∃ N, numOf ((xs.drop 2).take j) = N := ⟨_, rfl⟩
                rw [hN'] at hbd
                rw [hN']
                have HN := hide hN'
                clear hN' hdv e2
                obtain ⟨q1, q2⟩ := hbd
                obtain ⟨q3, q4⟩ := hbj
                have hjn : (2 : Int) + (j : Int) < (n : Int) := by omega
                go_wp2
                go_round
                case rel => exact ⟨j + 1, by omega, by go_num, by rw [hsn.out, HN.out, HV.out, Int.mul_comm]⟩
                case measure => simp [intOf]; omega
              · obtain rfl : j = k := by omega
                obtain ⟨N, hN'⟩ : ∃ N, numOf ((xs.drop 2).take j) = N := ⟨_, rfl⟩
                have htl := HTL.out
                rw [hN'] at hbd htl
                rw [hN']
                clear hN' HTL
                obtain ⟨M, rfl⟩ := Int.eq_ofNat_of_zero_le hbd.1
                have eF := HF.out
                rw [htl] at eF
                by_cases h7 : (M : Int) ≤ 127
                · rw [if_pos h7] at eF
                  simp only [] at eF
                  rw [if_pos (by decide)] at eF
                  have E := hide eF
                  have HC := hide (HB.out _ eF)
                  have h7' : (M : Int) < 128 := by omega
                  clear eF htl
                  go_wp2
                  refine bodyPost_ret (v := .tuple #[.agg #[.int .i64 0, .slice none 0 0], .int .i64 0, .int .i64 12]) (by simp [results, Tryz.results89, go_sem]) rfl ⟨none, 0, 0, by rw [E.out], by rw [HC.out]; exact OwnB.nil _ _, (Below.refl _ _).alloc (Nat.le_refl _) _⟩
                · rw [if_neg h7] at eF
                  simp only [] at eF
                  rw [if_neg (by decide)] at eF
                  have h7' : ¬ (M : Int) < 128 := by omega
                  by_cases h8 : (n : Int) - (1 + (1 + (j : Int))) < (M : Int)
                  · rw [if_pos h8] at eF
                    have E := hide eF
                    have HC := hide (HB.out _ eF)
                    have h8' : (n : Int) - (2 + (128 + (j : Int) - 128)) < (M : Int) := by omega
                    clear eF htl
                    go_wp2
                    refine bodyPost_ret (v := .tuple #[.agg #[.int .i64 0, .slice none 0 0], .int .i64 0, .int .i64 10]) (by simp [results, Tryz.results89, go_sem]) rfl ⟨none, 0, 0, by rw [E.out], by rw [HC.out]; exact OwnB.nil _ _, (Below.refl _ _).alloc (Nat.le_refl _) _⟩
                  · rw [if_neg h8] at eF
                    have eF' : findS xs = (t, ((2 + j : Nat) : Int), ((2 + j + M : Nat) : Int), 0) := by rw [eF]; simp; omega
                    have E := hide (show findS xs = (t, 2 + (128 + (j : Int) - 128), 2 + (128 + (j : Int) - 128) + (M : Int), 0) by rw [eF]; simp; omega)
                    have HC := hide (HG.out _ _ _ eF')
                    have h8' : ¬ (n : Int) - (2 + (128 + (j : Int) - 128)) < (M : Int) := by omega
                    have hs1 := hs.cut (2 + j) (2 + j + M) (by omega) (by omega)
                    have sl := fun W => slice_lh W (some ⟨b, off, none⟩) n cap (2 + (128 + (j : Int) - 128)) (2 + (128 + (j : Int) - 128) + (M : Int)) (2 + j) (2 + j + M) (by omega) (by omega) (by omega) (by omega)
                    generalize cutA (some ⟨b, off, none⟩) cap (2 + j) = A at hs1 sl
                    generalize (xs.take (2 + j + M)).drop (2 + j) = ys at hs1 HC
                    rw [show 2 + j + M - (2 + j) = M by omega] at hs1
                    have sl' : ∀ W, (Instr.slice 64 (.slice (some ⟨b, off, none⟩) n cap) (some (.int .i64 (2 + (128 + (j : Int) - 128)))) (some (.int .i64 (2 + (128 + (j : Int) - 128) + (M : Int)))) none).run Tryz.prog W = .ok (.slice A M (cap - (2 + j))) W := by
                      intro W; rw [sl W, show 2 + j + M - (2 + j) = M by omega]
                    have hw : IntKind.i64.wrap (2 + (128 + (j : Int) - 128) + (M : Int)) = 2 + (128 + (j : Int) - 128) + (M : Int) := i64_in _ (by omega)
                    have hnN : 0 < n := by omega
                    have hbe : ¬ b = w.heap.size := by omega
                    have hbe' : ¬ w.heap.size = b := by omega
                    have hwt : IntKind.i64.wrap t = t := i64_in _ (by omega)
                    clear eF eF' htl sl
                    go_wp2
                    go_region_held3 (fun W => W.cell? ⟨b, off, none⟩ = some (.int .u8 t)) (go_keep) (first | (refine step_appN _ rfl (.tmp 85) (.tmp 91) rfl (w.heap.size + 1) (.slice (some ⟨w.heap.size + 1, 0, none⟩) 0 0) [] ?_ ?_ A M (cap - (2 + j)) ys ?_ ?_ M ?_ ?_ ?_ ?_ ?_; exact rfl; exact OwnB.litAt (w := w.alloc _) (w.heap.size + 1) _ [] _ 0 rfl rfl (by simp) (by simp) (by decide); exact rfl; exact ((hs1.alloc _).alloc _).drewN 1; (simpa using hs1.hlen); (exact .inl (by simp)); omega; (focus (simp; try omega)); intro g1 c1 w1 ho1 hb1 hl1 hc1 hm1 hg1; have k0 : w1.cell? ⟨b, off, none⟩ = some (.int .u8 t) := hg1.cell (cell?_alloc_lt2 hbl c0) (ne_own hbl); have j0 : w1.cell? ⟨w.heap.size, 0, none⟩ = some (.int .i64 0) := hg1.cell (by simp) (ne_own2 _); have j1 : w1.cell? ⟨w.heap.size, 1, none⟩ = some (.slice none 0 0) := hg1.cell (by simp) (ne_own2 _); have j2 := grown_frozen hg1 w.heap.size (by simp; omega) (ne_own2 _); have hz : w.heap.size + 1 < w1.heap.size := (by have := hg1.size; simp at this; omega)))
                    go_wp2
                    refine bodyPost_ret (v := .tuple #[.agg #[.int .i64 t, .slice (some ⟨g1, 0, none⟩) M c1], .int .i64 (2 + (128 + (j : Int) - 128) + (M : Int)), .int .i64 0]) (by simp [results, Tryz.results89, go_sem, j0, j1]) rfl ⟨_, _, _, by rw [E.out], ?_, ?_⟩
                    · rw [HC.out]
                      exact ((ho1.setBelow (by simp) _).setBelow (by simp) _).rebase (by omega)
                    · exact (((((((Below.refl _ _).alloc (Nat.le_refl _) _).alloc (by simp) _).drew).grown hg1 (by simp; omega) (by intro k hk; cases hk; exact Nat.le_succ _))).setCell (by simp) _).setCell (by simp) _

end Go.Proofs.YtklchpdpooikdaaGreatDoor
