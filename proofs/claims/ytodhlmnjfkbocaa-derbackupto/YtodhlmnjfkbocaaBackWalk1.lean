/-
  DerBack answers true at any elements and bytes, and writes nothing that was there.
-/
import Derived.Test.YtodhlmnjfkbocaaBackD
namespace Go.Proofs.Ytodhlmnjfkbocaa
open Go.RowKit Go.IntWalk Go.Shelf

set_option maxRecDepth 100000 in
set_option maxHeartbeats 4000000 in
theorem back_walk (al : Option Addr) (nl cl : Nat) (es : List (Int × List Int)) (ab : Option Addr) (nb cb : Nat) (bs : List Int) (w : World) (hE : Els w al nl cl es) (hb : Src w ab nb cb bs) (hn : (nb : Int) ≤ 1048576) :
    Calls Try.prog 5 #[.slice al nl cl, .slice ab nb cb] w fun e w' => e = .returned (.bool true) ∧ Below w.heap.size w w' := by
  have HL := hide hE.hl
  have EB := hide hE.byte
  have hnl : (nl : Int) ≤ 9223372036854775807 := by have h1 := hE.hcap; have h2 := hE.hmax; unfold maxLen at h2; omega
  go_enter Try.func5, Try.ntmps5
  go_wp2
  go_loopw [5, 6, 7, 8, 9, 10, 11, 12, 13, 14] (fun v i _ _ _ _ _ _ _ _ wr => ∃ (k m : Nat) (aO : Option Addr) (cO : Nat), k ≤ nl ∧ k ≤ 40 ∧ i = .int .i64 k ∧ v = .slice aO m cO ∧ (m : Int) ≤ 1048582 * k ∧ OwnB wr w.heap.size (.slice aO m cO) (catS ((es.take k).map rightE)) ∧ Below w.heap.size w wr) (fun _ i _ _ _ _ _ _ _ _ _ => 40 - (intOf i).toNat)
  case atStart => exact ⟨0, 0, none, 0, Nat.zero_le _, by omega, rfl, rfl, by simp, by simpa [catS] using OwnB.nil w w.heap.size, Below.refl _ _⟩
  case round =>
    obtain ⟨k, m, aO, cO, hk, hk40, rfl, rfl, hm, hO, hB⟩ := hrel
    have hBs := hB.size
    by_cases hlt : k < nl ∧ k < 40
    · obtain ⟨hlt, hlt4⟩ := hlt
      obtain ⟨b, off, rfl, hc⟩ := hE.hrd (by omega)
      obtain ⟨a, n0, c, c0, c1, sE⟩ := hc k hlt
      have hbl := lt_of_cell c0
      have c0 := (hB.cell (p := ⟨b, off + k * 2, none⟩) hbl).trans c0
      have c1 := (hB.cell (p := ⟨b, off + k * 2 + 1, none⟩) hbl).trans c1
      have sE := sE.below hB
      clear hc
      have hsn : Hid (catS ((es.take (k + 1)).map rightE) = catS ((es.take k).map rightE) ++ putB (rightE (es.getD k (0, [])))) := by
        unfold Hid
        have hk' : k < es.length := by rw [HL.out]; exact hlt
        rw [List.take_add_one, List.map_append, catS, catS, List.map_append, List.flatten_append]
        simp [List.getD, hk']
      generalize hel : es.getD k (0, []) = el at *
      have HEL := hide hel
      clear hel
      obtain ⟨t, xs⟩ := el
      simp only [] at c0 c1 sE
      have kI : (k : Int) < (nl : Int) := by omega
      have k4 : (k : Int) < 40 := by omega
      go_wp2_with fail
      refine (right_any t a n0 c xs _ sE).mono ?_
      rintro e w1 ⟨n', rfl, hn', B1⟩
      have sR := (sE.below B1).minN hn'
      obtain ⟨t1, t2⟩ := rightE_ok (t, xs)
      have hRb : Hid (∀ x ∈ (rightE (t, xs)).2, 0 ≤ x ∧ x < 256) := fun x hx => sE.hbyt x (List.mem_of_mem_take hx)
      have hPb := hide (putB_byte (rightE (t, xs)) t1 t2 hRb.out)
      have hOb : Hid (∀ x ∈ catS ((es.take k).map rightE), 0 ≤ x ∧ x < 256) := by
        intro x hx
        unfold catS at hx
        rw [List.mem_flatten] at hx
        obtain ⟨l, h1, h2⟩ := hx
        rw [List.mem_map] at h1
        obtain ⟨e, h3, rfl⟩ := h1
        rw [List.mem_map] at h3
        obtain ⟨e', h4, rfl⟩ := h3
        exact putB_byte _ (rightE_ok e').1 (rightE_ok e').2 (fun y hy => EB.out e' (List.mem_of_mem_take h4) y (List.mem_of_mem_take hy)) x h2
      have e1 := hide (putS_e [] (rightE (t, xs)) t1 t2)
      have e2 := hide (putS_e (catS ((es.take k).map rightE)) (rightE (t, xs)) t1 t2)
      have hPl : Hid ((putB (rightE (t, xs))).length ≤ 1048582) := by
        unfold Hid putB
        have h1 := lenB_len4 (rightE (t, xs)).2.length
        have h2 : (rightE (t, xs)).2.length ≤ 1048576 := by unfold rightE; simp; omega
        simp
        omega
      obtain ⟨eF, eC⟩ := elS_put [] bs (rightE (t, xs)) t1 t2
      have hF : Hid (findS (putB (rightE (t, xs)) ++ bs) = (rtag t, ((1 + (lenB (rightE (t, xs)).2.length).length : Nat) : Int), ((putB (rightE (t, xs))).length : Int), 0)) := eF
      have hC : Hid (contS (putB (rightE (t, xs)) ++ bs) = (rightE (t, xs)).2) := congrArg Prod.snd eC
      have hR2 : (rightE (t, xs)).2 = xs.take 1048576 := rfl
      have hR1 : (rightE (t, xs)).1 = rtag t := rfl
      rw [hR1, hR2] at e1 e2
      rw [hR2] at hC hRb
      clear eF eC hR1 hR2
      have hsz : Hid ((putB (rightE (t, xs))).length = (lenB (xs.take 1048576).length).length + 1 + (xs.take 1048576).length) := by unfold Hid putB rightE; simp; omega
      generalize putB (rightE (t, xs)) = pb at *
      generalize catS ((es.take k).map rightE) = A at *
      have k1 := Box.new w1 (rtag t) (.slice a n' c) 34
      have P1 := parts1 (sR.alloc (.cells #[.int .i64 (rtag t), .slice a n' c] 34))
      simp only [World.size_alloc] at P1
      go_wp2_with fail
      refine (put_any none 0 0 [] (rtag t) _ 1 1 [.slice a n' c] [xs.take 1048576] _ (src_nil _) P1 (by omega) (by omega)).mono ?_
      rintro e w2 ⟨aP, mP, cP, rfl, oP, B2⟩
      rw [e1.out] at oP ⊢
      simp only [List.nil_append] at oP ⊢
      have k1 := (k1.alloc (.cells #[.slice a n' c] 22)).below B2
      have d0 := k1.c0
      have d1 := k1.c1
      have C1 : Below wr.heap.size wr w1 := B1
      have C2 : Below wr.heap.size wr w2 := step_below (C1.alloc C1.size _) (by have := C1.size; simp; omega) _ B2
      have sO := (hO.toSrc hOb.out).below C2
      have sR := (((sR.alloc (.cells #[.int .i64 (rtag t), .slice a n' c] 34)).alloc (.cells #[.slice a n' c] 22)).below B2)
      have P2 := parts1 sR
      go_wp2_with fail
      refine (put_any aO m cO _ (rtag t) _ 1 1 [.slice a n' c] [xs.take 1048576] _ (sO.alloc _) P2 (by omega) (by omega)).mono ?_
      rintro e w3 ⟨aN, mN, cN, rfl, oN, B3⟩
      rw [e2.out] at oN ⊢
      simp only [] at oN ⊢
      clear d0 d1
      have k1 := (k1.alloc (.cells #[.slice a n' c] 22)).below B3
      have C3 : Below wr.heap.size wr w3 := step_below C2 C2.size _ B3
      have sP := ((oP.toSrc hPb.out).alloc (.cells #[.slice a n' c] 22)).below B3
      have lP := hide sP.hlen
      have sB := (hb.below hB).below C3
      have lB := hide sB.hlen
      have hmP : mP ≤ 1048582 := by have := hPl.out; have := lP.out; omega
      go_wp2_with (first | (at_builtin; refine wpList_appN _ rfl (.tmp 54) (.tmp 55) rfl w3.heap.size (.slice (some ⟨w3.heap.size, 0, none⟩) 0 0) [] rfl (OwnB.lit _ [] _ 0 rfl rfl (Nat.le_refl _) (by decide)) aP mP cP pb rfl (sP.alloc _) mP (by simpa using lP.out) (.inl (by simp)) (by omega) (by simp) ?_; intro g1 cc1 w4 ho1 hb1 hl1 hc1 hm1 hg1) | (at_builtin; refine wpList_appN _ rfl (.tmp 56) (.tmp 57) rfl w3.heap.size (.slice (some ⟨g1, 0, none⟩) mP cc1) pb rfl ho1 ab nb cb bs rfl ?_ (mP + nb) ?_ (.inl (by simp)) (by omega) (by omega) ?_; exact (sB.alloc _).grown hg1 (by intro b' off' he hx h'; have h1 := sB.blk b' off' he hx; simp [Value.ownBlock] at h'; omega); (rw [List.length_append, lP.out, lB.out]); intro g2 cc2 w5 ho2 hb2 hl2 hc2 hm2 hg2))
      have Z := hide (show Below w3.heap.size w3 w5 from (((Below.refl _ _).alloc (Nat.le_refl _) _).grown hg1 (by simp) (by intro k hk; cases hk; exact Nat.le_refl _)).grown hg2 (by have := hg1.size; simp at this; omega) (by intro k hk; cases hk; exact hb1))
      have sZ := ho2.toSrc (by intro x hx; rcases List.mem_append.1 hx with hx | hx; exact hPb.out x hx; exact sB.hbyt x hx)
      refine (take_any _ (mP + nb) cc2 (pb ++ bs) _ sZ (by omega)).mono ?_
      rintro e w6 ⟨aY, mY, cY, rfl, oY, B6⟩
      rw [hC.out] at oY
      rw [hF.out]
      simp only []
      have C6 : Below wr.heap.size wr w6 := (C3.trans (Z.out.mono C3.size)).trans (B6.mono (Nat.le_trans C3.size Z.out.size))
      have E6 : Below w3.heap.size w3 w6 := Z.out.trans (B6.mono Z.out.size)
      clear ho1 ho2 hg1 hg2 sZ hb1 hl1 hc1 hm1 hb2 hl2 hc2 hm2
      go_wp2_with fail
      rw [lP.out]
      have lR := hide sR.hlen
      have hnn : (n' : Int) ≤ 1048576 := by have := hn'.out; omega
      obtain ⟨Zs, hZs⟩ : ∃ Zs : Nat, sizeN (n' : Int) = (Zs : Int) := ⟨1 + (lenB n').length, by rw [sizeN_eq n' (by omega)]; simp⟩
      have hZ5 : (Zs : Int) ≤ 5 := by have h1 := sizeN_eq n' (by omega); have h2 := lenB_len4 n'; omega
      have hmz : Hid ((mP : Int) = (Zs : Int) + (n' : Int)) := by
        unfold Hid
        have h1 := hsz.out
        rw [lP.out, lR.out] at h1
        have h2 := sizeN_eq n' (by omega)
        omega
      have g1 : ((mP : Int) != (mP : Int)) = false := by simp
      have gw : IntKind.i64.wrap ((Zs : Int) + (n' : Int)) = (Zs : Int) + (n' : Int) := i64_in _ (by omega)
      have g2 : ((mP : Int) != (Zs : Int) + (n' : Int)) = false := by rw [← hmz.out]; simp
      have g3 : alikeB (rtag t) (rtag t) (xs.take 1048576) (xs.take 1048576) = true := by simp [alikeB]
      have G3 := hide g3
      have HZ := hide hZs
      clear g3 hZs
      have k1 := (k1.below E6).alloc (.cells #[.int .i64 (rtag t), .slice aY mY cY] 34)
      have k2 := Box.new w6 (rtag t) (.slice aY mY cY) 34
      have p0 := k1.c0
      have p1 := k1.c1
      have r0 := k2.c0
      have r1 := k2.c1
      have sX := hide (((sR.alloc (.cells #[.slice a n' c] 22)).below B3).below E6 |>.alloc (.cells #[.int .i64 (rtag t), .slice aY mY cY] 34))
      have sY := hide ((oY.toSrc hRb.out).alloc (.cells #[.int .i64 (rtag t), .slice aY mY cY] 34))
      have hNb : Hid (∀ x ∈ A ++ pb, 0 ≤ x ∧ x < 256) := by
        intro x hx
        rcases List.mem_append.1 hx with hx | hx
        · exact hOb.out x hx
        · exact hPb.out x hx
      have sN := hide (((oN.toSrc hNb.out).below E6).alloc (.cells #[.int .i64 (rtag t), .slice aY mY cY] 34))
      have sO := hide (((hO.toSrc hOb.out).below C6).alloc (.cells #[.int .i64 (rtag t), .slice aY mY cY] 34))
      have sP := hide ((sP.below E6).alloc (.cells #[.int .i64 (rtag t), .slice aY mY cY] 34))
      have tN := textD sN.out
      have tO := textD sO.out
      have tP := textD sP.out
      have ae := strOf_append (A) pb
      have ad : ¬ 9223372036854775807 < (strOfNums (A)).size + (strOfNums pb).size := by
        rw [strOfNums_size, strOfNums_size, sO.out.hlen, lP.out]; omega
      have hq : ((strOfNums (A ++ pb)).toList == (strOfNums (A ++ pb)).toList) = true := by simp
      have w61 : w1.heap.size < w6.heap.size := by
        have h1 := E6.size; have h2 := B3.size; have h3 := B2.size
        simp at h2 h3; omega
      go_region_held3 (fun W => W.cell? ⟨w1.heap.size, 0, none⟩ = some (.int .i64 (rtag t)) ∧ W.cell? ⟨w1.heap.size, 1, none⟩ = some (.slice a n' c) ∧ W.cell? ⟨w6.heap.size, 0, none⟩ = some (.int .i64 (rtag t)) ∧ W.cell? ⟨w6.heap.size, 1, none⟩ = some (.slice aY mY cY) ∧ (convert 22 9 (.slice aN mN cN)).run Try.prog W = .ok (.string (strOfNums (A ++ pb))) W ∧ (convert 22 9 (.slice aO m cO)).run Try.prog W = .ok (.string (strOfNums (A))) W ∧ (convert 22 9 (.slice aP mP cP)).run Try.prog W = .ok (.string (strOfNums pb)) W)
        (go_keep)
        (first | (go_at_call 22; refine (size_any n' _).mono ?_; rintro e w7 ⟨rfl, hw⟩; have hw2 := hw.symm; subst hw2; rw [HZ.out]) | (go_at_call 23; refine (alike_any (rtag t) (rtag t) _ _ _ _ _ _ (xs.take 1048576) (xs.take 1048576) _ ?_ ?_).mono ?_; exact sX.out.heap rfl; exact sY.out.heap rfl; rintro e w7 ⟨rfl, B7⟩; rw [G3.out]; have m1 := boxB k1 B7; have m2 := boxB k2 B7; have x0 := m1.c0; have x1 := m1.c1; have y0 := m2.c0; have y1 := m2.c1; have uN := textB sN.out B7; have uO := textB sO.out B7; have uP := textB sP.out B7))
      have oN := (oN.belowA E6).alloc (.cells #[.int .i64 (rtag t), .slice aY mY cY] 34)
      have lN := hide sN.out.hlen
      have lO := hide sO.out.hlen
      have C7 : Below wr.heap.size wr w7 := (C6.alloc C6.size _).drew.trans (B7.mono (by have := C6.size; simp; omega))
      have oN7 : OwnB w7 w.heap.size (.slice aN mN cN) (A ++ pb) := ((show OwnB (World.drew _) _ _ _ from oN.heap rfl).belowA B7).rebase (by have := C2.size; simp; omega)
      have hmN : (mN : Int) ≤ 1048582 * ((k + 1 : Nat) : Int) := by
        have h1 := lN.out
        rw [List.length_append, lO.out, lP.out] at h1
        omega
      clear p0 p1 r0 r1 tN tO tP x0 x1 y0 y1 uN uO uP ae ad hq g1 g2 gw
      go_wp2
      go_roundw
      case rel => exact ⟨k + 1, mN, aN, cN, by omega, by omega, by go_num, rfl, hmN, by rw [hsn.out]; exact oN7, hB.trans (C7.mono hBs)⟩
      case measure => simp [intOf]; omega
    · by_cases h1 : k < nl
      · have h1' : (k : Int) < (nl : Int) := by omega
        have h2' : ¬ (k : Int) < 40 := by omega
        have g4 : ((k : Int) != 40) = false := by simp; omega
        clear hlt
        obtain ⟨rs, hrs⟩ : ∃ rs, (es.take k).map rightE = rs := ⟨_, rfl⟩
        have hrl : rs.length = k := by rw [← hrs, List.length_map, List.length_take, HL.out]; omega
        have hrok : ∀ e ∈ rs, isTagB e.1 = true ∧ e.2.length < 16777216 := by
          intro e he
          rw [← hrs, List.mem_map] at he
          obtain ⟨e', _, rfl⟩ := he
          exact rightE_ok e'
        have hrb : Hid (∀ x ∈ catS rs, 0 ≤ x ∧ x < 256) := by
          intro x hx
          unfold catS at hx
          rw [List.mem_flatten] at hx
          obtain ⟨l, h1, h2⟩ := hx
          rw [List.mem_map] at h1
          obtain ⟨e, h3, rfl⟩ := h1
          have h3' := h3
          rw [← hrs, List.mem_map] at h3
          obtain ⟨e', h4, rfl⟩ := h3
          exact putB_byte _ (rightE_ok e').1 (rightE_ok e').2 (fun y hy => EB.out e' (List.mem_of_mem_take h4) y (List.mem_of_mem_take hy)) x h2
        obtain ⟨hp1, hp2⟩ := places_all rs hrok
        rw [hrs] at hO
        have HRS := hide hrs
        clear hrs
        have sO := hO.toSrc hrb.out
        have lO := hide sO.hlen
        have hpl : (placesS (catS rs) 0).length = k := by have h1 := congrArg List.length hp1; rw [List.length_map, hrl] at h1; exact h1
        go_wp2_with fail
        refine (callsIn_wide.1 (all_in aO m cO (catS rs) _ sO (by omega))).mono ?_
        rintro e w8 ⟨v, pl, err, rfl, ⟨a1, a2, a3⟩, B8⟩
        rw [hp2] at a1
        obtain ⟨rfl, cs, hrow, hmat, _⟩ := a3 (by rw [hp2]; omega)
        rw [hp1] at hmat
        rw [hpl] at hrow
        rw [lO.out] at a1
        subst a1
        clear a2 a3 hp1 hp2 hpl
        obtain ⟨aV, cV, rfl⟩ : ∃ aV cV, v = .slice aV k cV := by
          rcases hrow.2 with ⟨h1, h2⟩ | ⟨g, c, _, rfl, _⟩
          · subst h1; rw [h2]; exact ⟨_, _, rfl⟩
          · exact ⟨_, _, rfl⟩
        have g1 : ((m : Int) != (m : Int)) = false := by simp
        have g2 : min (nl : Int) 40 = (k : Int) := by omega
        have g3 : ((k : Int) != (k : Int)) = false := by simp
        have HRL := hide hrl
        clear hrl hrok
        have L8 : Below w.heap.size w w8 := hB.trans (B8.mono hBs)
        have hkk : (k : Int) ≤ 40 := by omega
        go_wp2
        go_loopw [18] (fun i wr => ∃ j : Nat, j ≤ k ∧ i = .int .i64 j ∧ Below w8.heap.size w8 wr) (fun i _ => k - (intOf i).toNat)
        case atStart => exact ⟨0, Nat.zero_le _, rfl, Below.refl _ _⟩
        case round =>
          obtain ⟨j, hj, rfl, hQ⟩ := hrel
          by_cases hjk : j < k
          · obtain ⟨b, off, rfl, hc⟩ := hE.hrd (by omega)
            obtain ⟨a, n0, c, c0, c1, sE⟩ := hc j (by omega)
            obtain ⟨ao', m', c', f0, f1, f2⟩ := hmat.get j (by rw [HRL.out]; exact hjk)
            obtain ⟨gV, rfl⟩ : ∃ gV, aV = some ⟨gV, 0, none⟩ := by
              rcases hrow.2 with ⟨h1, h2⟩ | ⟨g, c, _, h1, _⟩
              · omega
              · simp at h1; exact ⟨g, h1.1⟩
            have f0 := World.ownsRow.cells hrow (g := gV) rfl (2 * j) _ f0
            have f1 := World.ownsRow.cells hrow (g := gV) rfl (2 * j + 1) _ f1
            rw [add_none, Nat.zero_add, Nat.mul_comm] at f0 f1
            have hel : Hid (rs.getD j (0, []) = rightE (es.getD j (0, []))) := by
              unfold Hid
              rw [← HRS.out]
              have h1 : j < es.length := by rw [HL.out]; omega
              simp [List.getD, h1, hjk]
            rw [hel.out] at f0 f2
            generalize es.getD j (0, []) = el at c0 c1 sE f0 f2
            obtain ⟨t, xs⟩ := el
            simp only [] at c0 c1 sE
            have f0 : w8.cell? ⟨gV, j * 2, none⟩ = some (.int .i64 (rtag t)) := f0
            have f2 : OwnB w8 _ (.slice ao' m' c') (xs.take 1048576) := f2
            have hgl : gV < w8.heap.size := lt_of_cell f0
            have hbl : b < w.heap.size := lt_of_cell c0
            have L9 : Below w.heap.size w wr := L8.trans (hQ.mono L8.size)
            have f0 := (hQ.cell (p := ⟨gV, j * 2, none⟩) hgl).trans f0
            have f1 := (hQ.cell (p := ⟨gV, j * 2 + 1, none⟩) hgl).trans f1
            have c0 := (L9.cell (p := ⟨b, off + j * 2, none⟩) hbl).trans c0
            have c1 := (L9.cell (p := ⟨b, off + j * 2 + 1, none⟩) hbl).trans c1
            have hRb : Hid (∀ x ∈ xs.take 1048576, 0 ≤ x ∧ x < 256) := fun x hx => sE.hbyt x (List.mem_of_mem_take hx)
            have sF := hide ((f2.toSrc hRb.out).below hQ)
            have sE := hide (sE.below L9)
            have G3 := hide (show alikeB (rtag t) (rtag t) (xs.take 1048576) (xs.take 1048576) = true by simp [alikeB])
            have jI : (j : Int) < (k : Int) := by omega
            have jN : (j : Int) < (nl : Int) := by omega
            have q1 : gV < wr.heap.size := by have := hQ.size; omega
            have q2 : b < wr.heap.size := by have := L9.size; omega
            clear f2 hc
            go_wp2_with fail
            go_region_held3 (fun W => W.cell? ⟨gV, j * 2, none⟩ = some (.int .i64 (rtag t)) ∧ W.cell? ⟨gV, j * 2 + 1, none⟩ = some (.slice ao' m' c') ∧ W.cell? ⟨b, off + j * 2, none⟩ = some (.int .i64 t) ∧ W.cell? ⟨b, off + j * 2 + 1, none⟩ = some (.slice a n0 c))
              (go_keep)
              (first | (go_at_call 19; refine (right_any t a n0 c xs _ ?_).mono ?_; exact sE.out.heap rfl; rintro e w9 ⟨n', rfl, hn', B9⟩; have x0 := (B9.cell (p := ⟨gV, j * 2, none⟩) q1).trans f0; have x1 := (B9.cell (p := ⟨gV, j * 2 + 1, none⟩) q1).trans f1; have x2 := (B9.cell (p := ⟨b, off + j * 2, none⟩) q2).trans c0; have x3 := (B9.cell (p := ⟨b, off + j * 2 + 1, none⟩) q2).trans c1) | (go_at_call 23; refine (alike_any (rtag t) (rtag t) _ _ _ _ _ _ (xs.take 1048576) (xs.take 1048576) _ ?_ ?_).mono ?_; exact srcB sF.out B9; exact (srcB sE.out B9).minN hn'; rintro e w10 ⟨rfl, B10⟩; rw [G3.out]; have y0 := (B10.cell (p := ⟨gV, j * 2, none⟩) (by have := B9.size; simp at this; show gV < w9.heap.size; omega)).trans x0; have y1 := (B10.cell (p := ⟨gV, j * 2 + 1, none⟩) (by have := B9.size; simp at this; show gV < w9.heap.size; omega)).trans x1; have y2 := (B10.cell (p := ⟨b, off + j * 2, none⟩) (by have := B9.size; simp at this; show b < w9.heap.size; omega)).trans x2; have y3 := (B10.cell (p := ⟨b, off + j * 2 + 1, none⟩) (by have := B9.size; simp at this; show b < w9.heap.size; omega)).trans x3))
            have Q9 : Below w8.heap.size w8 w9 := hQ.drew.trans (B9.mono (by have := hQ.size; simp; omega))
            have Q10 : Below w8.heap.size w8 w10 := Q9.trans (B10.mono Q9.size)
            go_wp2
            go_roundw
            case rel => exact ⟨j + 1, by omega, by go_num, Q10⟩
            case measure => simp [intOf]; omega
          · have jI : ¬ (j : Int) < (k : Int) := by omega
            have hz : sizeN 0 = 2 := by decide
            go_wp2_with (go_at_call 22; refine (size_any 0 _).mono ?_; rintro e w9 ⟨rfl, hw⟩; have hw2 := hw.symm; subst hw2; rw [hz])
            go_ret
            exact ⟨by simp, L8.trans (hQ.mono L8.size)⟩
      · have h1' : ¬ (k : Int) < (nl : Int) := by omega
        have g4 : ((k : Int) != (nl : Int)) = false := by simp; omega
        have g5 : (nl : Int) ≤ 40 := by omega
        clear hlt
        obtain ⟨rs, hrs⟩ : ∃ rs, (es.take k).map rightE = rs := ⟨_, rfl⟩
        have hrl : rs.length = k := by rw [← hrs, List.length_map, List.length_take, HL.out]; omega
        have hrok : ∀ e ∈ rs, isTagB e.1 = true ∧ e.2.length < 16777216 := by
          intro e he
          rw [← hrs, List.mem_map] at he
          obtain ⟨e', _, rfl⟩ := he
          exact rightE_ok e'
        have hrb : Hid (∀ x ∈ catS rs, 0 ≤ x ∧ x < 256) := by
          intro x hx
          unfold catS at hx
          rw [List.mem_flatten] at hx
          obtain ⟨l, h1, h2⟩ := hx
          rw [List.mem_map] at h1
          obtain ⟨e, h3, rfl⟩ := h1
          have h3' := h3
          rw [← hrs, List.mem_map] at h3
          obtain ⟨e', h4, rfl⟩ := h3
          exact putB_byte _ (rightE_ok e').1 (rightE_ok e').2 (fun y hy => EB.out e' (List.mem_of_mem_take h4) y (List.mem_of_mem_take hy)) x h2
        obtain ⟨hp1, hp2⟩ := places_all rs hrok
        rw [hrs] at hO
        have HRS := hide hrs
        clear hrs
        have sO := hO.toSrc hrb.out
        have lO := hide sO.hlen
        have hpl : (placesS (catS rs) 0).length = k := by have h1 := congrArg List.length hp1; rw [List.length_map, hrl] at h1; exact h1
        go_wp2_with fail
        refine (callsIn_wide.1 (all_in aO m cO (catS rs) _ sO (by omega))).mono ?_
        rintro e w8 ⟨v, pl, err, rfl, ⟨a1, a2, a3⟩, B8⟩
        rw [hp2] at a1
        obtain ⟨rfl, cs, hrow, hmat, _⟩ := a3 (by rw [hp2]; omega)
        rw [hp1] at hmat
        rw [hpl] at hrow
        rw [lO.out] at a1
        subst a1
        clear a2 a3 hp1 hp2 hpl
        obtain ⟨aV, cV, rfl⟩ : ∃ aV cV, v = .slice aV k cV := by
          rcases hrow.2 with ⟨h1, h2⟩ | ⟨g, c, _, rfl, _⟩
          · subst h1; rw [h2]; exact ⟨_, _, rfl⟩
          · exact ⟨_, _, rfl⟩
        have g1 : ((m : Int) != (m : Int)) = false := by simp
        have g2 : min (nl : Int) 40 = (k : Int) := by omega
        have g3 : ((k : Int) != (k : Int)) = false := by simp
        have HRL := hide hrl
        clear hrl hrok
        have L8 : Below w.heap.size w w8 := hB.trans (B8.mono hBs)
        have hkk : (k : Int) ≤ 40 := by omega
        go_wp2
        go_loopw [18] (fun i wr => ∃ j : Nat, j ≤ k ∧ i = .int .i64 j ∧ Below w8.heap.size w8 wr) (fun i _ => k - (intOf i).toNat)
        case atStart => exact ⟨0, Nat.zero_le _, rfl, Below.refl _ _⟩
        case round =>
          obtain ⟨j, hj, rfl, hQ⟩ := hrel
          by_cases hjk : j < k
          · obtain ⟨b, off, rfl, hc⟩ := hE.hrd (by omega)
            obtain ⟨a, n0, c, c0, c1, sE⟩ := hc j (by omega)
            obtain ⟨ao', m', c', f0, f1, f2⟩ := hmat.get j (by rw [HRL.out]; exact hjk)
            obtain ⟨gV, rfl⟩ : ∃ gV, aV = some ⟨gV, 0, none⟩ := by
              rcases hrow.2 with ⟨h1, h2⟩ | ⟨g, c, _, h1, _⟩
              · omega
              · simp at h1; exact ⟨g, h1.1⟩
            have f0 := World.ownsRow.cells hrow (g := gV) rfl (2 * j) _ f0
            have f1 := World.ownsRow.cells hrow (g := gV) rfl (2 * j + 1) _ f1
            rw [add_none, Nat.zero_add, Nat.mul_comm] at f0 f1
            have hel : Hid (rs.getD j (0, []) = rightE (es.getD j (0, []))) := by
              unfold Hid
              rw [← HRS.out]
              have h1 : j < es.length := by rw [HL.out]; omega
              simp [List.getD, h1, hjk]
            rw [hel.out] at f0 f2
            generalize es.getD j (0, []) = el at c0 c1 sE f0 f2
            obtain ⟨t, xs⟩ := el
            simp only [] at c0 c1 sE
            have f0 : w8.cell? ⟨gV, j * 2, none⟩ = some (.int .i64 (rtag t)) := f0
            have f2 : OwnB w8 _ (.slice ao' m' c') (xs.take 1048576) := f2
            have hgl : gV < w8.heap.size := lt_of_cell f0
            have hbl : b < w.heap.size := lt_of_cell c0
            have L9 : Below w.heap.size w wr := L8.trans (hQ.mono L8.size)
            have f0 := (hQ.cell (p := ⟨gV, j * 2, none⟩) hgl).trans f0
            have f1 := (hQ.cell (p := ⟨gV, j * 2 + 1, none⟩) hgl).trans f1
            have c0 := (L9.cell (p := ⟨b, off + j * 2, none⟩) hbl).trans c0
            have c1 := (L9.cell (p := ⟨b, off + j * 2 + 1, none⟩) hbl).trans c1
            have hRb : Hid (∀ x ∈ xs.take 1048576, 0 ≤ x ∧ x < 256) := fun x hx => sE.hbyt x (List.mem_of_mem_take hx)
            have sF := hide ((f2.toSrc hRb.out).below hQ)
            have sE := hide (sE.below L9)
            have G3 := hide (show alikeB (rtag t) (rtag t) (xs.take 1048576) (xs.take 1048576) = true by simp [alikeB])
            have jI : (j : Int) < (k : Int) := by omega
            have jN : (j : Int) < (nl : Int) := by omega
            have q1 : gV < wr.heap.size := by have := hQ.size; omega
            have q2 : b < wr.heap.size := by have := L9.size; omega
            clear f2 hc
            go_wp2_with fail
            go_region_held3 (fun W => W.cell? ⟨gV, j * 2, none⟩ = some (.int .i64 (rtag t)) ∧ W.cell? ⟨gV, j * 2 + 1, none⟩ = some (.slice ao' m' c') ∧ W.cell? ⟨b, off + j * 2, none⟩ = some (.int .i64 t) ∧ W.cell? ⟨b, off + j * 2 + 1, none⟩ = some (.slice a n0 c))
              (go_keep)
              (first | (go_at_call 19; refine (right_any t a n0 c xs _ ?_).mono ?_; exact sE.out.heap rfl; rintro e w9 ⟨n', rfl, hn', B9⟩; have x0 := (B9.cell (p := ⟨gV, j * 2, none⟩) q1).trans f0; have x1 := (B9.cell (p := ⟨gV, j * 2 + 1, none⟩) q1).trans f1; have x2 := (B9.cell (p := ⟨b, off + j * 2, none⟩) q2).trans c0; have x3 := (B9.cell (p := ⟨b, off + j * 2 + 1, none⟩) q2).trans c1) | (go_at_call 23; refine (alike_any (rtag t) (rtag t) _ _ _ _ _ _ (xs.take 1048576) (xs.take 1048576) _ ?_ ?_).mono ?_; exact srcB sF.out B9; exact (srcB sE.out B9).minN hn'; rintro e w10 ⟨rfl, B10⟩; rw [G3.out]; have y0 := (B10.cell (p := ⟨gV, j * 2, none⟩) (by have := B9.size; simp at this; show gV < w9.heap.size; omega)).trans x0; have y1 := (B10.cell (p := ⟨gV, j * 2 + 1, none⟩) (by have := B9.size; simp at this; show gV < w9.heap.size; omega)).trans x1; have y2 := (B10.cell (p := ⟨b, off + j * 2, none⟩) (by have := B9.size; simp at this; show b < w9.heap.size; omega)).trans x2; have y3 := (B10.cell (p := ⟨b, off + j * 2 + 1, none⟩) (by have := B9.size; simp at this; show b < w9.heap.size; omega)).trans x3))
            have Q9 : Below w8.heap.size w8 w9 := hQ.drew.trans (B9.mono (by have := hQ.size; simp; omega))
            have Q10 : Below w8.heap.size w8 w10 := Q9.trans (B10.mono Q9.size)
            go_wp2
            go_roundw
            case rel => exact ⟨j + 1, by omega, by go_num, Q10⟩
            case measure => simp [intOf]; omega
          · have jI : ¬ (j : Int) < (k : Int) := by omega
            have hz : sizeN 0 = 2 := by decide
            go_wp2_with (go_at_call 22; refine (size_any 0 _).mono ?_; rintro e w9 ⟨rfl, hw⟩; have hw2 := hw.symm; subst hw2; rw [hz])
            go_ret
            exact ⟨by simp, L8.trans (hQ.mono L8.size)⟩

end Go.Proofs.Ytodhlmnjfkbocaa
