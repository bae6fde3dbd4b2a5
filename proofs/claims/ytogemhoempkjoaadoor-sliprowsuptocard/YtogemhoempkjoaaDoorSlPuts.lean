/-
  The statement SlipPuts: its walk.
-/
import Derived.Test.YtogemhoempkjoaaDoorSlLaw
import Derived.Test.YtogemhoempkjoaaDoorSlRPut
import Derived.Deep.DeepCutAuto
namespace Go.Proofs.YtogemhoempkjoaaDoor
open Go.RowKit Go.IntWalk

theorem putS_bd (bs : List Int) (k : Int) (ds : List Int) (hb : ∀ x ∈ bs, 0 ≤ x ∧ x < 256) (hd : ∀ x ∈ ds, 0 ≤ x ∧ x < 256) : ∀ x ∈ (putS bs k ds).1, 0 ≤ x ∧ x < 256 := by
  unfold putS
  split
  · simp
  · split
    · simp
    · intro x hx
      rcases List.mem_append.1 hx with h | h
      · exact hb x h
      · exact slipB_bd k ds (by omega) hd x h
theorem putS_len (bs : List Int) (k : Int) (ds : List Int) : (putS bs k ds).1.length ≤ bs.length + 65542 := by
  unfold putS
  split
  · simp
  · split
    · simp
    · simp [slipB_len]; omega

/-- A row of the call's own keeps through a change of another's. -/
theorem OwnB.apartB {w w' : World} {base b2 : Nat} {v x : Value} {xs ys : List Int} {u : World} (h : OwnB w base v xs) (hx : OwnB u b2 x ys) (hlt : u.heap.size ≤ base) (hg : w.grownBy w' x.ownBlock) : OwnB w' base v xs := by
  refine h.kept hg ?_
  cases hv : v.ownBlock with
  | none => exact .inl rfl
  | some g =>
    right
    intro he
    have h1 := (h.lt g hv).1
    have h2 := (hx.lt g he.symm).2
    omega
theorem Src.apartB {w w' : World} {ao : Option Addr} {n c b2 : Nat} {x : Value} {xs ys : List Int} {u V : World} (h : Src w ao n c xs) (h0 : Src V ao n c xs) (hx : OwnB u b2 x ys) (hlt : V.heap.size ≤ b2) (hg : w.grownBy w' x.ownBlock) : Src w' ao n c xs := by
  refine h.grown hg fun b off he hne hb => ?_
  have h1 := h0.blk b off he hne
  have h2 := (hx.lt b hb.symm).1
  omega

set_option maxRecDepth 100000 in
set_option maxHeartbeats 8000000 in
theorem puts_walk (a1 : Option Addr) (n1 c1 : Nat) (xs : List Int) (k : Int) (a2 : Option Addr) (n2 c2 : Nat) (ys : List Int) (w : World) (hT : Tab w) (hs : Src w a1 n1 c1 xs) (hs2 : Src w a2 n2 c2 ys) (hn : n1 + n2 ≤ 1048576) (hk : -9223372036854775808 ≤ k ∧ k ≤ 9223372036854775807) :
    Calls Tryd.prog 4 #[.slice a1 n1 c1, .agg #[.int .i64 k, .slice a2 n2 c2]] w fun e w' => e = .returned (.bool true) ∧ Below w.heap.size w w' := by
  have HL := hide hs.hlen
  have HL2 := hide hs2.hlen
  have HY := hide hs.hbyt
  have HY2 := hide hs2.hbyt
  have HSw := hide hs
  have HS2w := hide hs2
  have h7 : sizeI 0 = 7 := by decide
  have HPB := hide (putS_bd xs k ys hs.hbyt hs2.hbyt)
  have HPL := hide (putS_len xs k ys)
  have HX0 := hide (Box.new w k (.slice a2 n2 c2) 32)
  have HS0 := hide (hs.alloc (.cells #[.int .i64 k, .slice a2 n2 c2] 32))
  have HS20 := hide (hs2.alloc (.cells #[.int .i64 k, .slice a2 n2 c2] 32))
  have HT0 := hide (hT.alloc (.cells #[.int .i64 k, .slice a2 n2 c2] 32))
  have HB0 : Hid (Below w.heap.size w (w.alloc (.cells #[.int .i64 k, .slice a2 n2 c2] 32))) := (Below.refl _ _).alloc (Nat.le_refl _) _
  clear hT hs hs2
  go_enter Tryd.func4, Tryd.ntmps4
  go_wp2_with fail
  generalize w.alloc (.cells #[.int .i64 k, .slice a2 n2 c2] 32) = U at HX0 HS0 HS20 HT0 HB0 ⊢
  refine (lent_any a1 n1 c1 xs _ HS0.out (by omega)).mono ?_
  rintro e w1 ⟨g1, d1, rfl, hd1, hm1, hb1, hl1, ho1, B1⟩
  have HO1 := hide ho1
  have HT1 := hide (HT0.out.belowA B1)
  have HS1 := hide (HS0.out.below B1)
  have HS21 := hide (HS20.out.below B1)
  have HX1 := hide (HX0.out.below B1)
  have HB1 : Hid (Below w.heap.size w w1) := HB0.out.trans (B1.mono HB0.out.size)
  clear ho1 B1
  go_upto_region 2 with fail
  go_cut [6] (fun p wx => ∃ bx g2 d2 : Nat, p = .pointer (some ⟨bx, 0, none⟩) ∧ n2 + 1 ≤ d2 ∧ d2 ≤ maxLen ∧ Hid (Box wx bx k (.slice (some ⟨g2, 0, none⟩) n2 d2)) ∧ Hid (OwnB wx w1.heap.size (.slice (some ⟨g2, 0, none⟩) (n2 + 1) d2) (ys ++ [90])) ∧ Hid (Below w1.heap.size w1 wx) ∧ w1.heap.size ≤ bx)
  case first =>
    have x10 := HX1.out.c0
    have x11 := HX1.out.c1
    have zz := HX1.out.lt
    go_region_held3 (fun W => W.cell? ⟨w.heap.size, 0, none⟩ = some (.int .i64 k) ∧ W.cell? ⟨w.heap.size, 1, none⟩ = some (.slice a2 n2 c2)) (go_keep) (first | (go_at_call 9; refine (lent_any a2 n2 c2 ys _ (HS21.out.drewN 1) (by omega)).mono ?_; rintro e w2 ⟨g2, d2, rfl, hd2, hm2, hb2, hl2, ho2, B2⟩; have y10 : w2.cell? ⟨w.heap.size, 0, none⟩ = some (.int .i64 k) := (B2.cell (p := ⟨w.heap.size, 0, none⟩) (by first | exact zz | (simp; omega))).trans (by first | exact x10 | exact (World.cell?_alloc_lt _ _ _ zz).trans x10); have y11 : w2.cell? ⟨w.heap.size, 1, none⟩ = some (.slice a2 n2 c2) := (B2.cell (p := ⟨w.heap.size, 1, none⟩) (by first | exact zz | (simp; omega))).trans (by first | exact x11 | exact (World.cell?_alloc_lt _ _ _ zz).trans x11); have z2 := B2.size; have ne1 : ¬ w.heap.size = w2.heap.size := (by simp at z2; omega); have ne2 : ¬ w2.heap.size = w.heap.size := (by simp at z2; omega)) | (go_at_call 9; refine (lent_any a2 n2 c2 ys _ ((HS21.out.alloc _).drewN 1) (by omega)).mono ?_; rintro e w2 ⟨g2, d2, rfl, hd2, hm2, hb2, hl2, ho2, B2⟩; have y10 : w2.cell? ⟨w.heap.size, 0, none⟩ = some (.int .i64 k) := (B2.cell (p := ⟨w.heap.size, 0, none⟩) (by first | exact zz | (simp; omega))).trans (by first | exact x10 | exact (World.cell?_alloc_lt _ _ _ zz).trans x10); have y11 : w2.cell? ⟨w.heap.size, 1, none⟩ = some (.slice a2 n2 c2) := (B2.cell (p := ⟨w.heap.size, 1, none⟩) (by first | exact zz | (simp; omega))).trans (by first | exact x11 | exact (World.cell?_alloc_lt _ _ _ zz).trans x11); have z2 := B2.size; have ne1 : ¬ w.heap.size = w1.heap.size := (by omega); have ne2 : ¬ w1.heap.size = w.heap.size := (by omega); have e0 : w2.cell? ⟨w1.heap.size, 0, none⟩ = some (.int .i64 0) := (B2.cell (p := ⟨w1.heap.size, 0, none⟩) (by simp)).trans (by simp); have e1 : w2.cell? ⟨w1.heap.size, 1, none⟩ = some (.slice none 0 0) := (B2.cell (p := ⟨w1.heap.size, 1, none⟩) (by simp)).trans (by simp); have e2 : ∀ o, w2.frozen? ⟨w1.heap.size, o, none⟩ = false := fun o => (B2.frozen (p := ⟨w1.heap.size, o, none⟩) (by simp)).trans (by simp)))
    · go_wp2_with fail
      go_meet
      case rel =>
        refine ⟨w2.heap.size, g2, d2, rfl, hd2, hm2, Box.new w2 k _ _, ho2.alloc _, ?_, B2.size⟩
        exact (Below.drew (Below.refl w1.heap.size w1)).trans (B2.alloc B2.size _)
    · go_wp2_with fail
      go_meet
      case rel =>
        have z3 : w1.heap.size < w2.heap.size := by have := B2.size; simp at this; omega
        refine ⟨w1.heap.size, g2, d2, rfl, hd2, hm2, ?_, ?_, ?_, Nat.le_refl _⟩
        · exact ⟨by simp [go_sem, e0], by simp [go_sem, e1], by simpa using z3, fun o => by simp [go_sem, e2]⟩
        · exact ((ho2.setBelow (by simp) _).setBelow (by simp) _).rebase (by simp)
        · exact ((((Below.refl w1.heap.size w1).alloc (Nat.le_refl _) _).drew.trans (B2.mono (by simp))).setCell (Nat.le_refl _) _).setCell (Nat.le_refl _) _
  case rest =>
    obtain ⟨bx, g2, d2, rfl, hd2, hm2, HX2, HO2, HBc, hbx⟩ := hcut
    have HO12 := hide (HO1.out.belowA HBc.out)
    have HT2 := hide (HT1.out.belowA HBc.out)
    have HS2 := hide (HS1.out.below HBc.out)
    have HS22 := hide (HS21.out.below HBc.out)
    have HX12 := hide (HX1.out.below HBc.out)
    have HB2 : Hid (Below w.heap.size w wc) := HB1.out.trans (HBc.out.mono HB1.out.size)
    have HP1 := hide (lent_src HO12.out HY.out HL.out)
    have HG : Hid (g1 < wc.heap.size ∧ g2 < wc.heap.size ∧ bx < wc.heap.size ∧ w.heap.size < wc.heap.size) := ⟨(HO12.out.lt g1 rfl).2, (HO2.out.lt g2 rfl).2, HX2.out.lt, HX12.out.lt⟩
    have HP2 := hide (lent_src HO2.out HY2.out HL2.out)
    have q0 := HX2.out.c0
    have q1 := HX2.out.c1
    have z1 := HX1.out.lt
    clear HT1 HS1 HS21 HX1 HO1 HB1
    go_wp2_with fail
    refine (put_any _ n1 d1 xs k _ n2 d2 ys _ HT2.out HP1.out HP2.out (by omega) hk).mono ?_
    rintro e w3 ⟨ax, mx, cx, rfl, hox, B3⟩
    have HOX := hide hox
    have q30 := (HX2.out.below B3).c0
    have q31 := (HX2.out.below B3).c1
    clear q0 q1
    go_wp2_with fail
    refine (put_any _ n1 d1 xs k _ n2 d2 ys _ (HT2.out.belowA B3) (HP1.out.below B3) (HP2.out.below B3) (by omega) hk).mono ?_
    rintro e w4 ⟨ay, my, cy, rfl, hoy, B4⟩
    have B34 : Below wc.heap.size wc w4 := B3.trans (B4.mono B3.size)
    have q40 := (HX12.out.below B34).c0
    have q41 := (HX12.out.below B34).c1
    clear q30 q31
    go_wp2_with fail
    refine (refPut_any _ n1 c1 xs k _ n2 c2 ys _ (HS2.out.below B34) (HS22.out.below B34) (by omega)).mono ?_
    rintro e w5 ⟨az, mz, cz, rfl, hoz, B5⟩
    have B35 : Below wc.heap.size wc w5 := B34.trans (B5.mono B34.size)
    have HX5 := hide (HX2.out.below B35)
    have HX15 := hide (HX12.out.below B35)
    have HO15 := hide (HO12.out.belowA B35)
    have HO25 := hide (HO2.out.belowA B35)
    have HOX5 := hide ((HOX.out.belowA B4).belowA B5)
    have HOY5 := hide (hoy.belowA B5)
    have HOZ5 := hide hoz
    have HB5 : Hid (Below w.heap.size w w5) := HB2.out.trans (B35.mono HB2.out.size)
    have HS5 := hide (HS2.out.below B35)
    have HS25 := hide (HS22.out.below B35)
    have t1 := (HOX5.out.toSrc HPB.out).text
    have t2 := (HOZ5.out.toSrc HPB.out).text
    have HZs : Hid (wc.heap.size ≤ w3.heap.size ∧ w3.heap.size ≤ w4.heap.size ∧ w4.heap.size ≤ w5.heap.size) := ⟨B3.size, B4.size, B5.size⟩
    have hlx := (HOX5.out.toSrc HPB.out).hlen
    have HLX := hide hlx
    have HPL' := hide (show (mx : Int) ≤ 1114118 by have h1 := HPL.out; have h2 := HL.out; omega)
    have hmx := HPL'.out
    clear hox hoy hoz B3 B4 B5 B34 B35 q40 q41 HX2 HX12 HO12 HO2 HBc HT2 HS2 HS22 hlx
    generalize (putS xs k ys).1 = P at *
    generalize (putS xs k ys).2 = E at *
    go_wp2_with fail
    clear t1 t2
    go_loopw [13] (fun i wr => ∃ (t : Nat) (zs : List Int), t ≤ mx ∧ i = .int .i64 t ∧ Hid (OwnB wr wc.heap.size (.slice ax mx cx) zs) ∧ Hid (zs.length = mx) ∧ Hid (w5.grownBy wr (Value.slice ax mx cx).ownBlock)) (fun i _ => mx - (intOf i).toNat)
    case atStart => exact ⟨0, P, by omega, rfl, HOX5, HLX, World.grownBy.refl _ _⟩
    case round =>
      obtain ⟨t, zs, ht, rfl, HOr, HLr, HGr⟩ := hrel
      by_cases hlt : t < mx
      · rcases HOr.out.split with ⟨he, hz⟩ | ⟨g, cap, he, _⟩
        · have := HLr.out; rw [hz] at this; simp at this; omega
        · simp at he
          obtain ⟨rfl, hmz, rfl⟩ := he
          have hcell := HOr.out.cell t (by rw [HLr.out]; exact hlt)
          have hfr := HOr.out.frozen t
          have hltI : (t : Int) < (mx : Int) := by omega
          have HST := hide (fun u => HOr.out.stored t u)
          clear hmz
          go_wp2
          go_roundw
          case rel => exact ⟨t + 1, _, by omega, by go_num, (HST.out _).1, by unfold Hid; rw [List.length_set]; exact HLr.out, grown_trans HGr.out (HST.out _).2⟩
          case measure => simp [intOf]; omega
      · obtain rfl : t = mx := by omega
        obtain ⟨z31, z32, z33⟩ := HZs.out
        obtain ⟨y1, y2, y3, y4⟩ := HG.out
        have hne : ∀ g, g < wc.heap.size → some g ≠ (Value.slice ax t cx).ownBlock := fun g hg he => by have := (HOX.out.lt g he.symm).1; omega
        have t3 := ((HOY5.out.apartB HOX.out (Nat.le_refl _) HGr.out).toSrc HPB.out).text
        have t4 := ((HOZ5.out.apartB HOX.out z32 HGr.out).toSrc HPB.out).text
        have HO16 := hide (HO15.out.kept HGr.out (.inr (hne g1 y1)))
        have HO26 := hide (HO25.out.kept HGr.out (.inr (hne g2 y2)))
        have HS6 := hide (HS5.out.grown HGr.out fun b off he hx => hne b (by have := HSw.out.blk b off he hx; omega))
        have HS26 := hide (HS25.out.grown HGr.out fun b off he hx => hne b (by have := HS2w.out.blk b off he hx; omega))
        have X1 := HX5.out.grown HGr.out (hne bx y3)
        have X2 := HX15.out.grown HGr.out (hne _ y4)
        have HB6 : Hid (Below w.heap.size w wr) := HB5.out.grown HGr.out HB5.out.size fun k hk => by have := (HOX.out.lt k hk).1; have := HB2.out.size; omega
        have j1 := X1.c1
        have j2 := X2.c1
        have j1' : ∀ q, (wr.drewN q).cell? ⟨bx, 1, none⟩ = some (.slice (some ⟨g2, 0, none⟩) n2 d2) := fun _ => j1
        have j2' : ∀ q, (wr.drewN q).cell? ⟨w.heap.size, 1, none⟩ = some (.slice a2 n2 c2) := fun _ => j2
        clear X1 X2 hne
        go_wp2_with (first | (go_at_call_of 14 (Value.slice (some ⟨g1, 0, none⟩) n1 d1); refine (kept_any g1 n1 d1 a1 c1 xs _ _ HS6.out (by omega) (by omega) (by omega) HO16.out).mono ?_; rintro e w8 ⟨rfl, q8, rfl⟩) | (go_at_call_of 14 (Value.slice (some ⟨g2, 0, none⟩) n2 d2); refine (kept_any g2 n2 d2 a2 c2 ys _ _ (HS26.out.drewN _) (by omega) (by omega) (by omega) (HO26.out.heap rfl)).mono ?_; rintro e w9 ⟨rfl, q9, rfl⟩) | (go_at_call 12; refine (size_any 0 (by omega) _).mono ?_; rintro e w7 ⟨rfl, rfl⟩; rw [h7]) | (go_at_call 15; refine (names_any _).mono ?_; rintro e w10 ⟨rfl, rfl⟩))
        go_ret
        exact ⟨rfl, ((Drawn.refl _).more _).below HB6.out⟩

end Go.Proofs.YtogemhoempkjoaaDoor
