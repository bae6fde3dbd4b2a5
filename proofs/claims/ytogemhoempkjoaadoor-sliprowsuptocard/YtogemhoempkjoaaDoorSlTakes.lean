/-
  The statement SlipTakes: its walk.
-/
import Derived.Test.YtogemhoempkjoaaDoorSlPuts
import Derived.Test.YtogemhoempkjoaaDoorSlRTake
namespace Go.Proofs.YtogemhoempkjoaaDoor
open Go.RowKit Go.IntWalk

set_option maxRecDepth 100000 in
set_option maxHeartbeats 1000000 in
theorem same_any (k : Int) (a1 : Option Addr) (n1 c1 : Nat) (a2 : Option Addr) (n2 c2 : Nat) (xs : List Int) (w : World) (h1 : Src w a1 n1 c1 xs) (h2 : Src w a2 n2 c2 xs) :
    Calls Tryd.prog 20 #[.agg #[.int .i64 k, .slice a1 n1 c1], .agg #[.int .i64 k, .slice a2 n2 c2]] w fun e w' => e = .returned (.bool true) ∧ Below w.heap.size w w' := by
  have t1 := ((h1.alloc (.cells #[.int .i64 k, .slice a1 n1 c1] 32)).alloc (.cells #[.int .i64 k, .slice a2 n2 c2] 32)).text
  have t2 := ((h2.alloc (.cells #[.int .i64 k, .slice a1 n1 c1] 32)).alloc (.cells #[.int .i64 k, .slice a2 n2 c2] 32)).text
  clear h1 h2
  go_enter Tryd.func20, Tryd.ntmps20
  go_wp2
  go_ret
  exact ⟨rfl, ((Below.refl _ _).alloc (Nat.le_refl _) _).alloc (by simp) _⟩

theorem grown_drew {w w' : World} {r : Option Nat} (h : w.grownBy w' r) : w.grownBy w'.drew r := ⟨h.os, h.tape, h.output, h.size, h.block⟩

theorem slipD_bd (xs : List Int) (hb : ∀ x ∈ xs, 0 ≤ x ∧ x < 256) : ∀ x ∈ slipD xs, 0 ≤ x ∧ x < 256 := by
  unfold slipD dataOf
  split
  · intro x hx
    exact hb x (List.mem_of_mem_take (List.mem_of_mem_take (List.mem_of_mem_drop hx)))
  · simp

set_option maxRecDepth 100000 in
set_option maxHeartbeats 8000000 in
theorem takes_walk (a1 : Option Addr) (n1 c1 : Nat) (xs : List Int) (w : World) (hT : Tab w) (hs : Src w a1 n1 c1 xs) (hn : n1 ≤ 140737488351232) :
    Calls Tryd.prog 5 #[.slice a1 n1 c1] w fun e w' => e = .returned (.bool true) ∧ Below w.heap.size w w' := by
  have HL := hide hs.hlen
  have HY := hide hs.hbyt
  have HSw := hide hs
  have HT := hide hT
  have HPB := hide (slipD_bd xs hs.hbyt)
  have hlx := slipD_len xs hs.hbyt
  clear hT hs
  go_enter Tryd.func5, Tryd.ntmps5
  go_wp2_with fail
  refine (lent_any a1 n1 c1 xs _ HSw.out (by omega)).mono ?_
  rintro e w1 ⟨g1, d1, rfl, hd1, hm1, hb1, hl1, ho1, B1⟩
  have HO1 := hide ho1
  have HT1 := hide (HT.out.belowA B1)
  have HS1 := hide (HSw.out.below B1)
  have HP1 := hide (lent_src ho1 HY.out HL.out)
  have HB1 := hide B1
  clear ho1 B1
  go_wp2_with fail
  refine (take_any _ n1 d1 xs _ HT1.out HP1.out).mono ?_
  rintro e w2 ⟨ax, mx, cx, rfl, hox, B2⟩
  have HOX := hide hox
  have HX2 := hide (Box.new w2 (slipK xs) (.slice ax mx cx) 32)
  have B2' : Below w1.heap.size w1 (w2.alloc (.cells #[.int .i64 (slipK xs), .slice ax mx cx] 32)) := B2.alloc B2.size _
  have HB2 := hide B2'
  have HOX2 := hide (hox.alloc (.cells #[.int .i64 (slipK xs), .slice ax mx cx] 32))
  have hz2 := B2.size
  clear hox B2 B2'
  go_wp2_with fail
  generalize w2.alloc (.cells #[.int .i64 (slipK xs), .slice ax mx cx] 32) = U2 at HX2 HB2 HOX2 ⊢
  refine (take_any _ n1 d1 xs _ (HT1.out.belowA HB2.out) (HP1.out.below HB2.out)).mono ?_
  rintro e w3 ⟨ay, my, cy, rfl, hoy, B3⟩
  have HB3 : Hid (Below U2.heap.size U2 (w3.alloc (.cells #[.int .i64 (slipK xs), .slice ay my cy] 32))) := B3.alloc B3.size _
  have HX3 := hide (Box.new w3 (slipK xs) (.slice ay my cy) 32)
  have HOY3 := hide (hoy.alloc (.cells #[.int .i64 (slipK xs), .slice ay my cy] 32))
  have HZ3 := hide B3.size
  clear hoy B3
  go_wp2_with fail
  generalize w3.alloc (.cells #[.int .i64 (slipK xs), .slice ay my cy] 32) = U3 at HX3 HB3 HOY3 ⊢
  have HB13 : Hid (Below w1.heap.size w1 U3) := HB2.out.trans (HB3.out.mono HB2.out.size)
  refine (refTake_any _ n1 c1 xs _ (HS1.out.below HB13.out) (by omega)).mono ?_
  rintro e w4 ⟨az, mz, cz, rfl, hoz, B4⟩
  have HB4 : Hid (Below U3.heap.size U3 (w4.alloc (.cells #[.int .i64 (slipK xs), .slice az mz cz] 32))) := B4.alloc B4.size _
  have HX4 := hide (Box.new w4 (slipK xs) (.slice az mz cz) 32)
  have HOZ4 := hide (hoz.alloc (.cells #[.int .i64 (slipK xs), .slice az mz cz] 32))
  have HZ4 := hide B4.size
  clear hoz B4
  go_upto_region 5 with fail
  generalize w4.alloc (.cells #[.int .i64 (slipK xs), .slice az mz cz] 32) = U4 at HX4 HB4 HOZ4 ⊢
  have HB24 : Hid (Below U2.heap.size U2 U4) := HB3.out.trans (HB4.out.mono HB3.out.size)
  have HB14 : Hid (Below w1.heap.size w1 U4) := HB2.out.trans (HB24.out.mono HB2.out.size)
  have HXx := hide (HX2.out.below HB24.out)
  have HXy := hide (HX3.out.below HB4.out)
  have HOx := hide (HOX2.out.belowA HB24.out)
  have HOy := hide (HOY3.out.belowA HB4.out)
  have p0 := HXx.out.c0
  have p1 := HXx.out.c1
  have q0 := HX4.out.c0
  have q1 := HX4.out.c1
  go_wp2_with (go_at_call 20; refine (same_any (slipK xs) ax mx cx az mz cz (slipD xs) _ (HOx.out.toSrc HPB.out) (HOZ4.out.toSrc HPB.out)).mono ?_; rintro e w5 ⟨rfl, B5⟩)
  have HB5 := hide B5
  have HX5 := hide (HXx.out.below B5)
  have HY5 := hide (HXy.out.below B5)
  have HZ5 := hide (HX4.out.below B5)
  have HOx5 := hide (HOx.out.belowA B5)
  have HOy5 := hide (HOy.out.belowA B5)
  have HOz5 := hide (HOZ4.out.belowA B5)
  have HB15 : Hid (Below w1.heap.size w1 w5) := HB14.out.trans (B5.mono HB14.out.size)
  have HO15 := hide (HO1.out.belowA HB15.out)
  have HS5 := hide (HS1.out.below HB15.out)
  have HBw5 : Hid (Below w.heap.size w w5) := HB1.out.trans (HB15.out.mono HB1.out.size)
  have HSZ : Hid (w2.heap.size ≤ U2.heap.size ∧ U2.heap.size ≤ w3.heap.size ∧ U3.heap.size ≤ w4.heap.size ∧ U2.heap.size ≤ U3.heap.size ∧ w2.heap.size < U2.heap.size) := ⟨Nat.le_of_lt HX2.out.lt, HZ3.out, HZ4.out, HB3.out.size, HX2.out.lt⟩
  have HLX := hide (HOx5.out.toSrc HPB.out).hlen
  have hmx : (mx : Int) ≤ 65535 := by have := HLX.out; omega
  clear B5 p0 p1 q0 q1 hlx
  go_loopw [13] (fun i wr => ∃ (t : Nat) (zs : List Int), t ≤ mx ∧ i = .int .i64 t ∧ Hid (OwnB wr w1.heap.size (.slice ax mx cx) zs) ∧ Hid (zs.length = mx) ∧ Hid (w5.grownBy wr (Value.slice ax mx cx).ownBlock)) (fun i _ => mx - (intOf i).toNat)
  case atStart => exact ⟨0, slipD xs, by omega, rfl, HOx5, HLX, World.grownBy.refl _ _⟩
  case round =>
    obtain ⟨t, zs, ht, rfl, HOr, HLr, HGr⟩ := hrel
    have hne : ∀ g, w2.heap.size ≤ g → some g ≠ (Value.slice ax mx cx).ownBlock := fun g hg he => by have := (HOX.out.lt g he.symm).2; omega
    have hne1 : ∀ g, g < w1.heap.size → some g ≠ (Value.slice ax mx cx).ownBlock := fun g hg he => by have := (HOX.out.lt g he.symm).1; omega
    have XR := HX5.out.grown HGr.out (hne _ (Nat.le_refl _))
    have x1 := XR.c1
    by_cases hlt : t < mx
    · rcases HOr.out.split with ⟨he, hz⟩ | ⟨g, cap, he, _⟩
      · have := HLr.out; rw [hz] at this; simp at this; omega
      · simp at he
        obtain ⟨rfl, hmz, rfl⟩ := he
        have hcell := HOr.out.cell t (by rw [HLr.out]; exact hlt)
        have hfr := HOr.out.frozen t
        have hltI : (t : Int) < (mx : Int) := by omega
        have HST := hide (fun u => HOr.out.stored t u)
        have hgne : ¬ w2.heap.size = g := fun e => hne _ (Nat.le_refl _) (by simp [Value.ownBlock, e])
        have hgne2 : ¬ g = w2.heap.size := fun e => hgne e.symm
        generalize zs.getD t 0 = z at hcell
        clear hmz XR hne hne1
        go_wp2_with fail
        go_region
        all_goals (
          go_wp2
          go_roundw
          case rel => exact ⟨t + 1, _, by omega, by go_num, (HST.out _).1, by unfold Hid; rw [List.length_set]; exact HLr.out, grown_drew (grown_trans HGr.out (HST.out _).2)⟩
          case measure => simp [intOf]; omega)
    · obtain rfl : t = mx := by omega
      obtain ⟨z1, z2, z3, z4, z5⟩ := HSZ.out
      have HYr := hide ((HOy5.out.apartB HOX.out (by omega) HGr.out).toSrc HPB.out)
      have HZr := hide ((HOz5.out.apartB HOX.out (by omega) HGr.out).toSrc HPB.out)
      have HOr1 := hide (HO15.out.kept HGr.out (.inr (hne1 g1 hl1)))
      have HSr := hide (HS5.out.grown HGr.out fun b off he hx => hne1 b (by have := HSw.out.blk b off he hx; have := HB1.out.size; omega))
      have Y := HY5.out.grown HGr.out (hne _ (by omega))
      have Z := HZ5.out.grown HGr.out (hne _ (by omega))
      have HBr : Hid (Below w.heap.size w wr) := HBw5.out.grown HGr.out HBw5.out.size fun k hk => by have := (HOX.out.lt k hk).1; have := HB1.out.size; omega
      have y0 := Y.c0
      have y1 := Y.c1
      have v0 := Z.c0
      have v1 := Z.c1
      clear XR Y Z hne hne1
      go_wp2_with (first | (go_at_call 20; refine (same_any (slipK xs) ay my cy az mz cz (slipD xs) _ HYr.out HZr.out).mono ?_; rintro e w6 ⟨rfl, B6⟩; have HS6 := hide (HSr.out.below B6); have HO6 := hide (HOr1.out.belowA B6); have HB6 : Hid (Below w.heap.size w w6) := HBr.out.trans (B6.mono HBr.out.size)) | (go_at_call 14; refine (kept_any g1 n1 d1 a1 c1 xs _ _ HS6.out (by omega) (by omega) (by omega) HO6.out).mono ?_; rintro e w8 ⟨rfl, q8, rfl⟩) | (go_at_call 15; refine (names_any _).mono ?_; rintro e w10 ⟨rfl, rfl⟩))
      go_ret
      exact ⟨rfl, ((Drawn.refl _).more _).below HB6.out⟩

end Go.Proofs.YtogemhoempkjoaaDoor
