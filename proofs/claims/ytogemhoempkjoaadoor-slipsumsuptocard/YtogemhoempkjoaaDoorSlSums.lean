/-
  The statement SlipSums: its walk.
-/
import Derived.Test.YtogemhoempkjoaaDoorSlLaw
import Derived.Test.YtogemhoempkjoaaDoorSlRef
import Derived.Test.YtogemhoempkjoaaDoorSlPut
namespace Go.Proofs.YtogemhoempkjoaaDoor
open Go.RowKit Go.IntWalk

set_option maxRecDepth 100000 in
set_option maxHeartbeats 4000000 in
theorem sums_walk (a1 : Option Addr) (n1 c1 : Nat) (xs : List Int) (a2 : Option Addr) (n2 c2 : Nat) (ys : List Int) (k : Int) (w : World) (hT : Tab w) (hs : Src w a1 n1 c1 xs) (hs2 : Src w a2 n2 c2 ys) (hn : n1 + n2 ≤ 1048576) (hk : -9223372036854775808 ≤ k ∧ k ≤ 9223372036854775807) :
    Calls Tryd.prog 3 #[.slice a1 n1 c1, .slice a2 n2 c2, .int .i64 k] w fun e w' => e = .returned (.bool true) ∧ Below w.heap.size w w' := by
  have HT := hide hT
  have HS := hide hs
  have HS2 := hide hs2
  have HL := hide hs.hlen
  have HL2 := hide hs2.hlen
  have HY := hide hs.hbyt
  have HY2 := hide hs2.hbyt
  clear hT hs hs2
  go_enter Tryd.func3, Tryd.ntmps3
  go_wp2_with fail
  refine (lent_any a1 n1 c1 xs _ HS.out (by omega)).mono ?_
  rintro e w1 ⟨g1, d1, rfl, hd1, hm1, hb1, hl1, ho1, B1⟩
  have HO1 := hide ho1
  have HB1 := hide B1
  have HT1 := hide (HT.out.belowA B1)
  have HS11 := hide (HS.out.below B1)
  have HS21 := hide (HS2.out.below B1)
  clear ho1 B1
  go_wp2_with fail
  refine (lent_any a2 n2 c2 ys _ HS21.out (by omega)).mono ?_
  rintro e w2 ⟨g2, d2, rfl, hd2, hm2, hb2, hl2, ho2, B2⟩
  have HO2 := hide ho2
  have HO12 := hide (HO1.out.belowA B2)
  have HB2 : Hid (Below w.heap.size w w2) := HB1.out.trans (B2.mono HB1.out.size)
  have HT2 := hide (HT1.out.belowA B2)
  have HS12 := hide (HS11.out.below B2)
  have HS22 := hide (HS21.out.below B2)
  have HP1 := hide (lent_src HO12.out HY.out HL.out)
  have HP2 := hide (lent_src HO2.out HY2.out HL2.out)
  clear ho2 B2 HT1 HS11 HS21 HO1 HB1
  go_wp2_with (first | (go_at_call_of 10 (Value.slice (some ⟨w2.heap.size, 0, none⟩) 2 2); refine (sum_two (some ⟨g1, 0, none⟩) n1 d1 xs (some ⟨g2, 0, none⟩) n2 d2 _ ys _ (HT2.out.alloc _) (HP1.out.alloc _) (HP2.out.alloc _) (by simp) (by simp)).mono ?_; rintro e w3 ⟨rfl, rfl⟩) | (at_builtin; refine wpList_appN _ rfl (.tmp 17) (.tmp 18) rfl (w2.heap.size + 1) (.slice (some ⟨w2.heap.size + 1, 0, none⟩) 0 0) [] rfl (OwnB.litAt _ _ [] _ 0 rfl rfl (by simp) (by simp) (by decide)) a1 n1 c1 xs rfl ((HS12.out.alloc _).alloc _) n1 (by simpa using HL.out) (.inl (by simp)) (by omega) (by simp) ?_; intro g3 c3 w3 ho3 hb3 hl3 hc3 hm3 hg3; have B3 : Below w2.heap.size w2 w3 := (((Below.refl _ _).alloc (Nat.le_refl _) _).alloc (by simp) _).grown hg3 (by simp; omega) (own_ge (by omega)); have z3 : w2.heap.size + 1 ≤ w3.heap.size := (by omega)) | (at_builtin; refine wpList_appN _ rfl (.tmp 19) (.tmp 20) rfl (w2.heap.size + 1) (.slice (some ⟨g3, 0, none⟩) n1 c3) _ rfl ho3 a2 n2 c2 ys rfl (HS22.out.below B3) (n1 + n2) (by have := HL.out; have := HL2.out; simp; omega) (.inl (by simp)) (by omega) z3 ?_; intro g4 c4 w4 ho4 hb4 hl4 hc4 hm4 hg4; have B4 : Below w2.heap.size w2 w4 := B3.grown hg4 B3.size (own_ge (by omega)); have HJ := hide (ho4.toSrc (by intro x hx; simp at hx; rcases hx with hx | hx; exact HY.out x hx; exact HY2.out x hx)); have HT4 := hide (HT2.out.belowA B4); have HP4 := hide (HP2.out.below B4); have HS4 := hide (HS22.out.below B4); have HS14 := hide (HS12.out.below B4); have HK1 := hide (HO12.out.belowA B4); have HK2 := hide (HO2.out.belowA B4); have HB4 := hide B4; clear ho3 ho4 hg3 hg4 B3 B4) | (go_at_call_of 11 (Value.slice a2 n2 c2); refine (refSum_any _ _ _ ys _ (HS4.out.alloc _)).mono ?_; rintro e w5 ⟨rfl, rfl⟩) | (go_at_call_of 11 (Value.slice (some ⟨g4, 0, none⟩) (n1 + n2) c4); refine (refSum_any _ _ _ (xs ++ ys) _ HJ.out).mono ?_; rintro e w4 ⟨rfl, rfl⟩) | (go_at_call_of 10 (Value.slice (some ⟨w4.heap.size, 0, none⟩) 1 1); refine (sum_one (some ⟨g2, 0, none⟩) n2 d2 _ ys _ (HT4.out.alloc _) (HP4.out.alloc _) (by simp)).mono ?_; rintro e w6 ⟨rfl, rfl⟩) | (go_at_call 12; refine (size_any k hk _).mono ?_; rintro e w7 ⟨rfl, rfl⟩) | (go_at_call 13; refine (refSize_any k hk _).mono ?_; rintro e w7 ⟨rfl, rfl⟩) | (go_at_call_of 14 (Value.slice (some ⟨g1, 0, none⟩) n1 d1); refine (kept_any g1 n1 d1 a1 c1 xs _ w.heap.size (HS14.out.alloc _) (by omega) (by omega) (by omega) (HK1.out.alloc _)).mono ?_; rintro e w8 ⟨rfl, q8, rfl⟩) | (go_at_call_of 14 (Value.slice (some ⟨g2, 0, none⟩) n2 d2); refine (kept_any g2 n2 d2 a2 c2 ys _ w1.heap.size ((HS4.out.alloc _).drewN _) (by omega) (by omega) (by omega) ((HK2.out.alloc _).heap rfl)).mono ?_; rintro e w9 ⟨rfl, q9, rfl⟩) | (go_at_call 15; refine (names_any _).mono ?_; rintro e w10 ⟨rfl, rfl⟩))
  go_ret
  refine ⟨rfl, ?_⟩
  exact ((Drawn.refl _).more _).below ((HB2.out.trans (HB4.out.mono HB2.out.size)).alloc (Nat.le_trans HB2.out.size HB4.out.size) _)

end Go.Proofs.YtogemhoempkjoaaDoor
