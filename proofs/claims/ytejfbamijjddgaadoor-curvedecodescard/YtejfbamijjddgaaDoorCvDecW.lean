/-
  The statement CurveDecodes: its walk.
-/
import Derived.Test.YtejfbamijjddgaaDoorCrDec
import Derived.Deep.DeepCutAuto
namespace Go.Proofs.YtejfbamijjddgaaDoor
open Go.RowKit Go.IntWalk
attribute [local go_sem ↓] ld_num st_num ld_pln st_pln ld_ops st_ops ld_pnt st_pnt ld_dig st_dig ld_tri st_tri eq_num ne_num eq_pnt ne_pnt bd_pnt ld_F st_F eq_F ld_a32 st_a32 ld_rpt st_rpt eq_rpt bd_rpt eq_dgs

set_option maxRecDepth 100000 in
set_option maxHeartbeats 2000000 in
theorem decodes_walk (ao : Option Addr) (n cap : Nat) (xs : List Int) (w : World) (hC : Cv w) (hN : Cn w) (hs : Src w ao n cap xs) (hn : n ≤ 140737488351232) :
    Calls Tryd.prog 6 #[.slice ao n cap] w fun e w' => e = .returned (.bool true) ∧ Below w.heap.size w w' := by
  have HL := hide hs.hlen
  have HY := hide hs.hbyt
  have HS := hide hs
  have HC := hide hC
  have HN := hide hN
  have HB90 : Hid (∀ x ∈ xs ++ [90], 0 ≤ x ∧ x < 256) := by intro x hx; simp at hx; rcases hx with hx | rfl; exact HY.out x hx; omega
  have hnI : (n : Int) ≤ 140737488351232 := by omega
  clear hC hN hs
  have HXL := hide (decX_len xs)
  have HYL := hide (decY_len xs)
  have HSM : Hid (∀ W, Calls Tryd.prog 16 #[.agg (pL (decX xs) (decY xs) false).toArray, .agg (pL (decX xs) (decY xs) false).toArray] W fun e w' => e = .returned (.bool true) ∧ Below W.heap.size W w') := fun W => same_self _ _ _ HXL.out HYL.out W
  have HST : Hid (∀ W g, Blk 25 W g PZ → (stA 25 (.pointer (some ⟨g, 0, none⟩)) (.agg (pL (decX xs) (decY xs) false).toArray)).run Tryd.prog W = .ok () (W.setCells g 0 (pL (decX xs) (decY xs) false)) ∧ Blk 25 (W.setCells g 0 (pL (decX xs) (decY xs) false)) g (pL (decX xs) (decY xs) false)) := fun W g h => ⟨stPt HXL.out HYL.out h rfl, blk_all h (by rw [pL_len HXL.out HYL.out]; rfl)⟩
  have HSR : Hid (∀ W g, Blk 27 W g PZ → (stA 27 (.pointer (some ⟨g, 0, none⟩)) (.agg (pL (decX xs) (decY xs) false).toArray)).run Tryd.prog W = .ok () (W.setCells g 0 (pL (decX xs) (decY xs) false)) ∧ Blk 27 (W.setCells g 0 (pL (decX xs) (decY xs) false)) g (pL (decX xs) (decY xs) false)) := fun W g h => ⟨stRp HXL.out HYL.out h rfl, blk_all h (by rw [pL_len HXL.out HYL.out]; rfl)⟩
  have HLP : Hid (∀ W g, Blk 25 W g (pL (decX xs) (decY xs) false) → (ldA 25 (.pointer (some ⟨g, 0, none⟩))).run Tryd.prog W = .ok (.agg (pL (decX xs) (decY xs) false).toArray) W) := fun W g h => (pnt_ld HXL.out HYL.out h).1
  have HLR : Hid (∀ W g, Blk 27 W g (pL (decX xs) (decY xs) false) → (ldA 27 (.pointer (some ⟨g, 0, none⟩))).run Tryd.prog W = .ok (.agg (pL (decX xs) (decY xs) false).toArray) W) := fun W g h => (rpt_ld HXL.out HYL.out h).1
  have HD : Hid (∀ a n c W, Cv W → Src W a n c xs → Calls Tryd.prog 23 #[.slice a n c] W fun e w' => e = .returned (.tuple #[.agg (pL (decX xs) (decY xs) false).toArray, .int .i64 (decE xs)]) ∧ Below W.heap.size W w') := fun a n c W hC hs => decode_any a n c xs W hC hs
  have HR : Hid (∀ a n c W, Src W a n c xs → Calls Tryd.prog 24 #[.slice a n c] W fun e w' => e = .returned (.tuple #[.agg (pL (decX xs) (decY xs) false).toArray, .int .i64 (decE xs)]) ∧ Below W.heap.size W w') := fun a n c W hs => rdecode_any a n c xs W hs
  have hone := pL_one (decX xs) (decY xs) false
  generalize pL (decX xs) (decY xs) false = L at *
  generalize decE xs = E at *
  go_enter Tryd.func6, Tryd.ntmps6
  go_upto_region 2 with (first | (at_builtin; refine wpList_appN _ rfl (.tmp 8) (.tmp 9) rfl w.heap.size (.slice (some ⟨w.heap.size, 0, none⟩) 0 0) [] rfl (OwnB.lit _ [] _ 0 rfl rfl (Nat.le_refl _) (by decide)) ao n cap xs rfl (HS.out.alloc _) n (by simpa using HL.out) (.inl (by simp)) (by omega) (by simp) ?_; intro g1 c1 w1 ho1 hb1 hl1 hc1 hm1 hg1) | (at_builtin; refine wpList_appN _ rfl (.tmp 10) (.tmp 11) rfl w.heap.size (.slice (some ⟨g1, 0, none⟩) n c1) xs rfl (ho1.alloc _) (some ⟨w1.heap.size, 0, none⟩) 1 1 [90] rfl (Src.lit [90] _ 1 rfl rfl (by simp) (by decide)) (n + 1) (by simpa using HL.out) (.inl (by simp)) (by omega) (by simp; omega) ?_; intro g c w2 ho2 hb2 hl2 hc2 hm2 hg2; have hnc : n ≤ c := by omega))
  have z : w.heap.size ≤ w1.heap.size := by omega
  have B2 : Below w.heap.size w w2 := ((((Below.refl _ _).alloc (Nat.le_refl _) _).grown hg1 (by simp) (by intro k hk; cases hk; exact Nat.le_refl _)).alloc z _).grown hg2 (by simp; omega) (by intro k hk; cases hk; exact hb1)
  have U2 := hide B2
  have S2 := hide (HS.out.below B2)
  have C2 := hide (HC.out.below B2)
  have N2 := hide (HN.out.below B2)
  have O2 := hide (ho2.src (ys := xs ++ [90]) HB90.out (n + 1) (Nat.le_refl _) (by rw [List.take_of_length_le (by simp; have := HL.out; omega)]) hm2)
  have P2 := hide (ho2.src (ys := xs) HB90.out n (by omega) (by rw [List.take_append_of_le_length (by rw [HL.out]; omega), List.take_of_length_le (by rw [HL.out]; omega)]) hm2)
  have hnI1 : (n : Int) ≤ (c : Int) := by omega
  have hcI : (n : Int) + 1 ≤ (c : Int) := by omega
  have ad : ¬ 9223372036854775807 < (strOfNums xs).size + 1 := by rw [strOfNums_size, HL.out]; omega
  have ae : strOfNums xs ++ { data := #[90] } = strOfNums (xs ++ [90]) := by rw [← strOf_append]; rfl
  clear B2 ho1 hg1 hg2 hb1 hl1 hc1 hm1 z ho2 hb2
  go_wp2_with fail
  refine (HD.out _ n c _ C2.out P2.out).mono ?_
  rintro e w3 ⟨rfl, LB⟩
  have U3 := hide (below_then U2.out LB)
  have S3 := hide (S2.out.below LB)
  have N3 := hide (N2.out.below LB)
  have O3 := hide (O2.out.below LB)
  have K3 := hide (Blk.new (T := 25) w3 PZ Tryd.zeroCells25 w3.heap.size zc_pnt rfl)
  obtain ⟨hst3, K3'⟩ := HST.out _ _ K3.out
  have K4 := hide K3'
  have B4 : Below w3.heap.size w3 ((w3.alloc (.cells Tryd.zeroCells25 25)).setCells w3.heap.size 0 L) := below_sets (below1 w3 _) (Nat.le_refl _) (by simp) _ _
  have U4 := hide (below_then U3.out B4)
  have S4 := hide (S3.out.below B4)
  have N4 := hide (N3.out.below B4)
  have O4 := hide (O3.out.below B4)
  clear LB K3' B4
  go_upto_region 3 with fail
  generalize (w3.alloc (.cells Tryd.zeroCells25 25)).setCells w3.heap.size 0 L = W4 at K4 U4 S4 N4 O4 ⊢
  clear hst3
  go_wp2_with fail
  refine (HR.out _ n cap _ S4.out).mono ?_
  rintro e w5 ⟨rfl, LB⟩
  have U5 := hide (below_then U4.out LB)
  have S5 := hide (S4.out.below LB)
  have N5 := hide (N4.out.below LB)
  have O5 := hide (O4.out.below LB)
  have K5 := hide (K4.out.below LB)
  have K5r := hide (Blk.new (T := 27) w5 PZ Tryd.zeroCells27 w5.heap.size zc_rpt rfl)
  obtain ⟨hst5, K6'⟩ := HSR.out _ _ K5r.out
  have K6r := hide K6'
  have B6 : Below w5.heap.size w5 ((w5.alloc (.cells Tryd.zeroCells27 27)).setCells w5.heap.size 0 L) := below_sets (below1 w5 _) (Nat.le_refl _) (by simp) _ _
  have U6 := hide (below_then U5.out B6)
  have S6 := hide (S5.out.below B6)
  have N6 := hide (N5.out.below B6)
  have O6 := hide (O5.out.below B6)
  have K6 := hide (K5.out.below B6)
  clear LB K6' B6
  go_upto_region 4 with fail
  generalize (w5.alloc (.cells Tryd.zeroCells27 27)).setCells w5.heap.size 0 L = W6 at K6 K6r U6 S6 N6 O6 ⊢
  clear hst5
  have l1 := HLP.out _ _ K6.out
  have l2 := HLR.out _ _ K6r.out
  go_wp2_with (first | (go_at_call 16; refine (HSM.out _).mono ?_; rintro e w7 ⟨rfl, LB⟩; have U7 := hide (below_then U6.out LB); have N7 := hide (N6.out.below LB); have t1 := (S6.out.below LB).text; have t2 := (O6.out.below LB).text; clear LB) | (go_at_call 15; refine (names_any _ N7.out).mono ?_; rintro e w8 ⟨rfl, LB⟩; have U8 := hide (below_then U7.out LB); clear LB))
  go_ret
  exact ⟨rfl, U8.out⟩

end Go.Proofs.YtejfbamijjddgaaDoor
