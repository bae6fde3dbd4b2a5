/-
  The statements' own helper 'own': the first list is the wanted one; it is written over and appended to; the second is still the wanted one.
-/
import Derived.Test.YtfcjahdkpjbggaaKept3
namespace Go.Proofs.Ytfcjahdkpjbggaa
open Go.RowKit Go.IntWalk

set_option maxRecDepth 100000 in
set_option maxHeartbeats 4000000 in
theorem own3_any (aX : Option Addr) (L cX : Nat) (xs : List Int) (aY : Option Addr) (nY cY : Nat) (aW : Option Addr) (nW cW : Nat) (w : World) (base : Nat) (hx : OwnI w base (.slice aX L cX) xs) (hxs : SrcI w aX L cX xs)
    (hy : ∀ w', w.grownBy w' (Value.slice aX L cX).ownBlock → SrcI w' aY nY cY xs) (hw : ∀ w', w.grownBy w' (Value.slice aX L cX).ownBlock → SrcI w' aW nW cW xs) (hb : base ≤ w.heap.size) (hL : L ≤ 1000) :
    Calls Try.prog 18 #[.slice aX L cX, .slice aY nY cY, .slice aW nW cW] w fun e w' => e = .returned (.bool true) ∧ Below base w w' := by
  have HY := hide hy
  have HW := hide hw
  have HL := hide hxs.hlen
  have hsame := hide (sameI_true aX L cX xs aW nW cW w hxs (hw w (World.grownBy.refl _ _)))
  clear hy hw
  go_enter Try.func18, Try.ntmps18
  go_wp2_with fail
  refine hsame.out.mono ?_
  rintro e w1 ⟨rfl, D1⟩
  have hx1 := hide (hx.heap D1.heap)
  have G1 : Hid (w.grownBy w1 (Value.slice aX L cX).ownBlock) := ⟨D1.os, D1.tape, D1.output, by rw [D1.heap]; exact Nat.le_refl _, fun k _ _ => by rw [D1.heap]⟩
  have hlt := hide hx.lt
  have hbs := hide hb
  have hLI : (L : Int) ≤ 1000 := by omega
  clear hsame hx hxs
  go_wp2
  go_loopw [7] (fun i wr => ∃ (k : Nat) (zs : List Int), k ≤ L ∧ i = .int .i64 k ∧ Hid (zs.length = L) ∧ Hid (OwnI wr base (.slice aX L cX) zs) ∧ Hid (w.grownBy wr (Value.slice aX L cX).ownBlock)) (fun i _ => L - (intOf i).toNat)
  case atStart => exact ⟨0, xs, Nat.zero_le _, rfl, HL, hx1, G1⟩
  case round =>
    obtain ⟨k, zs, hk, rfl, hzl, hO, hG⟩ := hrel
    by_cases hlt2 : k < L
    · rcases hO.out.split with ⟨hv1, hv2⟩ | ⟨gB, cB', hv1, hv2, hv3, hv4, hv5⟩
      · have := hzl.out
        rw [hv2] at this
        simp at this
        omega
      simp only [Value.slice.injEq] at hv1
      obtain ⟨rfl, hk0, rfl⟩ := hv1
      clear hk0 hv4
      have hcell := hO.out.cell k (by rw [hzl.out]; exact hlt2)
      have hfr := hO.out.frozen k
      have HS := hide (fun u => hO.out.stored k u)
      generalize zs.getD k 0 = x at hcell
      have kI : (k : Int) < (L : Int) := by omega
      go_wp2
      go_roundw
      case rel => exact ⟨k + 1, _, by omega, by go_num, by unfold Hid; rw [List.length_set]; exact hzl.out, (HS.out _).1, grown_trans hG.out (HS.out _).2⟩
      case measure => simp [intOf]; omega
    · have kI : ¬ (k : Int) < (L : Int) := by omega
      have hln : Hid ((zs ++ [7, 7]).length = L + 2) := by unfold Hid; rw [List.length_append, hzl.out]; rfl
      have hws := hide hG.out.size
      go_wp2_with (at_builtin; refine wpList_appIN _ rfl (.tmp 21) (.tmp 22) rfl base (.slice aX L cX) zs rfl (hO.out.alloc _) (some ⟨wr.heap.size, 0, none⟩) 2 2 [7, 7] rfl (SrcI.lit [7, 7] _ 2 rfl rfl (by simp) (by decide)) (L + 2) hln.out (.inr (by simp)) (by omega) (by have := hws.out; have := hbs.out; simp; omega) ?_; intro g4 c4 w4 ho4 hb4 hl4 hc4 hm4 hg4)
      have G4 : Hid (w.grownBy w4 (Value.slice aX L cX).ownBlock) := grown_trans hG.out (grown_trans (World.grownBy_alloc wr _ _) hg4)
      refine (sameI_true aY nY cY xs aW nW cW w4 (HY.out w4 G4.out) (HW.out w4 G4.out)).mono ?_
      rintro e w5 ⟨rfl, D5⟩
      go_wp2
      go_ret
      exact ⟨rfl, D5.below ((Below.refl _ w).grown G4.out hbs.out (fun q hq => (hlt.out q hq).1))⟩

end Go.Proofs.Ytfcjahdkpjbggaa
