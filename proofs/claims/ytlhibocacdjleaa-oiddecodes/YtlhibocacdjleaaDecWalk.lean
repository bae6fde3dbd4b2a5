/-
  OidDecodes answers true at any bytes, and writes nothing that was there.
-/
import Derived.Test.YtlhibocacdjleaaOwn3
import Derived.Test.YtlhibocacdjleaaRDec
import Derived.Test.YtlhibocacdjleaaDecM
import Derived.Test.YtlhibocacdjleaaMay
import Derived.Test.YtlhibocacdjleaaMore
namespace Go.Proofs.Ytlhibocacdjleaa
open Go.RowKit Go.IntWalk

/-- What oid.Decode is to answer. -/
def DecodeSays : Prop := ∀ (ao : Option Addr) (n cap : Nat) (xs : List Int) (w : World), Src w ao n cap xs → n ≤ 140737488355328 →
  Calls Try.prog 18 #[.slice ao n cap] w fun e w' => ∃ ao' L c', e = .returned (.tuple #[.slice ao' L c', .int .i64 (decS xs).2]) ∧ OwnI w' w.heap.size (.slice ao' L c') (decS xs).1 ∧ Below w.heap.size w w'

set_option maxRecDepth 100000 in
set_option maxHeartbeats 4000000 in
theorem decodes_walk (HD : DecodeSays) (a1 : Option Addr) (n1 c1 : Nat) (xs : List Int) (w : World) (h1 : Src w a1 n1 c1 xs) (hn1 : n1 ≤ 140737488351232) :
    Calls Try.prog 5 #[.slice a1 n1 c1] w fun e w' => e = .returned (.bool true) ∧ Below w.heap.size w w' := by
  have L1 := hide h1.hlen
  have Y1 := hide h1.hbyt
  go_enter Try.func5, Try.ntmps5
  go_wp2_with (first | (at_builtin; refine wpList_appN _ rfl (.tmp 10) (.tmp 11) rfl w.heap.size (.slice (some ⟨w.heap.size, 0, none⟩) 0 0) [] rfl (OwnB.lit _ [] _ 0 rfl rfl (Nat.le_refl _) (by decide)) a1 n1 c1 xs rfl (h1.alloc _) n1 (by simpa using L1.out) (.inl (by simp)) (by omega) (by simp) ?_; intro g1 c1' w1 ho1 hb1 hl1 hc1 hm1 hg1) | (at_builtin; refine wpList_appN _ rfl (.tmp 12) (.tmp 13) rfl w.heap.size (.slice (some ⟨g1, 0, none⟩) n1 c1') xs rfl (ho1.alloc _) (some ⟨w1.heap.size, 0, none⟩) 1 1 [90] rfl (Src.lit [90] _ 1 rfl rfl (by simp) (by decide)) (n1 + 1) (by simpa using L1.out) (.inl (by simp)) (by omega) (by simp; omega) ?_; intro g c w2 ho2 hb2 hl2 hc2 hm2 hg2; have hnc : n1 ≤ c := by omega))
  have B2 : Below w.heap.size w w2 := by
    have z : w.heap.size ≤ w1.heap.size := by omega
    exact ((((Below.refl _ _).alloc (Nat.le_refl _) _).grown hg1 (by simp) (by intro k hk; cases hk; exact Nat.le_refl _)).alloc z _).grown hg2 (by simp; omega) (by intro k hk; cases hk; exact hb1)
  have sI : Src w2 (some ⟨g, 0, none⟩) n1 c xs := ho2.src (by intro x hx; simp at hx; rcases hx with hx | rfl; exact Y1.out x hx; omega) n1 (by omega) (by rw [List.take_append_of_le_length (by rw [L1.out]; exact Nat.le_refl _), List.take_of_length_le (by rw [L1.out]; exact Nat.le_refl _)]) hm2
  obtain ⟨k1, k2⟩ := decS_ok xs
  have K1 := hide k1
  have K2 := hide k2
  clear k1 k2
  refine (HD (some ⟨g, 0, none⟩) n1 c xs w2 sI (by omega)).mono ?_
  rintro e w3 ⟨aX, LX, cX, rfl, oX, B3⟩
  go_wp2_with fail
  refine (HD (some ⟨g, 0, none⟩) n1 c xs w3 (sI.below B3) (by omega)).mono ?_
  rintro e w4 ⟨aY, LY, cY, rfl, oY, B4⟩
  have B24 : Below w2.heap.size w2 w4 := B3.trans (B4.mono B3.size)
  have B04 : Below w.heap.size w w4 := B2.trans (B24.mono B2.size)
  go_wp2_with fail
  refine (refDecode_any a1 n1 c1 xs w4 (h1.below B04) (by omega)).mono ?_
  rintro e w5 ⟨aW, LW, cW, rfl, oW, B5⟩
  have B25 : Hid (Below w2.heap.size w2 w5) := B24.trans (B5.mono B24.size)
  have B05 : Hid (Below w.heap.size w w5) := B04.trans (B5.mono B04.size)
  have B35 : Below w3.heap.size w3 w5 := B4.trans (B5.mono B4.size)
  have oX5 := hide (oX.belowA B35)
  have oY5 := hide (oY.belowA B5)
  have oW5 := hide oW
  have zX : Hid (∀ q, (Value.slice aX LX cX).ownBlock = some q → w2.heap.size ≤ q ∧ q < w3.heap.size) := fun q hq => oX.lt q hq
  have zY : Hid (∀ q, (Value.slice aY LY cY).ownBlock = some q → w3.heap.size ≤ q ∧ q < w4.heap.size) := fun q hq => oY.lt q hq
  have zW : Hid (∀ q, (Value.slice aW LW cW).ownBlock = some q → w4.heap.size ≤ q ∧ q < w5.heap.size) := fun q hq => oW.lt q hq
  have hS := hide (And.intro B2.size (And.intro B3.size (And.intro B4.size B5.size)))
  have hLX : Hid (LX ≤ 1000) := by
    unfold Hid
    have := (oX5.out.toSrc K2.out).hlen
    have := K1.out
    omega
  have hown := hide (own3_any aX LX cX (decS xs).1 aY LY cY aW LW cW w5 w2.heap.size oX5.out (oX5.out.toSrc K2.out)
    (fun w' hg => (oY5.out.kept hg (by
      cases hc : (Value.slice aY LY cY).ownBlock with
      | none => exact .inl rfl
      | some q => exact .inr (fun he => by have h1 := zY.out q hc; have h2 := zX.out q he.symm; omega))).toSrc K2.out)
    (fun w' hg => (oW5.out.kept hg (by
      cases hc : (Value.slice aW LW cW).ownBlock with
      | none => exact .inl rfl
      | some q => exact .inr (fun he => by have h1 := zW.out q hc; have h2 := zX.out q he.symm; have := hS.out; omega))).toSrc K2.out)
    B25.out.size hLX.out)
  have HO2 := hide ho2
  have HB2 := hide B2
  clear oX oY oW B3 B4 B5 B24 B04 B35 sI B2 ho2
  generalize (decS xs).2 = E at *
  go_wp2_with fail
  refine hown.out.mono ?_
  rintro e w6 ⟨rfl, B6⟩
  have B26 : Hid (Below w2.heap.size w2 w6) := B25.out.trans B6
  have hin6 := hide (HO2.out.belowA B26.out)
  have s6 : Src w6 a1 n1 c1 xs := h1.below (HB2.out.trans (B26.out.mono HB2.out.size))
  have sN : Src w6 (some ⟨g, 0, none⟩) (n1 + 1) c (xs ++ [90]) := hin6.out.src (by intro x hx; simp at hx; rcases hx with hx | rfl; exact Y1.out x hx; omega) (n1 + 1) (Nat.le_refl _) (by rw [List.take_of_length_le (by simp; have := L1.out; omega)]) hm2
  have ad : ¬ 9223372036854775807 < (strOfNums xs).size + 1 := by rw [strOfNums_size, L1.out]; omega
  have ae : strOfNums xs ++ { data := #[90] } = strOfNums (xs ++ [90]) := by rw [← strOf_append]; rfl
  have t1 := s6.text
  have t2 := sN.text
  go_wp2_with fail
  refine (namesI_any _).mono ?_
  rintro e w7 ⟨rfl, rfl⟩
  go_wp2
  go_ret
  exact ⟨rfl, HB2.out.trans (B26.out.mono HB2.out.size)⟩

end Go.Proofs.Ytlhibocacdjleaa
