/-
  OidEncodes answers true at any list of numbers, and writes nothing that was there.
-/
import Derived.Test.YtibhlhfnddmelaaDoorOTxt
import Derived.Test.YtibhlhfnddmelaaDoorKept3
namespace Go.Proofs.YtibhlhfnddmelaaDoor
open Go.RowKit Go.IntWalk

set_option maxRecDepth 100000 in
set_option maxHeartbeats 4000000 in
theorem encodes_walk (a1 : Option Addr) (n1 c1 : Nat) (xs : List Int) (w : World) (h1 : SrcI w a1 n1 c1 xs) (hn1 : n1 ≤ 17592186043904) (hp : Pow w) :
    Calls Tryd.prog 3 #[.slice a1 n1 c1] w fun e w' => e = .returned (.bool true) ∧ Below w.heap.size w w' := by
  have L1 := hide h1.hlen
  have Y1 := hide h1.hbyt
  have Hp := hide hp
  clear hp
  go_enter Tryd.func3, Tryd.ntmps3
  go_wp2_with fail
  refine (lentI_any a1 n1 c1 xs _ h1 hn1).mono ?_
  rintro e w1 ⟨g, c, rfl, hc1, hm1, hg1, hgl1, hin1, B1⟩
  have s1 : SrcI w1 (some ⟨g, 0, none⟩) n1 c xs := hin1.src (by intro x hx; simp at hx; rcases hx with hx | rfl; exact Y1.out x hx; omega) n1 (by omega) (by rw [List.take_append_of_le_length (by rw [L1.out]; exact Nat.le_refl _), List.take_of_length_le (by rw [L1.out]; exact Nat.le_refl _)]) hm1
  go_wp2_with fail
  refine (encode_any _ _ _ xs _ s1).mono ?_
  rintro e w2 ⟨aB, cB, rfl, oB, B2⟩
  go_wp2_with fail
  refine (encode_any _ _ _ xs _ (s1.below B2)).mono ?_
  rintro e w3 ⟨aC, cC, rfl, oC, B3⟩
  have B23 : Below w1.heap.size w1 w3 := B2.trans (B3.mono B2.size)
  have B13 : Below w.heap.size w w3 := B1.trans (B23.mono B1.size)
  go_wp2_with fail
  refine (refEncode_any _ _ _ xs _ (h1.below B13)).mono ?_
  rintro e w4 ⟨aW, cW, rfl, oW, B4⟩
  have B24 : Below w1.heap.size w1 w4 := B23.trans (B4.mono B23.size)
  have B14 : Below w.heap.size w w4 := B1.trans (B24.mono B1.size)
  go_wp2_with fail
  refine (text_any _ _ _ xs _ (s1.below B24) (Hp.out.below B14)).mono ?_
  rintro e w5 ⟨rfl, B5⟩
  have B15 : Below w.heap.size w w5 := B14.trans (B5.mono B14.size)
  go_wp2_with fail
  refine (refText_any _ _ _ xs _ (h1.below B15)).mono ?_
  rintro e w6 ⟨rfl, B6⟩
  have B16 : Below w.heap.size w w6 := B15.trans (B6.mono B15.size)
  have B26 : Below w2.heap.size w2 w6 := ((B3.trans (B4.mono B3.size)).trans (B5.mono (Nat.le_trans B3.size B4.size))).trans (B6.mono (Nat.le_trans (Nat.le_trans B3.size B4.size) B5.size))
  have B36 : Below w3.heap.size w3 w6 := (B4.trans (B5.mono B4.size)).trans (B6.mono (Nat.le_trans B4.size B5.size))
  have B46 : Below w4.heap.size w4 w6 := B5.trans (B6.mono B5.size)
  have B06 : Below w1.heap.size w1 w6 := B2.trans (B26.mono B2.size)
  have oB6 := hide (oB.belowA B26)
  have oC6 := hide (oC.belowA B36)
  have oW6 := hide (oW.belowA B46)
  have hin6 := hide (hin1.belowA B06)
  have h6 := hide (h1.below B16)
  have s6 := hide (s1.below B06)
  have EB := hide (encC_byte xs)
  have tB := (oB6.out.toSrc EB.out).text
  have tW := (oW6.out.toSrc EB.out).text
  have zBC : Hid (∀ q, (Value.slice aB (encC xs).length cB).ownBlock = some q → w1.heap.size ≤ q ∧ q < w2.heap.size) := fun q hq => oB.lt q hq
  have zC : Hid (∀ q, (Value.slice aC (encC xs).length cC).ownBlock = some q → w2.heap.size ≤ q ∧ q < w3.heap.size) := fun q hq => oC.lt q hq
  have zW : Hid (∀ q, (Value.slice aW (encC xs).length cW).ownBlock = some q → w3.heap.size ≤ q ∧ q < w4.heap.size) := fun q hq => oW.lt q hq
  have hS := hide (And.intro B2.size (And.intro B3.size (And.intro B4.size (And.intro B46.size B1.size))))
  have hg1 := hide (And.intro hg1 hgl1)
  have Hc1 := hide (And.intro hc1 hm1)
  have BW := hide B16
  have hMm : Hid ((encC xs).length ≤ 1000) := by
    unfold Hid encC
    split
    · rename_i hm
      obtain ⟨_, p20, _, _⟩ := may_parts hm
      have q1 := numB_len (40 * xs.getD 0 0 + xs.getD 1 0)
      have q2 := (sizeS_in (40 * xs.getD 0 0 + xs.getD 1 0)).2
      have q3 := flat_len (xs.drop 2)
      unfold encS
      rw [List.length_append]
      rw [List.length_drop] at q3
      omega
    · simp
  clear oB oC oW B2 B3 B4 B5 B6 B26 B36 B46 B06 B23 B13 B24 B14 B15 B16 B1 hin1 s1 hc1 hm1 hgl1
  generalize encC xs = E at *
  obtain ⟨M, hM⟩ : ∃ M, E.length = M := ⟨_, rfl⟩
  rw [hM] at oB6 oC6 oW6 tB tW zBC zC zW hMm ⊢
  have HM := hide hM
  clear hM
  generalize encE xs = R at *
  generalize txtC xs = X at *
  go_wp2_with fail
  refine (may_any _ _ _ xs _ s6.out).mono ?_
  rintro e w7 ⟨rfl, D7⟩
  go_wp2_with fail
  refine (refMay_any _ _ _ xs _ (D7.src h6.out)).mono ?_
  rintro e w8 ⟨rfl, D8⟩
  have hq : (mayS xs == mayS xs) = true := by simp
  have D8 := hide (D7.trans D8)
  clear D7
  go_wp2
  have oB8 := hide (oB6.out.heap D8.out.heap)
  go_loopw [14] (fun i wr => ∃ (k : Nat) (zs : List Int), k ≤ M ∧ i = .int .i64 k ∧ Hid (zs.length = M) ∧ Hid (OwnB wr w1.heap.size (.slice aB M cB) zs) ∧ Hid (w8.grownBy wr (Value.slice aB M cB).ownBlock)) (fun i _ => M - (intOf i).toNat)
  case atStart => exact ⟨0, E, Nat.zero_le _, rfl, HM, oB8, World.grownBy.refl _ _⟩
  case round =>
    obtain ⟨k, zs, hk, rfl, hzl, hO, hG⟩ := hrel
    by_cases hlt : k < M
    · rcases hO.out.split with ⟨hv1, hv2⟩ | ⟨gB, cB', hv1, hv2, hv3, hv4, hv5⟩
      · have := hzl.out
        rw [hv2] at this
        simp at this
        omega
      simp only [Value.slice.injEq] at hv1
      obtain ⟨rfl, hk0, rfl⟩ := hv1
      clear hk0 hv4
      have hcell := hO.out.cell k (by rw [hzl.out]; exact hlt)
      have hfr := hO.out.frozen k
      have HS := hide (fun u => hO.out.stored k u)
      generalize zs.getD k 0 = x at hcell
      have kI : (k : Int) < (M : Int) := by omega
      have hM1 : (M : Int) ≤ 1000 := by have := hMm.out; omega
      go_wp2
      go_roundw
      case rel => exact ⟨k + 1, _, by omega, by go_num, by unfold Hid; rw [List.length_set]; exact hzl.out, (HS.out _).1, grown_trans hG.out (HS.out _).2⟩
      case measure => simp [intOf]; omega
    · have kI : ¬ (k : Int) < (M : Int) := by omega
      have hz := hS.out
      have z8 : w8.heap.size = w6.heap.size := by rw [D8.out.heap]
      have hBr : Below w.heap.size w wr := (D8.out.below BW.out).grown hG.out (by rw [z8]; omega) (fun q hq => by have := (zBC.out q hq).1; omega)
      have oCr : OwnB wr w2.heap.size (.slice aC M cC) E := (oC6.out.heap D8.out.heap).kept hG.out (by
        cases hc : (Value.slice aC M cC).ownBlock with
        | none => exact .inl rfl
        | some q => exact .inr (fun he => by have h1 := zC.out q hc; have h2 := zBC.out q he.symm; omega))
      have oWr : OwnB wr w3.heap.size (.slice aW M cW) E := (oW6.out.heap D8.out.heap).kept hG.out (by
        cases hc : (Value.slice aW M cW).ownBlock with
        | none => exact .inl rfl
        | some q => exact .inr (fun he => by have h1 := zW.out q hc; have h2 := zBC.out q he.symm; omega))
      have hinr : OwnI wr w.heap.size (.slice (some ⟨g, 0, none⟩) (n1 + 1) c) (xs ++ [-71]) := (hin6.out.heap D8.out.heap).kept hG.out (.inr (fun he => by have h2 := zBC.out g he.symm; have := hg1.out; omega))
      have tC := (oCr.toSrc EB.out).text
      have tW := (oWr.toSrc EB.out).text
      have hr := hide (h1.below hBr)
      have hk1 := hide (keptI_any g n1 c a1 c1 xs wr _ hr.out hn1 Hc1.out.1 Hc1.out.2 hinr)
      clear oCr oWr hinr hz z8
      go_wp2_with fail
      refine hk1.out.mono ?_
      rintro e w9 ⟨rfl, D9⟩
      go_wp2_with fail
      refine (namesI_any _).mono ?_
      rintro e w10 ⟨rfl, rfl⟩
      go_wp2
      go_ret
      exact ⟨rfl, D9.below hBr⟩

end Go.Proofs.YtibhlhfnddmelaaDoor
