/-
  The statement NameEncodes: its walk.
-/
import Derived.Test.YtgbbgfjamneioaaDoorZNmThereToNmLaw
import Derived.Test.YtgbbgfjamneioaaDoorZNmRTx
namespace Go.Proofs.YtgbbgfjamneioaaDoor
open Go.RowKit Go.IntWalk Go.Shelf

theorem LentA.grown {w w' : World} {base g n c : Nat} {xs : List (Int × ByteArray)} (h : LentA w base g n c xs) {row : Option Nat} (hg : w.grownBy w' row) (hr : some g ≠ row) : LentA w' base g n c xs := by
  have k : ∀ {o : Nat} {v : Value}, w.cell? ⟨g, o, none⟩ = some v → w'.cell? ⟨g, o, none⟩ = some v := fun {o v} e => (grown_cell_old hg e hr).trans e
  exact ⟨h.hb, h.hn, h.hc, h.hm, h.hz, fun i hi => ⟨k (h.cells i hi).1, k (h.cells i hi).2⟩, k h.mark, k h.markV⟩
theorem LentA.lt {w : World} {base g n c : Nat} {xs : List (Int × ByteArray)} (h : LentA w base g n c xs) : g < w.heap.size := lt_of_cell h.mark

set_option maxRecDepth 100000 in
set_option maxHeartbeats 2000000 in
theorem nameEncodes_walk (aa : Option Addr) (na ca : Nat) (xs : List (Int × ByteArray)) (w : World) (hT : TabN w) (hA : Ats w aa na ca xs) (nA : aa = none → na = 0 ∧ ca = 0) (lA : na ≤ 1048576) (hx : ∀ x ∈ xs, x.2.size ≤ 1048576) :
    Calls Tryd.prog 3 #[.slice aa na ca] w fun e w' => e = .returned (.bool true) ∧ Below w.heap.size w w' := by
  have L1 := hide (lentA_any aa na ca xs w hA nA lA hx)
  have HA := hide hA
  have HX := hide hx
  have HT := hide hT
  clear hA nA hx hT
  have hq1 := hide (fun (W : World) (g c : Nat) (h : Ats W (some ⟨g, 0, none⟩) na c xs) => encodeN_any (some ⟨g, 0, none⟩) na c xs W h HX.out)
  have hq2 := hide (fun (W : World) (h : Ats W aa na ca xs) => rencodeN_any aa na ca xs W h HX.out)
  have hq3 := hide (fun (W : World) (g c : Nat) (hT : TabN W) (h : Ats W (some ⟨g, 0, none⟩) na c xs) => textN_any (some ⟨g, 0, none⟩) na c xs W hT h HX.out)
  have hq4 := hide (fun (W : World) (h : Ats W aa na ca xs) => rtextN_any aa na ca xs W h HX.out)
  have hq5 := hide (fun (W : World) (g c : Nat) (h : Ats W (some ⟨g, 0, none⟩) na c xs) => mayN_any (some ⟨g, 0, none⟩) na c xs W h (fun x hx => by have := HX.out x hx; omega))
  have hq6 := hide (fun (W : World) (h : Ats W aa na ca xs) => rmayN_any aa na ca xs W h (fun x hx => by have := HX.out x hx; omega))
  have hq7 := hide (fun (W : World) (g c base : Nat) (h : Ats W aa na ca xs) (ho : LentA W base g na c xs) => keptA_any g na c aa ca xs W base h lA ho)
  have HBY := hide (encNC_byte xs)
  generalize encNC xs = EC at *
  generalize encNE xs = EE at *
  generalize txT xs = TX at *
  generalize nameL xs = NL at *
  clear HX
  go_enter Tryd.func3, Tryd.ntmps3
  go_wp2_with fail
  refine L1.out.mono ?_
  rintro e w1 ⟨g, c, rfl, S1, B1⟩
  have d1 := hide (hq1.out w1 g c S1.ats)
  have HS1 := hide S1
  have K1 := hide B1
  clear L1 S1 B1
  go_wp2_with fail
  refine d1.out.mono ?_
  rintro e w2 ⟨a1, m1, c1, rfl, o1, B2⟩
  have HS2 := hide (HS1.out.below B2)
  have K2 := hide (K1.out.trans (B2.mono K1.out.size))
  have hg1 := HS1.out.lt
  have r1lo : Hid (∀ j, (Value.slice a1 m1 c1).ownBlock = some j → w1.heap.size ≤ j) := fun j hj => (OwnB.lt o1 j hj).1
  have r1hi : Hid (∀ j, (Value.slice a1 m1 c1).ownBlock = some j → j < w2.heap.size) := fun j hj => (OwnB.lt o1 j hj).2
  have s12 := B2.size
  have s01 := K1.out.size
  have d2 := hide (hq1.out w2 g c HS2.out.ats)
  have O1 := hide o1
  clear d1 HS1 hq1 o1 B2 K1
  go_wp2_with fail
  refine d2.out.mono ?_
  rintro e w3 ⟨a2, m2, c2, rfl, o2, B3⟩
  have HS3 := hide (HS2.out.below B3)
  have K3 := hide (K2.out.trans (B3.mono K2.out.size))
  have O1b := hide (OwnB.belowA O1.out B3)
  have r2 : Hid ((Value.slice a2 m2 c2).ownBlock = none ∨ (Value.slice a2 m2 c2).ownBlock ≠ (Value.slice a1 m1 c1).ownBlock) := by
    rcases hq : (Value.slice a2 m2 c2).ownBlock with _ | j
    · exact .inl rfl
    · refine .inr (fun e => ?_)
      have h1 := (OwnB.lt o2 j hq).1
      have h2 := r1hi.out j e.symm
      omega
  have s23 := B3.size
  have d3 := hide (hq2.out w3 (HA.out.below K3.out))
  have O2 := hide o2
  clear d2 HS2 hq2 o2 B3 O1
  go_wp2_with fail
  refine d3.out.mono ?_
  rintro e w4 ⟨a3, m3, c3, rfl, o3, B4⟩
  have HS4 := hide (HS3.out.below B4)
  have K4 := hide (K3.out.trans (B4.mono K3.out.size))
  have O1c := hide (OwnB.belowA O1b.out B4)
  have O2b := hide (OwnB.belowA O2.out B4)
  have r3 : Hid ((Value.slice a3 m3 c3).ownBlock = none ∨ (Value.slice a3 m3 c3).ownBlock ≠ (Value.slice a1 m1 c1).ownBlock) := by
    rcases hq : (Value.slice a3 m3 c3).ownBlock with _ | j
    · exact .inl rfl
    · refine .inr (fun e => ?_)
      have h1 := (OwnB.lt o3 j hq).1
      have h2 := r1hi.out j e.symm
      omega
  have s34 := B4.size
  have d4 := hide (hq3.out w4 g c (HT.out.below K4.out) HS4.out.ats)
  have O3 := hide o3
  clear d3 HS3 hq3 o3 B4 O1b O2 K2 K3
  go_wp2_with fail
  refine d4.out.mono ?_
  rintro e w5 ⟨rfl, B5⟩
  have HS5 := hide (HS4.out.below B5)
  have K5 := hide (K4.out.trans (B5.mono K4.out.size))
  have O1d := hide (OwnB.belowA O1c.out B5)
  have O2c := hide (OwnB.belowA O2b.out B5)
  have O3b := hide (OwnB.belowA O3.out B5)
  have d5 := hide (hq4.out w5 (HA.out.below K5.out))
  have s45 := B5.size
  clear d4 HS4 hq4 B5 O1c O2b O3 K4
  go_wp2_with fail
  refine d5.out.mono ?_
  rintro e w6 ⟨rfl, B6⟩
  have HS6 := hide (HS5.out.below B6)
  have K6 := hide (K5.out.trans (B6.mono K5.out.size))
  have O1e := hide (OwnB.belowA O1d.out B6)
  have O2d := hide (OwnB.belowA O2c.out B6)
  have O3c := hide (OwnB.belowA O3b.out B6)
  have s56 := B6.size
  have t1 := (OwnB.toSrc O1e.out HBY.out).text
  have t3 := (OwnB.toSrc O3c.out HBY.out).text
  have d6 := hide (hq5.out w6 g c HS6.out.ats)
  have p1 : (EE == EE) = true := by simp
  have p2 : ((strOfNums EC).toList == (strOfNums EC).toList) = true := by simp
  have p3 : (TX.toList == TX.toList) = true := by simp
  have p4 : (NL == NL) = true := by simp
  clear d5 HS5 hq5 B6 O1d O2c O3b K5
  go_wp2_with fail
  refine d6.out.mono ?_
  rintro e w7 ⟨rfl, B7⟩
  have HS7 := hide (HS6.out.below B7)
  have K7 := hide (K6.out.trans (B7.mono K6.out.size))
  have O1f := hide (OwnB.belowA O1e.out B7)
  have O2e := hide (OwnB.belowA O2d.out B7)
  have O3d := hide (OwnB.belowA O3c.out B7)
  have d7 := hide (hq6.out w7 (HA.out.below K7.out))
  have s67 := B7.size
  clear d6 HS6 B7 O1e O2d O3c K6 t1 t3
  go_wp2_with fail
  refine d7.out.mono ?_
  rintro e w8 ⟨rfl, B8⟩
  have HS8 := hide (HS7.out.below B8)
  have K8 := hide (K7.out.trans (B8.mono K7.out.size))
  have O1g := hide (OwnB.belowA O1f.out B8)
  have O2f := hide (OwnB.belowA O2e.out B8)
  have O3e := hide (OwnB.belowA O3d.out B8)
  have s78 := B8.size
  clear d7 HS7 B8 O1f O2e O3d K7
  have hm1 : m1 = EC.length := by
    rcases OwnB.split O1g.out with ⟨h1, h2⟩ | ⟨q, cc, h1, _⟩
    · cases h1; rw [h2]; rfl
    · exact (Value.slice.inj h1).2.1
  have hmI : (m1 : Int) ≤ 9223372036854775807 := by
    rcases OwnB.split O1g.out with ⟨h1, h2⟩ | ⟨q, cc, h1, _, _, h5, h6⟩
    · cases h1; omega
    · unfold maxLen at h6; omega
  go_wp2
  go_loopw [14] (fun i wr => ∃ (k : Nat) (ys : List Int), i = .int .i64 k ∧ k ≤ m1 ∧ Hid (OwnB wr w1.heap.size (.slice a1 m1 c1) ys ∧ w8.grownBy wr (Value.slice a1 m1 c1).ownBlock)) (fun i _ => m1 - (intOf i).toNat)
  case atStart => exact ⟨0, EC, rfl, Nat.zero_le _, O1g.out, World.grownBy.refl _ _⟩
  case round =>
    obtain ⟨k, ys, rfl, hk, HQ⟩ := hrel
    by_cases hlt : k < m1
    · have ltI : (k : Int) < (m1 : Int) := by omega
      obtain ⟨g1, rfl⟩ : ∃ g1, a1 = some ⟨g1, 0, none⟩ := by
        rcases OwnB.split HQ.out.1 with ⟨h1, _⟩ | ⟨q, cc, h1, _⟩
        · cases h1; omega
        · exact ⟨q, (Value.slice.inj h1).1⟩
      have hly := OwnB.eqlen HQ.out.1
      have hcell := OwnB.cell HQ.out.1 k (by omega)
      have hfr := OwnB.frozen HQ.out.1 k
      have HS := hide (fun u => OwnB.stored HQ.out.1 k u)
      clear hly
      go_wp2
      go_roundw
      case rel => exact ⟨k + 1, _, by go_num, by omega, (HS.out _).1, grown_trans HQ.out.2 (HS.out _).2⟩
      case measure => simp [intOf] <;> omega
    · obtain rfl : k = m1 := by omega
      have nI : ¬ ((k : Int) < (k : Int)) := by omega
      have gg := HQ.out.2
      have K9 := hide (K8.out.grown gg K8.out.size (fun j hj => by have := r1lo.out j hj; omega))
      have HS9 := hide (HS8.out.grown gg (fun e => by have := r1lo.out g e.symm; omega))
      have O2g := hide (World.ownsRow.kept O2f.out gg r2.out)
      have O3f := hide (World.ownsRow.kept O3e.out gg r3.out)
      have t2 := (OwnB.toSrc (show OwnB wr w2.heap.size (.slice a2 m2 c2) EC from O2g.out) HBY.out).text
      have t3 := (OwnB.toSrc (show OwnB wr w3.heap.size (.slice a3 m3 c3) EC from O3f.out) HBY.out).text
      have d8 := hide (hq7.out wr g c w.heap.size (HA.out.below K9.out) HS9.out)
      clear gg O2g O3f HS8 HS9 O1g O2f O3e
      go_wp2_with fail
      refine d8.out.mono ?_
      rintro e w9 ⟨rfl, B9⟩
      have K10 := hide (K9.out.trans (B9.mono K9.out.size))
      clear d8 B9 t2 t3
      go_wp2_with fail
      refine (works12_any w9).mono ?_
      rintro e w10 ⟨rfl, B10⟩
      go_wp2
      go_ret
      exact ⟨rfl, K10.out.trans (B10.mono K10.out.size)⟩

end Go.Proofs.YtgbbgfjamneioaaDoor
