/-
  NatBytes answers true at any bytes, any number and any place, and writes nothing that was there.
-/
import Derived.Test.YtekhobmjjoegpaaDoorNBy
import Derived.Deep.RegionHeld3
namespace Go.Proofs.YtekhobmjjoegpaaDoor
open Go.RowKit Go.IntWalk

/-- 'string(t)' of a temporary, by a name of its own: in a region that draws its order the walk then carries it out behind the call that makes the bytes. -/
def textOf (t : Nat) : Op := .convert 22 9 (.tmp t)
theorem textOf_eq (t : Nat) : Op.convert 22 9 (.tmp t) = textOf t := rfl
attribute [local go_sem] textOf

set_option maxRecDepth 100000 in
set_option maxHeartbeats 4000000 in
theorem bytes_walk (a0 : Option Addr) (n0 c0 : Nat) (ys : List Int) (a1 : Option Addr) (n1 c1 : Nat) (xs : List Int) (I : Int) (w : World) (SB : SrcG .u8 256 w a0 n0 c0 ys) (SA : SrcG .u64 18446744073709551616 w a1 n1 c1 xs) (hn0 : n0 ≤ 140737488351232) (hn1 : n1 ≤ 17592186043904) (hI : -9223372036854775808 ≤ I ∧ I ≤ 9223372036854775807) :
    Calls Tryd.prog 3 #[.slice a0 n0 c0, .slice a1 n1 c1, .int .i64 I] w fun e w' => e = .returned (.bool true) ∧ Below w.heap.size w w' := by
  have HL := hide SB.hlen
  have HDB := hide SB.hdg
  obtain ⟨E, hE⟩ : ∃ E, errF ys = E := ⟨_, rfl⟩
  obtain ⟨F, hF⟩ : ∃ F, errN xs = F := ⟨_, rfl⟩
  obtain ⟨X, hX⟩ : ∃ X, valN xs = X := ⟨_, rfl⟩
  obtain ⟨D, hD⟩ : ∃ D, bitN xs I = D := ⟨_, rfl⟩
  have HE := hide hE
  have HF := hide hF
  have HX := hide hX
  have HD := hide hD
  have HI := hide hI
  have HN0 := hide hn0
  have HN1 := hide hn1
  clear hE hF hX hD hI hn1
  go_enter Tryd.func3, Tryd.ntmps3
  go_wp2_with (first | (at_builtin; refine appG 22 1 Tryd.underlying22 Tryd.infoB _ rfl (.tmp 22) (.tmp 23) rfl w.heap.size (.slice (some ⟨w.heap.size, 0, none⟩) 0 0) [] rfl (OwnG.lit _ [] _ 0 rfl rfl (Nat.le_refl _) (by decide)) a0 n0 c0 ys rfl (SB.alloc _) n0 (by simpa using HL.out) (.inl (by simp)) (by omega) (by omega) (by simp) ?_; intro g1 d1 w1 ho1 hb1 hl1 hc1 hm1 hg1 hk1) | (at_builtin; refine appG 22 1 Tryd.underlying22 Tryd.infoB _ rfl (.tmp 24) (.tmp 25) rfl w.heap.size (.slice (some ⟨g1, 0, none⟩) n0 d1) ys rfl (ho1.alloc _) (some ⟨w1.heap.size, 0, none⟩) 1 1 [90] rfl (SrcG.litAt (B := 256) [90] _ 1 _ rfl rfl (by intro x hx; simp at hx; omega) (by decide) rfl) (n0 + 1) (by simpa using HL.out) (.inl (by simp)) (by omega) (by omega) (by simp; omega) ?_; intro g d w2 ho2 hb2 hl2 hc2 hm2 hg2 hk2; have hnc : n0 ≤ d := by omega))
  have LW : Below w.heap.size w w2 := by
    have z : w.heap.size ≤ w1.heap.size := by omega
    exact ((((Below.refl _ _).alloc (Nat.le_refl _) _).grown hg1 (by simp) (by intro k hk; cases hk; exact Nat.le_refl _)).alloc z _).grown hg2 (by simp; omega) (by intro k hk; cases hk; exact hb1)
  have SW : SrcG .u8 256 w2 (some ⟨g, 0, none⟩) (n0 + 1) d (ys ++ [90]) := ho2.toSrc (HDB.out.append (by intro x hx; simp at hx; omega))
  have SI := SW.head3 n0 (by omega)
  rw [List.take_append_of_le_length (by rw [HL.out]; exact Nat.le_refl _), List.take_of_length_le (by rw [HL.out]; exact Nat.le_refl _)] at SI
  have SB := SB.below LW
  have SA := SA.below LW
  have HSW := hide SW
  have HNC := hide hnc
  clear ho1 hb1 hl1 hc1 hm1 hg1 hk1 ho2 hb2 hl2 hm2 hg2 hk2 SW
  go_wp2_with fail
  refine (from_u _ n0 d ys E HE.out _ SI).mono ?_
  rintro e w3 ⟨vx, rfl, F1, B1⟩
  go_wp2_with fail
  refine (from_u _ n0 d ys E HE.out _ (SI.below B1)).mono ?_
  rintro e w4 ⟨vy, rfl, F2, B2⟩
  have B12 := B1.trans (B2.mono B1.size)
  go_wp2_with fail
  refine (fromBytes_u _ n0 c0 ys E HE.out _ (SB.below B12)).mono ?_
  rintro e w5 ⟨vz, rfl, F3, B3⟩
  have B13 := B12.trans (B3.mono B12.size)
  go_wp2_with fail
  refine (own_u _ _ vx vy vz ys E HE.out _ ((F1.below B2).below B3) (F2.below B3) (FromR.apart F1 F2) F3).mono ?_
  rintro e w6 ⟨rfl, B4⟩
  have BB := B13.grown B4 B13.size (fun k hk => F1.row k hk)
  clear F1 F2 F3 B1 B2 B12 B3 B13 B4 SI
  have SB := SB.below BB
  have SA := SA.below BB
  have LW := LW.trans (BB.mono LW.size)
  have t1 := (HSW.out.below BB).text
  have t2 := SB.text
  have ad : ¬ 9223372036854775807 < (strOfNums ys).size + 1 := by rw [strOfNums_size, HL.out]; omega
  have ae : strOfNums ys ++ { data := #[90] } = strOfNums (ys ++ [90]) := by rw [← strOf_app]; rfl
  clear HSW BB
  go_wp2_with fail
  refine (lent_any a1 n1 c1 xs _ SA HN1.out).mono ?_
  rintro e w7 ⟨gl, cl, rfl, LA, hB⟩
  have SA := SA.below hB
  have LW := LW.trans (hB.mono LW.size)
  clear hB t1 t2 ad ae SB
  go_wp2_with fail
  refine (of_u _ _ _ xs F X HF.out HX.out _ SA).mono ?_
  rintro e w8 ⟨vm, rfl, NM, hB⟩
  have SA := SA.below hB
  have LA := LA.below hB
  have LW := LW.trans (hB.mono LW.size)
  clear hB
  have HSA8 := hide SA
  have HLA8 := hide LA
  have HNM8 := hide NM
  have HLW8 := hide LW
  go_wp2_with fail
  refine (bytes_u _ _ _ xs F X HF.out HX.out _ LA.src).mono ?_
  rintro e w9 ⟨ac, L, cc, bs, rfl, RC, hc1, hc2, hB⟩
  have SA := SA.below hB
  have LA := LA.below hB
  have NM := NM.below hB
  have w89 := hB.size
  have B89 := hide hB
  have LW := LW.trans (hB.mono LW.size)
  have HC1 := hide hc1
  have HC2 := hide hc2
  clear hB hc1 hc2
  go_wp2_with fail
  refine (bytes_u _ _ _ xs F X HF.out HX.out _ LA.src).mono ?_
  rintro e w10 ⟨ad, L', cd, bs', rfl, RD, hd1, hd2, hB⟩
  have hbe : bs = bs' := (bytes_inj RD.src.hdg RC.src.hdg hd1 HC1.out (by rw [hd2, HC2.out])).symm
  subst hbe
  have hle : L = L' := by rw [← RD.len, ← RC.len]
  subst hle
  have HSA := hide (SA.below hB)
  have HLA := hide (LA.below hB)
  have HNM := hide (NM.below hB)
  have HRC := hide (RC.below hB)
  have HRD := hide RD
  have w90 := hB.size
  have LW := LW.trans (hB.mono LW.size)
  have HLX : Hid (L ≤ 512) := RC.max
  have lI : (L : Int) ≤ 512 := by have := RC.max; omega
  have HDG := hide RC.src.hdg
  have HZ : Hid (w8.heap.size ≤ w9.heap.size ∧ w9.heap.size ≤ w10.heap.size) := ⟨w89, w90⟩
  have HS8 : Hid (Below w8.heap.size w8 w10) := B89.out.trans (hB.mono w89)
  have HRow : Hid (0 < L → ∃ gc Z, ac = some ⟨gc, 0, none⟩ ∧ w8.heap.size ≤ gc ∧ gc < w9.heap.size ∧ L ≤ Z.length ∧ RowG .u8 256 5 w10 gc Z) := by
    intro h0
    obtain ⟨gc, rest, h1, h2, h3, h4⟩ := RC.row h0
    exact ⟨gc, _, h1, h2, h3, by rw [List.length_append, RC.len]; omega, h4.below hB⟩
  have HAD : Hid (0 < L → ∃ gd, ad = some ⟨gd, 0, none⟩ ∧ w9.heap.size ≤ gd) := by
    intro h0
    obtain ⟨gd, rest, h1, h2, h3, h4⟩ := RD.row h0
    exact ⟨gd, h1, h2⟩
  have SLA := LA.below hB
  clear hB hd1 hd2 RC RD SA LA NM w89 w90 B89
  go_wp2_with fail
  refine (bits_u _ _ _ xs F X HF.out HX.out _ SLA.src).mono ?_
  rintro e w11 ⟨S, rfl, hS, hS4, hw⟩
  have hw2 := hw.symm
  subst hw2
  clear hw
  have HBL := hide hS
  have sI : (S : Int) ≤ 4096 := by omega
  clear hS hS4 SLA
  have te : ((strOfNums bs).toList == (strOfNums bs).toList) = true := by simp
  have gF : (F != F) = false := by simp
  have gS : ((S : Int) != (S : Int)) = false := by simp
  have gD : (D != D) = false := by simp
  have tc := (HRC.out.src.heap (w' := w10.drew) rfl).text
  go_wp2_with fail
  rw [textOf_eq 97]
  go_region_held3 (fun W => (convert 22 9 (.slice ac L cc)).run Tryd.prog W = .ok (.string (strOfNums bs)) W) (assumption) (first | (go_at_call 11; refine (refBytes_any vm X _ ?_).mono ?_; exact HNM.out.drew ⟨rfl, rfl, rfl, rfl⟩; rintro e w12 ⟨ar, cr, br, rfl, sr, hr1, hr2, B12⟩; have hbr : bs = br := (bytes_inj sr.hdg HDG.out hr1 HC1.out (by rw [hr2, HC2.out])).symm; subst hbr; have tr := sr.text; have tc2 := ((HRC.out.src.heap (w' := w10.drew) rfl).below B12).text; have HB12 := hide B12; have HNM2 := hide ((HNM.out.drew (w' := w10.drew) ⟨rfl, rfl, rfl, rfl⟩).below B12); have HLA2 := hide ((HLA.out.drew (w' := w10.drew) ⟨rfl, rfl, rfl, rfl⟩).below B12); have HSA2 := hide ((HSA.out.heap (w' := w10.drew) rfl).below B12); clear B12 sr hr1 hr2) | (go_at_call 12; refine (refBits_any vm X 256 _ HNM2.out (by omega)).mono ?_; rintro e w13 ⟨S', rfl, hS', hw⟩; have hSS : S = S' := bl_unique HBL.out hS'; subst hSS; clear hS'; have hw2 := hw.symm; subst hw2; clear hw) | (go_at_call 13; refine (bit_u _ _ _ xs I D HD.out _ HLA2.out.src HI.out.2).mono ?_; rintro e w13 ⟨rfl, hw⟩; have hw2 := hw.symm; subst hw2; clear hw) | (go_at_call 14; refine (refBit_u _ _ _ xs I D HD.out _ HSA2.out HI.out.2).mono ?_; rintro e w13 ⟨rfl, hw⟩; have hw2 := hw.symm; subst hw2; clear hw))
  have hBw := HB12.out
  have HB8 : Hid (Below w8.heap.size w8 w12) := (HS8.out.drew).trans (hBw.mono (by have h1 := HS8.out.size; simpa using h1))
  have HD2 : Hid (SrcG .u8 256 w12 ad L cd bs) := (HRD.out.src.heap (w' := w10.drew) rfl).below hBw
  have HR2 : Hid (0 < L → ∃ gc Z, ac = some ⟨gc, 0, none⟩ ∧ w8.heap.size ≤ gc ∧ gc < w9.heap.size ∧ L ≤ Z.length ∧ RowG .u8 256 5 w12 gc Z) := by
    intro h0
    obtain ⟨gc, Z, h1, h2, h3, h4, h5⟩ := HRow.out h0
    exact ⟨gc, Z, h1, h2, h3, h4, (h5.heap (w' := w10.drew) rfl).below hBw⟩
  clear hBw tr tc2 te gF gS gD LW tc HB12 HNM2 HLA2 HSA2 HRow HRD HRC HNM HLA HSA HS8
  go_wp2
  go_loopw [21] (fun i wr => ∃ k : Nat, k ≤ L ∧ i = .int .i64 k ∧ Hid (Below w8.heap.size w8 wr) ∧ Hid (SrcG .u8 256 wr ad L cd bs) ∧ Hid (0 < L → ∃ gc Z, ac = some ⟨gc, 0, none⟩ ∧ w8.heap.size ≤ gc ∧ gc < w9.heap.size ∧ L ≤ Z.length ∧ RowG .u8 256 5 wr gc Z)) (fun i _ => L - (intOf i).toNat)
  case atStart => exact ⟨0, Nat.zero_le _, rfl, HB8, HD2, HR2⟩
  case round =>
    obtain ⟨k, hk, rfl, HB, HDr, HRr⟩ := hrel
    by_cases hkL : k < L
    · have hkI : (k : Int) < (L : Int) := by omega
      obtain ⟨gc, Z, rfl, q1, q2, q3, q4⟩ := HRr.out (by omega)
      have HQ : Hid (w8.heap.size ≤ gc ∧ gc < w9.heap.size ∧ L ≤ Z.length) := ⟨q1, q2, q3⟩
      have e1 := q4.cell k (by omega)
      have e2 := q4.frozen k
      have HQ4 := hide q4
      generalize Z.getD k 0 = z at e1
      obtain ⟨u, hu⟩ : ∃ u, IntKind.u8.wrap (z + 1) = u := ⟨_, rfl⟩
      have hu0 : 0 ≤ u ∧ u < 256 := by rw [← hu, IntKind.wrap_u8]; omega
      have HR' : Hid (RowG .u8 256 5 (wr.setCell ⟨gc, k, none⟩ (.int .u8 u)) gc (Z.set k u)) := q4.set k u hu0
      have HB' : Hid (Below w8.heap.size w8 (wr.setCell ⟨gc, k, none⟩ (.int .u8 u))) := HB.out.setCell (p := ⟨gc, k, none⟩) q1 _
      have HD' : Hid (SrcG .u8 256 (wr.setCell ⟨gc, k, none⟩ (.int .u8 u)) ad L cd bs) := HDr.out.grown (gSet wr gc k (.int .u8 u)) (by
        intro b o hb _ h
        obtain ⟨gd, hd, hd2⟩ := HAD.out (by omega)
        rw [hd] at hb
        simp at hb h
        omega)
      clear q1 q2 q3 q4 HRr
      go_wp2
      go_roundw
      case rel => exact ⟨k + 1, by omega, by go_num, HB', HD', fun _ => ⟨gc, Z.set k u, rfl, HQ.out.1, HQ.out.2.1, by rw [List.length_set]; exact HQ.out.2.2, HR'⟩⟩
      case measure => simp [intOf] <;> omega
    · have hkI : ¬ (k : Int) < (L : Int) := by omega
      have HSAr := hide (HSA8.out.below HB.out)
      have HLAr := hide (HLA8.out.below HB.out)
      have HNMr := hide (HNM8.out.below HB.out)
      have HLWr := hide (HLW8.out.trans (HB.out.mono HLW8.out.size))
      have te : ((strOfNums bs).toList == (strOfNums bs).toList) = true := by simp
      have td := (HDr.out.heap (w' := wr.drew) rfl).text
      go_wp2_with fail
      rw [textOf_eq 133]
      go_region_held3 (fun W => (convert 22 9 (.slice ad L cd)).run Tryd.prog W = .ok (.string (strOfNums bs)) W) (assumption) (first | (go_at_call 11; refine (refBytes_any vm X _ ?_).mono ?_; exact HNMr.out.drew ⟨rfl, rfl, rfl, rfl⟩; rintro e w13 ⟨ar, cr, br, rfl, sr, hr1, hr2, B13⟩; have hbr : bs = br := (bytes_inj sr.hdg HDG.out hr1 HC1.out (by rw [hr2, HC2.out])).symm; subst hbr; have tr := sr.text; have td2 := ((HDr.out.heap (w' := wr.drew) rfl).below B13).text; have HD13 := hide ((HDr.out.heap (w' := wr.drew) rfl).below B13); have HB13 := hide B13; have HLA3 := hide ((HLAr.out.drew (w' := wr.drew) ⟨rfl, rfl, rfl, rfl⟩).below B13); have HSA3 := hide ((HSAr.out.heap (w' := wr.drew) rfl).below B13); clear B13 sr hr1 hr2) | (go_at_call 15; refine (kept_true _ _ _ _ _ _ xs _ HLA3.out HSA3.out HN1.out).mono ?_; rintro e w14 ⟨rfl, hD14⟩; have td3 := (hD14.src HD13.out).text; have HD14 := hide hD14; clear hD14) | (go_at_call 16; refine (names_true _).mono ?_; rintro e w15 ⟨rfl, hw⟩; have hw2 := hw.symm; subst hw2; clear hw))
      go_wp2
      go_ret
      exact ⟨rfl, HD14.out.below ((HLWr.out.drew).trans (HB13.out.mono (by have h1 := HLWr.out.size; simpa using h1)))⟩

end Go.Proofs.YtekhobmjjoegpaaDoor
