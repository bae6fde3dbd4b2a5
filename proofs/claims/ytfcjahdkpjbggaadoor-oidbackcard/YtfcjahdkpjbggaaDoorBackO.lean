/-
  OidBack answers true, and writes nothing that was there.
-/
import Derived.Test.YtfcjahdkpjbggaaDoorOnceO
import Derived.Test.YtfcjahdkpjbggaaDoorEql
namespace Go.Proofs.YtfcjahdkpjbggaaDoor
open Go.RowKit Go.Shelf Go.IntWalk

theorem txtI_byte (l : List Int) (h : ∀ x ∈ l, 0 ≤ x) : ∀ x ∈ txtI l, 0 ≤ x ∧ x < 256 := by
  rw [← txtL_nums l h]
  intro x hx
  obtain ⟨b, _, rfl⟩ := List.mem_map.1 hx
  have := b.toNat_lt
  omega

theorem txtI_len (l : List Int) (hm : mayS l = true) : (txtI l).length ≤ 1048576 := by
  obtain ⟨h2, h20, hv, _⟩ := may_parts hm
  rw [← txtL_nums l (fun x hx => (hv x hx).1), List.length_map]
  cases l with
  | nil => simp at h2
  | cons x r =>
    have h1 := tail_len r (fun y hy => hv y (List.mem_cons_of_mem _ hy))
    have h3 := Lib.itoa_length_le x (by have := hv x (by simp); omega) (by have := hv x (by simp); omega)
    rw [txtL_cons, List.length_append]
    simp only [List.length_cons] at h20
    omega

theorem parse_txt (l : List Int) (hm : mayS l = true) : parseS (txtI l) = (l, 0) := by
  obtain ⟨h2, h20, hv, _⟩ := may_parts hm
  rw [parseS_of (txtI l) l (arcsT_txt l (by intro e; subst e; simp at h2) hv), if_pos hm]

set_option maxRecDepth 100000 in
set_option maxHeartbeats 4000000 in
theorem backO_walk (ao : Option Addr) (n cap : Nat) (xs : List Int) (m : Int) (w : World) (hs : SrcI w ao n cap xs)
    (hm : w.cell? ⟨1, 0, none⟩ = some (.int .i64 m)) (hp : Pow w) :
    Calls Tryd.prog 3 #[.slice ao n cap] w fun e w' => e = .returned (.bool true) ∧ Below w.heap.size w w' := by
  have h00 : 1 < w.heap.size := lt_of_cell hm
  have hm' := hide hm
  have Hp := hide hp
  have Hs := hide hs
  have HL := hide hs.hlen
  have HE := hide (encode_any ao n cap xs w hs)
  have HT := hide (fun X (hX : Below w.heap.size w X) => text_any ao n cap xs X (hs.below hX) (hp.below hX))
  have HM := hide (fun X (hX : Below w.heap.size w X) => may_any ao n cap xs X (hs.below hX))
  clear hm hp hs
  cases hmay : mayS xs with
  | false =>
    have e1 : encE xs = 2 := by unfold encE; rw [hmay]; rfl
    have e2 : encC xs = [] := by unfold encC; rw [hmay]; rfl
    have e3 : txtC xs = ⟨#[]⟩ := by unfold txtC; rw [hmay]; rfl
    rw [e1, e2] at HE
    rw [e1, e3] at HT
    rw [hmay] at HM
    clear e1 e2 e3 hmay
    go_enter Tryd.func3, Tryd.ntmps3
    go_wp2_with fail
    refine HE.out.mono ?_
    rintro e w1 ⟨a1, c1, rfl, o1, B1⟩
    go_wp2_with fail
    refine (HT.out w1 B1).mono ?_
    rintro e w2 ⟨rfl, B2⟩
    have B02 : Hid (Below w.heap.size w w2) := B1.trans (B2.mono B1.size)
    clear o1 B1 B2
    go_wp2_with fail
    refine (HM.out w2 B02.out).mono ?_
    rintro e w3 ⟨rfl, D3⟩
    have B03 : Hid (Below w.heap.size w w3) := D3.below B02.out
    clear D3
    go_wp2_with fail
    refine (mayI_12 _ _ (SrcI.lit [1, 2] _ 2 rfl rfl (by simp) (by decide))).mono ?_
    rintro e w7 ⟨rfl, D7⟩
    go_wp2
    go_ret
    exact ⟨rfl, D7.below (B03.out.alloc B03.out.size _)⟩
  | true =>
    have hv := (may_parts hmay).2.2.1
    have e1 : encE xs = 0 := by unfold encE; rw [hmay]; rfl
    have e2 : encC xs = encS xs := by unfold encC; rw [hmay]; rfl
    have hb := hide (encC_byte xs)
    have hdec := hide (dec_enc xs hmay)
    have e3 : txtC xs = strOfNums (txtI xs) := (txtC_of xs (txtI xs) (txtI_byte xs (fun x hx => (hv x hx).1)) hmay).2 rfl
    have HP := hide (fun X hX => callsIn_wide.1 (parse_in (txtI xs) (txtI_byte xs (fun x hx => (hv x hx).1)) (txtI_len xs hmay) m X hX))
    have hlen := hide (flat_len (xs.drop 2))
    rw [parse_txt xs hmay] at HP
    rw [e1, e2] at HE
    rw [e1, e3] at HT
    rw [hmay] at HM
    rw [e2] at hb
    have hel : Hid ((encS xs).length ≤ 1000) := by
      unfold Hid encS
      rw [List.length_append]
      have h1 := numB_len (40 * xs.getD 0 0 + xs.getD 1 0)
      have h2 := (sizeS_in (40 * xs.getD 0 0 + xs.getD 1 0)).2
      have h3 := hlen.out
      have h4 := (may_parts hmay).2.1
      rw [List.length_drop] at h3
      omega
    have hr := hide (may_range hmay)
    clear e1 e2 e3 hmay hv hlen
    generalize strOfNums (txtI xs) = S at HP HT
    generalize encS xs = eb at HE hb hdec hel
    go_enter Tryd.func3, Tryd.ntmps3
    go_wp2_with fail
    refine HE.out.mono ?_
    rintro e w1 ⟨a1, c1, rfl, o1, B1⟩
    go_wp2_with fail
    refine (HT.out w1 B1).mono ?_
    rintro e w2 ⟨rfl, B2⟩
    have B02 : Hid (Below w.heap.size w w2) := B1.trans (B2.mono B1.size)
    have O2 := hide (o1.belowA B2)
    clear o1 B1 B2
    go_wp2_with fail
    refine (HM.out w2 B02.out).mono ?_
    rintro e w3 ⟨rfl, D3⟩
    have B03 : Hid (Below w.heap.size w w3) := D3.below B02.out
    have s3 : Src w3 a1 eb.length c1 eb := (O2.out.toSrc hb.out).heap D3.heap
    have HD := hide (callsIn_wide.1 (decode_in a1 eb.length c1 eb w3 s3 (by have := hel.out; omega)))
    rw [hdec.out] at HD
    clear D3 O2 s3
    go_wp2_with fail
    refine HD.out.mono ?_
    rintro e w4 ⟨a4, L4, c4, rfl, o4, B4⟩
    have B04 : Hid (Below w.heap.size w w4) := B03.out.trans (B4.mono B03.out.size)
    have O4 := hide o4
    clear o4 B4
    have hmc : w4.cell? ⟨1, 0, none⟩ = some (.int .i64 m) := (B04.out.cell (p := ⟨1, 0, none⟩) h00).trans hm'.out
    have hmc := hide hmc
    go_wp2_with fail
    refine (HP.out w4 hmc.out).mono ?_
    rintro e w5 ⟨a5, L5, c5, rfl, o5, B5⟩
    have B05 : Hid (Below w.heap.size w w5) := B04.out.trans (B5.mono B04.out.size)
    have sx : SrcI w5 a4 L4 c4 xs := (O4.out.belowA B5).toSrc hr.out
    have sy : SrcI w5 a5 L5 c5 xs := o5.toSrc hr.out
    have s0 : SrcI w5 ao n cap xs := Hs.out.below B05.out
    have hL4 : L4 = n := by rw [← sx.hlen, HL.out]
    have K1 := hide (oidCmp_any a4 L4 c4 xs ao n cap xs w5 sx s0)
    have K2 := hide (oidCmp_any a5 L5 c5 xs ao n cap xs w5 sy s0)
    rw [cmpS_refl] at K1 K2
    subst hL4
    clear sx sy s0 o5 B5
    go_wp2_with fail
    refine K1.out.mono ?_
    rintro e w6 ⟨rfl, rfl⟩
    go_wp2_with fail
    refine K2.out.mono ?_
    rintro e w6 ⟨rfl, rfl⟩
    go_wp2_with fail
    refine (mayI_12 _ _ (SrcI.lit [1, 2] _ 2 rfl rfl (by simp) (by decide))).mono ?_
    rintro e w7 ⟨rfl, D7⟩
    go_wp2
    go_ret
    exact ⟨rfl, D7.below (B05.out.alloc B05.out.size _)⟩

end Go.Proofs.YtfcjahdkpjbggaaDoor
