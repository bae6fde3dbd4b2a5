/-
  OidOnce answers true, and writes nothing that was there.
-/
import Derived.Test.YtfcjahdkpjbggaaDoorOTxt
import Derived.Test.YtfcjahdkpjbggaaDoorODec
import Derived.Test.YtfcjahdkpjbggaaDoorOPar
import Derived.Test.YtfcjahdkpjbggaaDoorParseM
import Derived.Test.YtfcjahdkpjbggaaDoorEncM
namespace Go.Proofs.YtfcjahdkpjbggaaDoor
open Go.RowKit Go.Shelf Go.IntWalk

theorem parse_ok (xs l : List Int) (h : parseS xs = (l, 0)) : mayS l = true ∧ txtI l = xs := by
  unfold parseS at h
  cases ha : arcsT xs with
  | none => rw [ha] at h; simp at h
  | some A =>
    rw [ha] at h
    simp only at h
    by_cases hm : mayS A = true
    · rw [if_pos hm] at h
      simp only [Prod.mk.injEq, and_true] at h
      subst h
      exact ⟨hm, (txt_arcsT (xs.length + 1) xs A (by omega) ha).2.1⟩
    · rw [if_neg hm] at h; simp at h

theorem may_range {l : List Int} (h : mayS l = true) : ∀ x ∈ l, -9223372036854775808 ≤ x ∧ x < 9223372036854775808 := fun x hx => by have := (may_parts h).2.2.1 x hx; omega

set_option maxRecDepth 100000 in
set_option maxHeartbeats 4000000 in
theorem onceO_walk (ao : Option Addr) (n cap : Nat) (bs : List Int) (xs : List Int) (hx : ∀ x ∈ xs, 0 ≤ x ∧ x < 256) (hl : xs.length ≤ 1048576) (m : Int) (w : World) (hs : Src w ao n cap bs) (hn : n ≤ 1048576)
    (hm : w.cell? ⟨1, 0, none⟩ = some (.int .i64 m)) (hp : Pow w) :
    Calls Tryd.prog 4 #[.slice ao n cap, .string (strOfNums xs)] w fun e w' => e = .returned (.bool true) ∧ Below w.heap.size w w' := by
  have h00 : 1 < w.heap.size := lt_of_cell hm
  have hm' := hide hm
  have Hp := hide hp
  have Hs := hide hs
  have HD := hide (callsIn_wide.1 (decode_in ao n cap bs w hs (by omega)))
  have HP := hide (fun X hX => callsIn_wide.1 (parse_in xs hx hl m X hX))
  have H1 : Hid (∀ l, decS bs = (l, 0) → mayS l = true ∧ encS l = bs) := fun l h => enc_dec bs l hs.hbyt h
  have H2 : Hid ((parseS xs).2 = 0 → mayS (parseS xs).1 = true ∧ txtI (parseS xs).1 = xs) := fun h => parse_ok xs _ (by rw [← h])
  have hd1 : Hid (decS bs = ((decS bs).1, (decS bs).2)) := rfl
  have HLb := hide hs.hlen
  have hbt := hide hs.hbyt
  obtain ⟨S, hS⟩ : ∃ S, strOfNums xs = S := ⟨_, rfl⟩
  rw [hS] at HP ⊢
  have hSN := hide hS
  clear hm hp hs hS
  generalize (parseS xs).1 = l2 at HP H2
  generalize (parseS xs).2 = E2 at HP H2
  generalize (decS bs).1 = l1 at HD hd1
  generalize (decS bs).2 = E1 at HD hd1
  go_enter Tryd.func4, Tryd.ntmps4
  go_wp2_with fail
  refine HD.out.mono ?_
  rintro e w1 ⟨a1, L1, c1, rfl, o1, B1⟩
  have B01 := hide B1
  by_cases hE : E1 = 0
  · subst hE
    obtain ⟨hm1, he1⟩ := H1.out l1 hd1.out
    have e1 : encE l1 = 0 := by unfold encE; rw [if_pos hm1]
    have e2 : encC l1 = bs := by unfold encC; rw [if_pos hm1]; exact he1
    have s1 : SrcI w1 a1 L1 c1 l1 := o1.toSrc (may_range hm1)
    have hEnc := hide (encode_any a1 L1 c1 l1 w1 s1)
    rw [e1, e2] at hEnc
    have hM := hide (fun X (hX : Below w1.heap.size w1 X) => may_any a1 L1 c1 l1 X (s1.below hX))
    rw [hm1] at hM
    clear s1 e1 e2 H1 o1 B1
    go_wp2_with fail
    refine hEnc.out.mono ?_
    rintro e w2 ⟨a2, c2, rfl, o2, B2⟩
    have B02 : Hid (Below w.heap.size w w2) := B01.out.trans (B2.mono B01.out.size)
    have t1 := (o2.toSrc hbt.out).text
    have t2 := (Hs.out.below B02.out).text
    have B12 := hide B2
    clear B2 o2
    go_wp2_with fail
    refine (hM.out w2 B12.out).mono ?_
    rintro e w3 ⟨rfl, D3⟩
    have B03 : Hid (Below w.heap.size w w3) := D3.below B02.out
    clear D3 t1 t2
    go_wp2_with fail
    -- w3: the world; B03: below it
    have hmc : w3.cell? ⟨1, 0, none⟩ = some (.int .i64 m) := (B03.out.cell (p := ⟨1, 0, none⟩) h00).trans hm'.out
    refine (HP.out w3 hmc).mono ?_
    rintro e w4 ⟨a4, L4, c4, rfl, o4, B4⟩
    have B04 : Hid (Below w.heap.size w w4) := B03.out.trans (B4.mono B03.out.size)
    have P4 : Hid (Pow w4) := Hp.out.below B04.out
    clear hmc
    by_cases hQ : E2 = 0
    · subst hQ
      obtain ⟨hm2, ht2⟩ := H2.out rfl
      have e1 : encE l2 = 0 := by unfold encE; rw [if_pos hm2]
      have s4 : SrcI w4 a4 L4 c4 l2 := o4.toSrc (may_range hm2)
      have hT := hide (text_any a4 L4 c4 l2 w4 s4 P4.out)
      rw [e1, (txtC_of l2 xs hx hm2).2 ht2, hSN.out] at hT
      have hM := hide (fun X (hX : Below w4.heap.size w4 X) => may_any a4 L4 c4 l2 X (s4.below hX))
      rw [hm2] at hM
      clear s4 e1 H2
      go_wp2_with fail
      refine hT.out.mono ?_
      rintro e w5 ⟨rfl, B5⟩
      have B05 : Hid (Below w.heap.size w w5) := B04.out.trans (B5.mono B04.out.size)
      have B45 := hide B5
      clear B5
      go_wp2_with fail
      refine (hM.out w5 B45.out).mono ?_
      rintro e w6 ⟨rfl, D6⟩
      have B06 : Hid (Below w.heap.size w w6) := D6.below B05.out
      clear D6
      go_wp2_with fail
      refine (mayI_12 _ _ (SrcI.lit [1, 2] _ 2 rfl rfl (by simp) (by decide))).mono ?_
      rintro e w7 ⟨rfl, D7⟩
      go_wp2
      go_ret
      exact ⟨rfl, D7.below (B06.out.alloc B06.out.size _)⟩
    · have hQb : (E2 == 0) = false := by simpa using hQ
      clear hQ
      go_wp2_with fail
      refine (mayI_12 _ _ (SrcI.lit [1, 2] _ 2 rfl rfl (by simp) (by decide))).mono ?_
      rintro e w7 ⟨rfl, D7⟩
      go_wp2
      go_ret
      exact ⟨rfl, D7.below (B04.out.alloc B04.out.size _)⟩
  · have hEb : (E1 == 0) = false := by simpa using hE
    clear hE H1 o1 B1
    go_wp2_with fail
    -- w1: the world; B01: below it
    have hmc : w1.cell? ⟨1, 0, none⟩ = some (.int .i64 m) := (B01.out.cell (p := ⟨1, 0, none⟩) h00).trans hm'.out
    refine (HP.out w1 hmc).mono ?_
    rintro e w4 ⟨a4, L4, c4, rfl, o4, B4⟩
    have B04 : Hid (Below w.heap.size w w4) := B01.out.trans (B4.mono B01.out.size)
    have P4 : Hid (Pow w4) := Hp.out.below B04.out
    clear hmc
    by_cases hQ : E2 = 0
    · subst hQ
      obtain ⟨hm2, ht2⟩ := H2.out rfl
      have e1 : encE l2 = 0 := by unfold encE; rw [if_pos hm2]
      have s4 : SrcI w4 a4 L4 c4 l2 := o4.toSrc (may_range hm2)
      have hT := hide (text_any a4 L4 c4 l2 w4 s4 P4.out)
      rw [e1, (txtC_of l2 xs hx hm2).2 ht2, hSN.out] at hT
      have hM := hide (fun X (hX : Below w4.heap.size w4 X) => may_any a4 L4 c4 l2 X (s4.below hX))
      rw [hm2] at hM
      clear s4 e1 H2
      go_wp2_with fail
      refine hT.out.mono ?_
      rintro e w5 ⟨rfl, B5⟩
      have B05 : Hid (Below w.heap.size w w5) := B04.out.trans (B5.mono B04.out.size)
      have B45 := hide B5
      clear B5
      go_wp2_with fail
      refine (hM.out w5 B45.out).mono ?_
      rintro e w6 ⟨rfl, D6⟩
      have B06 : Hid (Below w.heap.size w w6) := D6.below B05.out
      clear D6
      go_wp2_with fail
      refine (mayI_12 _ _ (SrcI.lit [1, 2] _ 2 rfl rfl (by simp) (by decide))).mono ?_
      rintro e w7 ⟨rfl, D7⟩
      go_wp2
      go_ret
      exact ⟨rfl, D7.below (B06.out.alloc B06.out.size _)⟩
    · have hQb : (E2 == 0) = false := by simpa using hQ
      clear hQ
      go_wp2_with fail
      refine (mayI_12 _ _ (SrcI.lit [1, 2] _ 2 rfl rfl (by simp) (by decide))).mono ?_
      rintro e w7 ⟨rfl, D7⟩
      go_wp2
      go_ret
      exact ⟨rfl, D7.below (B04.out.alloc B04.out.size _)⟩

end Go.Proofs.YtfcjahdkpjbggaaDoor
