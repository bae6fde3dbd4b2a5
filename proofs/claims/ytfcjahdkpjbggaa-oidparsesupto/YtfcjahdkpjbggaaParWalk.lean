/-
  OidParses answers true at any text, and writes nothing that was there.
-/
import Derived.Test.YtfcjahdkpjbggaaOwn3
import Derived.Test.YtfcjahdkpjbggaaOPar
import Derived.Test.YtfcjahdkpjbggaaRPar
namespace Go.Proofs.Ytfcjahdkpjbggaa
open Go.RowKit Go.Shelf Go.IntWalk

theorem parseS_ok (xs : List Int) : (parseS xs).1.length ≤ 20 ∧ ∀ x ∈ (parseS xs).1, -9223372036854775808 ≤ x ∧ x < 9223372036854775808 := by
  unfold parseS
  cases h : arcsT xs with
  | none => simp
  | some l =>
    simp only
    by_cases hm : mayS l = true
    · rw [if_pos hm]
      obtain ⟨_, h1, h2, _⟩ := may_parts hm
      exact ⟨h1, fun x hx => by have := h2 x hx; omega⟩
    · rw [if_neg hm]; simp

set_option maxRecDepth 100000 in
set_option maxHeartbeats 4000000 in
theorem parses_walk (xs : List Int) (hb : ∀ x ∈ xs, 0 ≤ x ∧ x < 256) (hs : xs.length ≤ 1048576) (m : Int) (w : World) (hm : w.cell? ⟨0, 0, none⟩ = some (.int .i64 m)) :
    Calls Try.prog 5 #[.string (strOfNums xs)] w fun e w' => e = .returned (.bool true) ∧ Below w.heap.size w w' := by
  have h00 : 0 < w.heap.size := lt_of_cell hm
  obtain ⟨k1, k2⟩ := parseS_ok xs
  have K1 := hide k1
  have K2 := hide k2
  have HP := hide (fun X hX => callsIn_wide.1 (parse_in xs hb hs m X hX))
  have HR := hide (fun X => refParse_any xs hb hs X)
  rw [scan_parse] at HR
  have hm' := hide hm
  clear k1 k2 hm
  generalize strOfNums xs = S at HP HR ⊢
  go_enter Try.func5, Try.ntmps5
  go_wp2_with fail
  refine (HP.out w hm'.out).mono ?_
  rintro e w3 ⟨aX, LX, cX, rfl, oX, B3⟩
  have hm3 : w3.cell? ⟨0, 0, none⟩ = some (.int .i64 m) := (B3.cell (p := ⟨0, 0, none⟩) h00).trans hm'.out
  have hm3 := hide hm3
  go_wp2_with fail
  refine (HP.out w3 hm3.out).mono ?_
  rintro e w4 ⟨aY, LY, cY, rfl, oY, B4⟩
  have B04 : Below w.heap.size w w4 := B3.trans (B4.mono B3.size)
  go_wp2_with fail
  refine (HR.out w4).mono ?_
  rintro e w5 ⟨aW, LW, cW, rfl, oW, B5⟩
  have B05 : Hid (Below w.heap.size w w5) := B04.trans (B5.mono B04.size)
  have B35 : Below w3.heap.size w3 w5 := B4.trans (B5.mono B4.size)
  have oX5 := hide (oX.belowA B35)
  have oY5 := hide (oY.belowA B5)
  have oW5 := hide oW
  have zX : Hid (∀ q, (Value.slice aX LX cX).ownBlock = some q → w.heap.size ≤ q ∧ q < w3.heap.size) := fun q hq => oX.lt q hq
  have zY : Hid (∀ q, (Value.slice aY LY cY).ownBlock = some q → w3.heap.size ≤ q ∧ q < w4.heap.size) := fun q hq => oY.lt q hq
  have zW : Hid (∀ q, (Value.slice aW LW cW).ownBlock = some q → w4.heap.size ≤ q ∧ q < w5.heap.size) := fun q hq => oW.lt q hq
  have hS := hide (And.intro B3.size (And.intro B4.size B5.size))
  have hLX : Hid (LX ≤ 1000) := by
    unfold Hid
    have := (oX5.out.toSrc K2.out).hlen
    have := K1.out
    omega
  have hown := hide (own3_any aX LX cX (parseS xs).1 aY LY cY aW LW cW w5 w.heap.size oX5.out (oX5.out.toSrc K2.out)
    (fun w' hg => (oY5.out.kept hg (by
      cases hc : (Value.slice aY LY cY).ownBlock with
      | none => exact .inl rfl
      | some q => exact .inr (fun he => by have h1 := zY.out q hc; have h2 := zX.out q he.symm; omega))).toSrc K2.out)
    (fun w' hg => (oW5.out.kept hg (by
      cases hc : (Value.slice aW LW cW).ownBlock with
      | none => exact .inl rfl
      | some q => exact .inr (fun he => by have h1 := zW.out q hc; have h2 := zX.out q he.symm; have := hS.out; omega))).toSrc K2.out)
    B05.out.size hLX.out)
  clear oX oY oW B3 B4 B5 B04 B35
  generalize (parseS xs).2 = E at *
  go_wp2_with fail
  refine hown.out.mono ?_
  rintro e w6 ⟨rfl, B6⟩
  have B06 : Hid (Below w.heap.size w w6) := B05.out.trans B6
  go_wp2_with fail
  refine (namesI_any _).mono ?_
  rintro e w7 ⟨rfl, rfl⟩
  go_wp2
  go_ret
  exact ⟨rfl, B06.out⟩

end Go.Proofs.Ytfcjahdkpjbggaa
