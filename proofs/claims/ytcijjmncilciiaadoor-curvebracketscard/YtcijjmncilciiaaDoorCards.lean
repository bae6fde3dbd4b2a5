/-
  DERIVED. GIVEN WITH THE SEED: THE CARDS: each row of YtcijjmncilciiaaDoorRows.lean that lists a variable, with what it lists TIED to the program's text (the seventh form; the later family's looks); each row that meets fmt, with fmt's text TOLD by the authors' own Lean function (tested against real Go, not proved from fmt's source: count such statements apart). THE CARD IS WHAT COUNTS. Prove the row's statement (the work); the ties are given (YtcijjmncilciiaaDoorTie.lean); close each card by the builder's one call (the guide's Derived/Test/ToyasCard.lean, 'card_holds'). Laid BY PROGRAM, IN A SANDBOX (cutbox-door.mjs). By AI agents, Wed Nov 11 2026. No macro, syntax, notation, axiom, sorry.
-/
import Derived.Test.YtcijjmncilciiaaDoorRows
import GoSem.ClaimSeven
namespace Go.Proofs.YtcijjmncilciiaaDoor
namespace Rows

/-- THE TIED CARD OF 'chancerylaw10.CurveAdds'. -/
def curveAddsCard : Claim7 := { stood := { row := curveAddsRow, standIns := [], harness := (true, "5523f7bc483e77bf55579f4350469f3eecb9841a844b298a6611cfca2e51a9dc"), looks := false }, kinds := [], alts := [], laidByText := true, laidKinds := [.data, .data, .data, .data, .data, .data], laidTests := true, laidLooks := .later }
def CurveAddsCardSaid : Prop := Claim7.holds Tryd.pinned (.plain (OpenSpec.ofChange curveAddsSpec)) curveAddsCard

/-- THE TIED CARD OF 'chancerylaw10.CurveMuls'. -/
def curveMulsCard : Claim7 := { stood := { row := curveMulsRow, standIns := [], harness := (true, "5523f7bc483e77bf55579f4350469f3eecb9841a844b298a6611cfca2e51a9dc"), looks := false }, kinds := [], alts := [], laidByText := true, laidKinds := [.data, .data, .data, .data, .data, .data], laidTests := true, laidLooks := .later }
def CurveMulsCardSaid : Prop := Claim7.holds Tryd.pinned (.plain (OpenSpec.ofChange curveMulsSpec)) curveMulsCard

/-- THE TIED CARD OF 'chancerylaw10.CurveGroup'. -/
def curveGroupCard : Claim7 := { stood := { row := curveGroupRow, standIns := [], harness := (true, "5523f7bc483e77bf55579f4350469f3eecb9841a844b298a6611cfca2e51a9dc"), looks := false }, kinds := [], alts := [], laidByText := true, laidKinds := [.data, .data, .data, .data, .data, .data, .data, .pinned], laidTests := true, laidLooks := .later }
def CurveGroupCardSaid : Prop := Claim7.holds Tryd.pinned (.plain (OpenSpec.ofChange curveGroupSpec)) curveGroupCard

/-- THE TIED CARD OF 'chancerylaw10.CurveBrackets'. -/
def curveBracketsCard : Claim7 := { stood := { row := curveBracketsRow, standIns := [], harness := (true, "5523f7bc483e77bf55579f4350469f3eecb9841a844b298a6611cfca2e51a9dc"), looks := false }, kinds := [], alts := [], laidByText := true, laidKinds := [.data, .data, .data, .data, .data], laidTests := true, laidLooks := .later }
def CurveBracketsCardSaid : Prop := Claim7.holds Tryd.pinned (.plain (OpenSpec.ofChange curveBracketsSpec)) curveBracketsCard

/-- THE TIED CARD OF 'chancerylaw10.CurveCodes'. -/
def curveCodesCard : Claim7 := { stood := { row := curveCodesRow, standIns := [], harness := (true, "5523f7bc483e77bf55579f4350469f3eecb9841a844b298a6611cfca2e51a9dc"), looks := false }, kinds := [], alts := [], laidByText := true, laidKinds := [.data, .data, .data, .data, .data, .data], laidTests := true, laidLooks := .later }
def CurveCodesCardSaid : Prop := Claim7.holds Tryd.pinned (.plain (OpenSpec.ofChange curveCodesSpec)) curveCodesCard

/-- THE SECOND FORM's CARD OF 'chancerylaw10.CurveAdds'. -/
def curveAddsUptoCard : Claim7 := { stood := { row := curveAddsUptoRow, standIns := [], harness := (true, "5523f7bc483e77bf55579f4350469f3eecb9841a844b298a6611cfca2e51a9dc"), looks := false }, kinds := [], alts := [], laidByText := true, laidKinds := [.data, .data, .data, .data, .data, .data], laidTests := true, laidLooks := .later }
def CurveAddsUptoCardSaid : Prop := Claim7.holds Tryd.pinned (.plain (OpenSpec.upto curveAddsSpec)) curveAddsUptoCard

/-- THE SECOND FORM's CARD OF 'chancerylaw10.CurveMuls'. -/
def curveMulsUptoCard : Claim7 := { stood := { row := curveMulsUptoRow, standIns := [], harness := (true, "5523f7bc483e77bf55579f4350469f3eecb9841a844b298a6611cfca2e51a9dc"), looks := false }, kinds := [], alts := [], laidByText := true, laidKinds := [.data, .data, .data, .data, .data, .data], laidTests := true, laidLooks := .later }
def CurveMulsUptoCardSaid : Prop := Claim7.holds Tryd.pinned (.plain (OpenSpec.upto curveMulsSpec)) curveMulsUptoCard

/-- THE SECOND FORM's CARD OF 'chancerylaw10.CurveGroup'. -/
def curveGroupUptoCard : Claim7 := { stood := { row := curveGroupUptoRow, standIns := [], harness := (true, "5523f7bc483e77bf55579f4350469f3eecb9841a844b298a6611cfca2e51a9dc"), looks := false }, kinds := [], alts := [], laidByText := true, laidKinds := [.data, .data, .data, .data, .data, .data, .data, .pinned], laidTests := true, laidLooks := .later }
def CurveGroupUptoCardSaid : Prop := Claim7.holds Tryd.pinned (.plain (OpenSpec.upto curveGroupSpec)) curveGroupUptoCard

/-- THE SECOND FORM's CARD OF 'chancerylaw10.CurveBrackets'. -/
def curveBracketsUptoCard : Claim7 := { stood := { row := curveBracketsUptoRow, standIns := [], harness := (true, "5523f7bc483e77bf55579f4350469f3eecb9841a844b298a6611cfca2e51a9dc"), looks := false }, kinds := [], alts := [], laidByText := true, laidKinds := [.data, .data, .data, .data, .data], laidTests := true, laidLooks := .later }
def CurveBracketsUptoCardSaid : Prop := Claim7.holds Tryd.pinned (.plain (OpenSpec.upto curveBracketsSpec)) curveBracketsUptoCard

/-- THE SECOND FORM's CARD OF 'chancerylaw10.CurveCodes'. -/
def curveCodesUptoCard : Claim7 := { stood := { row := curveCodesUptoRow, standIns := [], harness := (true, "5523f7bc483e77bf55579f4350469f3eecb9841a844b298a6611cfca2e51a9dc"), looks := false }, kinds := [], alts := [], laidByText := true, laidKinds := [.data, .data, .data, .data, .data, .data], laidTests := true, laidLooks := .later }
def CurveCodesUptoCardSaid : Prop := Claim7.holds Tryd.pinned (.plain (OpenSpec.upto curveCodesSpec)) curveCodesUptoCard
end Rows
end Go.Proofs.YtcijjmncilciiaaDoor
