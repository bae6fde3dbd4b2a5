/-
  DERIVED. GIVEN WITH THE SEED: THE CARDS: each row of YtejfbamijjddgaaDoorRows.lean that lists a variable, with what it lists TIED to the program's text (the seventh form; the later family's looks); each row that meets fmt, with fmt's text TOLD by the authors' own Lean function (tested against real Go, not proved from fmt's source: count such statements apart). THE CARD IS WHAT COUNTS. Prove the row's statement (the work); the ties are given (YtejfbamijjddgaaDoorTie.lean); close each card by the builder's one call (the guide's Derived/Test/ToyasCard.lean, 'card_holds'). Laid BY PROGRAM, IN A SANDBOX (cutbox-door.mjs). By AI agents, Wed Nov 11 2026. No macro, syntax, notation, axiom, sorry.
-/
import Derived.Test.YtejfbamijjddgaaDoorRows
import GoSem.ClaimSeven
namespace Go.Proofs.YtejfbamijjddgaaDoor
namespace Rows

/-- THE TIED CARD OF 'chancerylaw10.CurveOns'. -/
def curveOnsCard : Claim7 := { stood := { row := curveOnsRow, standIns := [], harness := (true, "a03b0cfd0e94ecc2635848f8175dd918daae078984e1de1fbeb83e1f025c26c7"), looks := false }, kinds := [], alts := [], laidByText := true, laidKinds := [.data, .data, .data, .data, .data, .data], laidTests := true, laidLooks := .later }
def CurveOnsCardSaid : Prop := Claim7.holds Tryd.pinned (.plain (OpenSpec.ofChange curveOnsSpec)) curveOnsCard

/-- THE TIED CARD OF 'chancerylaw10.CurveAdds'. -/
def curveAddsCard : Claim7 := { stood := { row := curveAddsRow, standIns := [], harness := (true, "a03b0cfd0e94ecc2635848f8175dd918daae078984e1de1fbeb83e1f025c26c7"), looks := false }, kinds := [], alts := [], laidByText := true, laidKinds := [.data, .data, .data, .data, .data, .data], laidTests := true, laidLooks := .later }
def CurveAddsCardSaid : Prop := Claim7.holds Tryd.pinned (.plain (OpenSpec.ofChange curveAddsSpec)) curveAddsCard

/-- THE TIED CARD OF 'chancerylaw10.CurveMuls'. -/
def curveMulsCard : Claim7 := { stood := { row := curveMulsRow, standIns := [], harness := (true, "a03b0cfd0e94ecc2635848f8175dd918daae078984e1de1fbeb83e1f025c26c7"), looks := false }, kinds := [], alts := [], laidByText := true, laidKinds := [.data, .data, .data, .data, .data, .data], laidTests := true, laidLooks := .later }
def CurveMulsCardSaid : Prop := Claim7.holds Tryd.pinned (.plain (OpenSpec.ofChange curveMulsSpec)) curveMulsCard

/-- THE TIED CARD OF 'chancerylaw10.CurveDecodes'. -/
def curveDecodesCard : Claim7 := { stood := { row := curveDecodesRow, standIns := [], harness := (true, "a03b0cfd0e94ecc2635848f8175dd918daae078984e1de1fbeb83e1f025c26c7"), looks := false }, kinds := [], alts := [], laidByText := true, laidKinds := [.data, .data, .data, .data, .data, .data], laidTests := true, laidLooks := .later }
def CurveDecodesCardSaid : Prop := Claim7.holds Tryd.pinned (.plain (OpenSpec.ofChange curveDecodesSpec)) curveDecodesCard

/-- THE TIED CARD OF 'chancerylaw10.CurveGroup'. -/
def curveGroupCard : Claim7 := { stood := { row := curveGroupRow, standIns := [], harness := (true, "a03b0cfd0e94ecc2635848f8175dd918daae078984e1de1fbeb83e1f025c26c7"), looks := false }, kinds := [], alts := [], laidByText := true, laidKinds := [.data, .data, .data, .data, .data, .data, .data, .pinned], laidTests := true, laidLooks := .later }
def CurveGroupCardSaid : Prop := Claim7.holds Tryd.pinned (.plain (OpenSpec.ofChange curveGroupSpec)) curveGroupCard

/-- THE TIED CARD OF 'chancerylaw10.CurveBrackets'. -/
def curveBracketsCard : Claim7 := { stood := { row := curveBracketsRow, standIns := [], harness := (true, "a03b0cfd0e94ecc2635848f8175dd918daae078984e1de1fbeb83e1f025c26c7"), looks := false }, kinds := [], alts := [], laidByText := true, laidKinds := [.data, .data, .data, .data, .data], laidTests := true, laidLooks := .later }
def CurveBracketsCardSaid : Prop := Claim7.holds Tryd.pinned (.plain (OpenSpec.ofChange curveBracketsSpec)) curveBracketsCard

/-- THE SECOND FORM's CARD OF 'chancerylaw10.CurveOns'. -/
def curveOnsUptoCard : Claim7 := { stood := { row := curveOnsUptoRow, standIns := [], harness := (true, "a03b0cfd0e94ecc2635848f8175dd918daae078984e1de1fbeb83e1f025c26c7"), looks := false }, kinds := [], alts := [], laidByText := true, laidKinds := [.data, .data, .data, .data, .data, .data], laidTests := true, laidLooks := .later }
def CurveOnsUptoCardSaid : Prop := Claim7.holds Tryd.pinned (.plain (OpenSpec.upto curveOnsSpec)) curveOnsUptoCard

/-- THE SECOND FORM's CARD OF 'chancerylaw10.CurveAdds'. -/
def curveAddsUptoCard : Claim7 := { stood := { row := curveAddsUptoRow, standIns := [], harness := (true, "a03b0cfd0e94ecc2635848f8175dd918daae078984e1de1fbeb83e1f025c26c7"), looks := false }, kinds := [], alts := [], laidByText := true, laidKinds := [.data, .data, .data, .data, .data, .data], laidTests := true, laidLooks := .later }
def CurveAddsUptoCardSaid : Prop := Claim7.holds Tryd.pinned (.plain (OpenSpec.upto curveAddsSpec)) curveAddsUptoCard

/-- THE SECOND FORM's CARD OF 'chancerylaw10.CurveMuls'. -/
def curveMulsUptoCard : Claim7 := { stood := { row := curveMulsUptoRow, standIns := [], harness := (true, "a03b0cfd0e94ecc2635848f8175dd918daae078984e1de1fbeb83e1f025c26c7"), looks := false }, kinds := [], alts := [], laidByText := true, laidKinds := [.data, .data, .data, .data, .data, .data], laidTests := true, laidLooks := .later }
def CurveMulsUptoCardSaid : Prop := Claim7.holds Tryd.pinned (.plain (OpenSpec.upto curveMulsSpec)) curveMulsUptoCard

/-- THE SECOND FORM's CARD OF 'chancerylaw10.CurveDecodes'. -/
def curveDecodesUptoCard : Claim7 := { stood := { row := curveDecodesUptoRow, standIns := [], harness := (true, "a03b0cfd0e94ecc2635848f8175dd918daae078984e1de1fbeb83e1f025c26c7"), looks := false }, kinds := [], alts := [], laidByText := true, laidKinds := [.data, .data, .data, .data, .data, .data], laidTests := true, laidLooks := .later }
def CurveDecodesUptoCardSaid : Prop := Claim7.holds Tryd.pinned (.plain (OpenSpec.upto curveDecodesSpec)) curveDecodesUptoCard

/-- THE SECOND FORM's CARD OF 'chancerylaw10.CurveGroup'. -/
def curveGroupUptoCard : Claim7 := { stood := { row := curveGroupUptoRow, standIns := [], harness := (true, "a03b0cfd0e94ecc2635848f8175dd918daae078984e1de1fbeb83e1f025c26c7"), looks := false }, kinds := [], alts := [], laidByText := true, laidKinds := [.data, .data, .data, .data, .data, .data, .data, .pinned], laidTests := true, laidLooks := .later }
def CurveGroupUptoCardSaid : Prop := Claim7.holds Tryd.pinned (.plain (OpenSpec.upto curveGroupSpec)) curveGroupUptoCard

/-- THE SECOND FORM's CARD OF 'chancerylaw10.CurveBrackets'. -/
def curveBracketsUptoCard : Claim7 := { stood := { row := curveBracketsUptoRow, standIns := [], harness := (true, "a03b0cfd0e94ecc2635848f8175dd918daae078984e1de1fbeb83e1f025c26c7"), looks := false }, kinds := [], alts := [], laidByText := true, laidKinds := [.data, .data, .data, .data, .data], laidTests := true, laidLooks := .later }
def CurveBracketsUptoCardSaid : Prop := Claim7.holds Tryd.pinned (.plain (OpenSpec.upto curveBracketsSpec)) curveBracketsUptoCard
end Rows
end Go.Proofs.YtejfbamijjddgaaDoor
