/-
  DERIVED. GIVEN WITH THE SEED: THE CARDS: each row of YtnabmdpgibnkaaaDoorRows.lean that lists a variable, with what it lists TIED to the program's text (the seventh form; the later family's looks); each row that meets fmt, with fmt's text TOLD by the authors' own Lean function (tested against real Go, not proved from fmt's source: count such statements apart). THE CARD IS WHAT COUNTS. Prove the row's statement (the work); the ties are given (YtnabmdpgibnkaaaDoorTie.lean); close each card by the builder's one call (the guide's Derived/Test/ToyasCard.lean, 'card_holds'). Laid BY PROGRAM, IN A SANDBOX (cutbox-door.mjs). By AI agents, Wed Nov 11 2026. No macro, syntax, notation, axiom, sorry.
-/
import Derived.Test.YtnabmdpgibnkaaaDoorRows
import GoSem.ClaimSeven
namespace Go.Proofs.YtnabmdpgibnkaaaDoor
namespace Rows

/-- THE TIED CARD OF 'chancerylaw11.SignPublics'. -/
def signPublicsCard : Claim7 := { stood := { row := signPublicsRow, standIns := [], harness := (true, "1276d3ddf2fad648db73442b12d835bccfc4e69db8eae37c9215bdaeda72a7d5"), looks := false }, kinds := [], alts := [], laidByText := true, laidKinds := [.data, .data, .data, .data, .data, .data], laidTests := true, laidLooks := .later }
def SignPublicsCardSaid : Prop := Claim7.holds Tryd.pinned (.plain (OpenSpec.ofChange signPublicsSpec)) signPublicsCard

/-- THE TIED CARD OF 'chancerylaw11.SignCodes'. -/
def signCodesCard : Claim7 := { stood := { row := signCodesRow, standIns := [], harness := (true, "1276d3ddf2fad648db73442b12d835bccfc4e69db8eae37c9215bdaeda72a7d5"), looks := false }, kinds := [], alts := [], laidByText := true, laidKinds := [.data], laidTests := true, laidLooks := .later }
def SignCodesCardSaid : Prop := Claim7.holds Tryd.pinned (.plain (OpenSpec.ofChange signCodesSpec)) signCodesCard

/-- THE SECOND FORM's CARD OF 'chancerylaw11.SignPublics'. -/
def signPublicsUptoCard : Claim7 := { stood := { row := signPublicsUptoRow, standIns := [], harness := (true, "1276d3ddf2fad648db73442b12d835bccfc4e69db8eae37c9215bdaeda72a7d5"), looks := false }, kinds := [], alts := [], laidByText := true, laidKinds := [.data, .data, .data, .data, .data, .data], laidTests := true, laidLooks := .later }
def SignPublicsUptoCardSaid : Prop := Claim7.holds Tryd.pinned (.plain (OpenSpec.upto signPublicsSpec)) signPublicsUptoCard

/-- THE SECOND FORM's CARD OF 'chancerylaw11.SignCodes'. -/
def signCodesUptoCard : Claim7 := { stood := { row := signCodesUptoRow, standIns := [], harness := (true, "1276d3ddf2fad648db73442b12d835bccfc4e69db8eae37c9215bdaeda72a7d5"), looks := false }, kinds := [], alts := [], laidByText := true, laidKinds := [.data], laidTests := true, laidLooks := .later }
def SignCodesUptoCardSaid : Prop := Claim7.holds Tryd.pinned (.plain (OpenSpec.upto signCodesSpec)) signCodesUptoCard
end Rows
end Go.Proofs.YtnabmdpgibnkaaaDoor
