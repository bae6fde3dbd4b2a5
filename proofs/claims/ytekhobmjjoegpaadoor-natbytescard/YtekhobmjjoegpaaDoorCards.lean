/-
  DERIVED. GIVEN WITH THE SEED: THE CARDS: each row of YtekhobmjjoegpaaDoorRows.lean that lists a variable, with what it lists TIED to the program's text (the seventh form; the later family's looks); each row that meets fmt, with fmt's text TOLD by the authors' own Lean function (tested against real Go, not proved from fmt's source: count such statements apart). THE CARD IS WHAT COUNTS. Prove the row's statement (the work); the ties are given (YtekhobmjjoegpaaDoorTie.lean); close each card by the builder's one call (the guide's Derived/Test/ToyasCard.lean, 'card_holds'). Laid BY PROGRAM, IN A SANDBOX (cutbox-door.mjs). By AI agents, Wed Nov 11 2026. No macro, syntax, notation, axiom, sorry.
-/
import Derived.Test.YtekhobmjjoegpaaDoorRows
import GoSem.ClaimSeven
namespace Go.Proofs.YtekhobmjjoegpaaDoor
namespace Rows

/-- THE TIED CARD OF 'chancerylaw06.NatBytes'. -/
def natBytesCard : Claim7 := { stood := { row := natBytesRow, standIns := [], harness := (true, "8e6d0d3a18314254ac96618c402974acf9e81ee1d765d4ba8bf1bb9a4fd35e73"), looks := false }, kinds := [], alts := [], laidByText := true, laidKinds := [.data, .pinned], laidTests := true, laidLooks := .later }
def NatBytesCardSaid : Prop := Claim7.holds Tryd.pinned (.plain (OpenSpec.ofChange natBytesSpec)) natBytesCard

/-- THE SECOND FORM's CARD OF 'chancerylaw06.NatBytes'. -/
def natBytesUptoCard : Claim7 := { stood := { row := natBytesUptoRow, standIns := [], harness := (true, "8e6d0d3a18314254ac96618c402974acf9e81ee1d765d4ba8bf1bb9a4fd35e73"), looks := false }, kinds := [], alts := [], laidByText := true, laidKinds := [.data, .pinned], laidTests := true, laidLooks := .later }
def NatBytesUptoCardSaid : Prop := Claim7.holds Tryd.pinned (.plain (OpenSpec.upto natBytesSpec)) natBytesUptoCard
end Rows
end Go.Proofs.YtekhobmjjoegpaaDoor
