/-
  DERIVED. GIVEN WITH THE SEED: THE CARDS: each row of YtfoacocnkdkdeaaDoorRows.lean that lists a variable, with what it lists TIED to the program's text (the seventh form; the later family's looks); each row that meets fmt, with fmt's text TOLD by the authors' own Lean function (tested against real Go, not proved from fmt's source: count such statements apart). THE CARD IS WHAT COUNTS. Prove the row's statement (the work); the ties are given (YtfoacocnkdkdeaaDoorTie.lean); close each card by the builder's one call (the guide's Derived/Test/ToyasCard.lean, 'card_holds'). Laid BY PROGRAM, IN A SANDBOX (cutbox-door.mjs). By AI agents, Wed Nov 11 2026. No macro, syntax, notation, axiom, sorry.
-/
import Derived.Test.YtfoacocnkdkdeaaDoorRows
import GoSem.ClaimSeven
namespace Go.Proofs.YtfoacocnkdkdeaaDoor
namespace Rows

/-- THE TIED CARD OF 'chancerylaw14.WithinDown'. -/
def withinDownCard : Claim7 := { stood := { row := withinDownRow, standIns := [], harness := (true, "5f4487b3ae7b596bb090348fcf7268e195a7f5a38fc80d06d1ae03610b0137e1"), looks := false }, kinds := [], alts := [], laidByText := true, laidKinds := [.data, .data, .data, .pinned, .pinned], laidTests := true, laidLooks := .later }
def WithinDownCardSaid : Prop := Claim7.holds Tryd.pinned (.plain (OpenSpec.ofChange withinDownSpec)) withinDownCard

/-- THE SECOND FORM's CARD OF 'chancerylaw14.WithinDown'. -/
def withinDownUptoCard : Claim7 := { stood := { row := withinDownUptoRow, standIns := [], harness := (true, "5f4487b3ae7b596bb090348fcf7268e195a7f5a38fc80d06d1ae03610b0137e1"), looks := false }, kinds := [], alts := [], laidByText := true, laidKinds := [.data, .data, .data, .pinned, .pinned], laidTests := true, laidLooks := .later }
def WithinDownUptoCardSaid : Prop := Claim7.holds Tryd.pinned (.plain (OpenSpec.upto withinDownSpec)) withinDownUptoCard
end Rows
end Go.Proofs.YtfoacocnkdkdeaaDoor
