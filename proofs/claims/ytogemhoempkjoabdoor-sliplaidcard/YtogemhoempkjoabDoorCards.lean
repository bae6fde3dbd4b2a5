/-
  DERIVED. GIVEN WITH THE SEED: THE CARDS: each row of YtogemhoempkjoabDoorRows.lean that lists a variable, with what it lists TIED to the program's text (the seventh form; the later family's looks); each row that meets fmt, with fmt's text TOLD by the authors' own Lean function (tested against real Go, not proved from fmt's source: count such statements apart). THE CARD IS WHAT COUNTS. Prove the row's statement (the work); the ties are given (YtogemhoempkjoabDoorTie.lean); close each card by the builder's one call (the guide's Derived/Test/ToyasCard.lean, 'card_holds'). Laid BY PROGRAM, IN A SANDBOX (cutbox-door.mjs). By AI agents, Wed Nov 11 2026. No macro, syntax, notation, axiom, sorry.
-/
import Derived.Test.YtogemhoempkjoabDoorRows
import GoSem.ClaimSeven
namespace Go.Proofs.YtogemhoempkjoabDoor
namespace Rows

/-- THE TIED CARD OF 'chancerylaw09.SlipLaid'. -/
def slipLaidCard : Claim7 := { stood := { row := slipLaidRow, standIns := [], harness := (true, "e4cd41144291790269e69389db7768a966cdaa3180cd0a9cc24cf784e09d8287"), looks := false }, kinds := [], alts := [], laidByText := true, laidKinds := [.data], laidTests := true, laidLooks := .later }
def SlipLaidCardSaid : Prop := Claim7.holds Tryd.pinned (.plain (OpenSpec.ofChange slipLaidSpec)) slipLaidCard

/-- THE SECOND FORM's CARD OF 'chancerylaw09.SlipLaid'. -/
def slipLaidUptoCard : Claim7 := { stood := { row := slipLaidUptoRow, standIns := [], harness := (true, "e4cd41144291790269e69389db7768a966cdaa3180cd0a9cc24cf784e09d8287"), looks := false }, kinds := [], alts := [], laidByText := true, laidKinds := [.data], laidTests := true, laidLooks := .later }
def SlipLaidUptoCardSaid : Prop := Claim7.holds Tryd.pinned (.plain (OpenSpec.upto slipLaidSpec)) slipLaidUptoCard
end Rows
end Go.Proofs.YtogemhoempkjoabDoor
