/-
  DERIVED. GIVEN WITH THE SEED: THE CARDS: each row of YtnpimjfdidbdfabDoorRows.lean that lists a variable, with what it lists TIED to the program's text (the seventh form; the later family's looks); each row that meets fmt, with fmt's text TOLD by the authors' own Lean function (tested against real Go, not proved from fmt's source: count such statements apart). THE CARD IS WHAT COUNTS. Prove the row's statement (the work); the ties are given (YtnpimjfdidbdfabDoorTie.lean); close each card by the builder's one call (the guide's Derived/Test/ToyasCard.lean, 'card_holds'). Laid BY PROGRAM, IN A SANDBOX (cutbox-door.mjs). By AI agents, Wed Nov 11 2026. No macro, syntax, notation, axiom, sorry.
-/
import Derived.Test.YtnpimjfdidbdfabDoorRows
import GoSem.ClaimSeven
namespace Go.Proofs.YtnpimjfdidbdfabDoor
namespace Rows

/-- THE TIED CARD OF 'chancerylaw04.ClockOnce'. -/
def clockOnceCard : Claim7 := { stood := { row := clockOnceRow, standIns := [], harness := (true, "5f16d26f27f1a220110ae282eac54c66bfada245b9206e63a44fe7daf52e92b4"), looks := false }, kinds := [], alts := [], laidByText := true, laidKinds := [.data], laidTests := true, laidLooks := .later }
def ClockOnceCardSaid : Prop := Claim7.holds Tryd.pinned (.plain (OpenSpec.ofChange clockOnceSpec)) clockOnceCard

/-- THE TIED CARD OF 'chancerylaw04.ClockOrder'. -/
def clockOrderCard : Claim7 := { stood := { row := clockOrderRow, standIns := [], harness := (true, "5f16d26f27f1a220110ae282eac54c66bfada245b9206e63a44fe7daf52e92b4"), looks := false }, kinds := [], alts := [], laidByText := true, laidKinds := [.data], laidTests := true, laidLooks := .later }
def ClockOrderCardSaid : Prop := Claim7.holds Tryd.pinned (.plain (OpenSpec.ofChange clockOrderSpec)) clockOrderCard

/-- THE TIED CARD OF 'chancerylaw04.ClockNext'. -/
def clockNextCard : Claim7 := { stood := { row := clockNextRow, standIns := [], harness := (true, "5f16d26f27f1a220110ae282eac54c66bfada245b9206e63a44fe7daf52e92b4"), looks := false }, kinds := [], alts := [], laidByText := true, laidKinds := [.data], laidTests := true, laidLooks := .later }
def ClockNextCardSaid : Prop := Claim7.holds Tryd.pinned (.plain (OpenSpec.ofChange clockNextSpec)) clockNextCard

/-- THE SECOND FORM's CARD OF 'chancerylaw04.ClockOnce'. -/
def clockOnceUptoCard : Claim7 := { stood := { row := clockOnceUptoRow, standIns := [], harness := (true, "5f16d26f27f1a220110ae282eac54c66bfada245b9206e63a44fe7daf52e92b4"), looks := false }, kinds := [], alts := [], laidByText := true, laidKinds := [.data], laidTests := true, laidLooks := .later }
def ClockOnceUptoCardSaid : Prop := Claim7.holds Tryd.pinned (.plain (OpenSpec.upto clockOnceSpec)) clockOnceUptoCard

/-- THE SECOND FORM's CARD OF 'chancerylaw04.ClockOrder'. -/
def clockOrderUptoCard : Claim7 := { stood := { row := clockOrderUptoRow, standIns := [], harness := (true, "5f16d26f27f1a220110ae282eac54c66bfada245b9206e63a44fe7daf52e92b4"), looks := false }, kinds := [], alts := [], laidByText := true, laidKinds := [.data], laidTests := true, laidLooks := .later }
def ClockOrderUptoCardSaid : Prop := Claim7.holds Tryd.pinned (.plain (OpenSpec.upto clockOrderSpec)) clockOrderUptoCard

/-- THE SECOND FORM's CARD OF 'chancerylaw04.ClockNext'. -/
def clockNextUptoCard : Claim7 := { stood := { row := clockNextUptoRow, standIns := [], harness := (true, "5f16d26f27f1a220110ae282eac54c66bfada245b9206e63a44fe7daf52e92b4"), looks := false }, kinds := [], alts := [], laidByText := true, laidKinds := [.data], laidTests := true, laidLooks := .later }
def ClockNextUptoCardSaid : Prop := Claim7.holds Tryd.pinned (.plain (OpenSpec.upto clockNextSpec)) clockNextUptoCard
end Rows
end Go.Proofs.YtnpimjfdidbdfabDoor
