/-
  DERIVED. GIVEN WITH THE SEED: THE CARDS: each row of YtpdomfifoplbnabDoorRows.lean that lists a variable, with what it lists TIED to the program's text (the seventh form; the later family's looks); each row that meets fmt, with fmt's text TOLD by the authors' own Lean function (tested against real Go, not proved from fmt's source: count such statements apart). THE CARD IS WHAT COUNTS. Prove the row's statement (the work); the ties are given (YtpdomfifoplbnabDoorTie.lean); close each card by the builder's one call (the guide's Derived/Test/ToyasCard.lean, 'card_holds'). Laid BY PROGRAM, IN A SANDBOX (cutbox-door.mjs). By AI agents, Wed Nov 11 2026. No macro, syntax, notation, axiom, sorry.
-/
import Derived.Test.YtpdomfifoplbnabDoorRows
import GoSem.ClaimSeven
namespace Go.Proofs.YtpdomfifoplbnabDoor
namespace Rows

/-- THE TIED CARD OF 'chancerylaw13.HostOne'. -/
def hostOneCard : Claim7 := { stood := { row := hostOneRow, standIns := [], harness := (true, "80d20758881eb43796e6d7148f810ed9a0dc6212afcc23542b881ba5bc5801f0"), looks := false }, kinds := [], alts := [], laidByText := true, laidKinds := [.data, .data, .data, .pinned, .pinned], laidTests := true, laidLooks := .later }
def HostOneCardSaid : Prop := Claim7.holds Tryd.pinned (.plain (OpenSpec.ofChange hostOneSpec)) hostOneCard

/-- THE SECOND FORM's CARD OF 'chancerylaw13.HostOne'. -/
def hostOneUptoCard : Claim7 := { stood := { row := hostOneUptoRow, standIns := [], harness := (true, "80d20758881eb43796e6d7148f810ed9a0dc6212afcc23542b881ba5bc5801f0"), looks := false }, kinds := [], alts := [], laidByText := true, laidKinds := [.data, .data, .data, .pinned, .pinned], laidTests := true, laidLooks := .later }
def HostOneUptoCardSaid : Prop := Claim7.holds Tryd.pinned (.plain (OpenSpec.upto hostOneSpec)) hostOneUptoCard
end Rows
end Go.Proofs.YtpdomfifoplbnabDoor
