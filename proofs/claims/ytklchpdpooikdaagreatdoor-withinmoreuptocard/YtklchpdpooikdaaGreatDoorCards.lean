/-
  DERIVED. GIVEN WITH THE SEED: THE CARDS: each row of YtklchpdpooikdaaGreatDoorRows.lean that lists a variable, with what it lists TIED to the program's text (the seventh form; the later family's looks); each row that meets fmt, with fmt's text TOLD by the authors' own Lean function (tested against real Go, not proved from fmt's source: count such statements apart). THE CARD IS WHAT COUNTS. Prove the row's statement (the work); the ties are given (YtklchpdpooikdaaGreatDoorTie.lean); close each card by the builder's one call (the guide's Derived/Test/ToyasCard.lean, 'card_holds'). Laid BY PROGRAM, IN A SANDBOX (cutbox-door.mjs). By AI agents, Wed Nov 11 2026. No macro, syntax, notation, axiom, sorry.
-/
import Derived.Test.YtklchpdpooikdaaGreatDoorRows
import GoSem.ClaimSeven
namespace Go.Proofs.YtklchpdpooikdaaGreatDoor
namespace Rows

/-- THE TIED CARD OF 'chancerylaw14.WithinChecks'. -/
def withinChecksCard : Claim7 := { stood := { row := withinChecksRow, standIns := [], harness := (true, "5a4a59c3939a64e084db27d60b057a78c307b671ffc5c43dab9be5e6e80b637f"), looks := true }, kinds := [], alts := [], laidByText := true, laidKinds := [.data, .data, .data, .pinned, .pinned], laidTests := true, laidLooks := .later }
def WithinChecksCardSaid : Prop := Claim7.holds Tryz.pinned (.plain (OpenSpec.ofChange withinChecksSpec)) withinChecksCard

/-- THE TIED CARD OF 'chancerylaw14.WithinMore'. -/
def withinMoreCard : Claim7 := { stood := { row := withinMoreRow, standIns := [], harness := (true, "5a4a59c3939a64e084db27d60b057a78c307b671ffc5c43dab9be5e6e80b637f"), looks := true }, kinds := [], alts := [], laidByText := true, laidKinds := [.data, .data, .data, .pinned, .pinned], laidTests := true, laidLooks := .later }
def WithinMoreCardSaid : Prop := Claim7.holds Tryz.pinned (.plain (OpenSpec.ofChange withinMoreSpec)) withinMoreCard

/-- THE SECOND FORM's CARD OF 'chancerylaw14.WithinChecks'. -/
def withinChecksUptoCard : Claim7 := { stood := { row := withinChecksUptoRow, standIns := [], harness := (true, "5a4a59c3939a64e084db27d60b057a78c307b671ffc5c43dab9be5e6e80b637f"), looks := true }, kinds := [], alts := [], laidByText := true, laidKinds := [.data, .data, .data, .pinned, .pinned], laidTests := true, laidLooks := .later }
def WithinChecksUptoCardSaid : Prop := Claim7.holds Tryz.pinned (.plain (OpenSpec.upto withinChecksSpec)) withinChecksUptoCard

/-- THE SECOND FORM's CARD OF 'chancerylaw14.WithinMore'. -/
def withinMoreUptoCard : Claim7 := { stood := { row := withinMoreUptoRow, standIns := [], harness := (true, "5a4a59c3939a64e084db27d60b057a78c307b671ffc5c43dab9be5e6e80b637f"), looks := true }, kinds := [], alts := [], laidByText := true, laidKinds := [.data, .data, .data, .pinned, .pinned], laidTests := true, laidLooks := .later }
def WithinMoreUptoCardSaid : Prop := Claim7.holds Tryz.pinned (.plain (OpenSpec.upto withinMoreSpec)) withinMoreUptoCard
end Rows
end Go.Proofs.YtklchpdpooikdaaGreatDoor
