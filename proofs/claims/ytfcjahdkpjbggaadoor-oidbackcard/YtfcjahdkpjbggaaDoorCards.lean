/-
  DERIVED. GIVEN WITH THE SEED: THE CARDS: each row of YtfcjahdkpjbggaaDoorRows.lean that lists a variable, with what it lists TIED to the program's text (the seventh form; the later family's looks); each row that meets fmt, with fmt's text TOLD by the authors' own Lean function (tested against real Go, not proved from fmt's source: count such statements apart). THE CARD IS WHAT COUNTS. Prove the row's statement (the work); the ties are given (YtfcjahdkpjbggaaDoorTie.lean); close each card by the builder's one call (the guide's Derived/Test/ToyasCard.lean, 'card_holds'). Laid BY PROGRAM, IN A SANDBOX (cutbox-door.mjs). By AI agents, Wed Nov 11 2026. No macro, syntax, notation, axiom, sorry.
-/
import Derived.Test.YtfcjahdkpjbggaaDoorRows
import GoSem.ClaimSeven
namespace Go.Proofs.YtfcjahdkpjbggaaDoor
namespace Rows

/-- THE TIED CARD OF 'chancerylaw03.OidBack'. -/
def oidBackCard : Claim7 := { stood := { row := oidBackRow, standIns := [], harness := (true, "a72cb853e6e0823f9b4d31b3c6695cce07678ca878204e90c5a464843b831993"), looks := true }, kinds := [], alts := [], laidByText := true, laidKinds := [.data, .data, .data], laidTests := true, laidLooks := .later }
def OidBackCardSaid : Prop := Claim7.holds Tryd.pinned (.plain (OpenSpec.ofChange oidBackSpec)) oidBackCard

/-- THE TIED CARD OF 'chancerylaw03.OidOnce'. -/
def oidOnceCard : Claim7 := { stood := { row := oidOnceRow, standIns := [], harness := (true, "a72cb853e6e0823f9b4d31b3c6695cce07678ca878204e90c5a464843b831993"), looks := true }, kinds := [], alts := [], laidByText := true, laidKinds := [.data, .data, .data], laidTests := true, laidLooks := .later }
def OidOnceCardSaid : Prop := Claim7.holds Tryd.pinned (.plain (OpenSpec.ofChange oidOnceSpec)) oidOnceCard

/-- THE SECOND FORM's CARD OF 'chancerylaw03.OidBack'. -/
def oidBackUptoCard : Claim7 := { stood := { row := oidBackUptoRow, standIns := [], harness := (true, "a72cb853e6e0823f9b4d31b3c6695cce07678ca878204e90c5a464843b831993"), looks := true }, kinds := [], alts := [], laidByText := true, laidKinds := [.data, .data, .data], laidTests := true, laidLooks := .later }
def OidBackUptoCardSaid : Prop := Claim7.holds Tryd.pinned (.plain (OpenSpec.upto oidBackSpec)) oidBackUptoCard

/-- THE SECOND FORM's CARD OF 'chancerylaw03.OidOnce'. -/
def oidOnceUptoCard : Claim7 := { stood := { row := oidOnceUptoRow, standIns := [], harness := (true, "a72cb853e6e0823f9b4d31b3c6695cce07678ca878204e90c5a464843b831993"), looks := true }, kinds := [], alts := [], laidByText := true, laidKinds := [.data, .data, .data], laidTests := true, laidLooks := .later }
def OidOnceUptoCardSaid : Prop := Claim7.holds Tryd.pinned (.plain (OpenSpec.upto oidOnceSpec)) oidOnceUptoCard
end Rows
end Go.Proofs.YtfcjahdkpjbggaaDoor
