/-
  DERIVED. GIVEN WITH THE SEED: THE CARDS: each row of YtibhlhfnddmelaaDoorRows.lean that lists a variable, with what it lists TIED to the program's text (the seventh form; the later family's looks); each row that meets fmt, with fmt's text TOLD by the authors' own Lean function (tested against real Go, not proved from fmt's source: count such statements apart). THE CARD IS WHAT COUNTS. Prove the row's statement (the work); the ties are given (YtibhlhfnddmelaaDoorTie.lean); close each card by the builder's one call (the guide's Derived/Test/ToyasCard.lean, 'card_holds'). Laid BY PROGRAM, IN A SANDBOX (cutbox-door.mjs). By AI agents, Wed Nov 11 2026. No macro, syntax, notation, axiom, sorry.
-/
import Derived.Test.YtibhlhfnddmelaaDoorRows
import GoSem.ClaimSeven
namespace Go.Proofs.YtibhlhfnddmelaaDoor
namespace Rows

/-- THE TIED CARD OF 'chancerylaw03.OidEncodes'. -/
def oidEncodesCard : Claim7 := { stood := { row := oidEncodesRow, standIns := [], harness := (true, "ff622819ebcf3f01173b099419e67940a0b99d16cd13d7e134b159bee4acdf95"), looks := true }, kinds := [], alts := [], laidByText := true, laidKinds := [.data, .data, .data], laidTests := true, laidLooks := .later }
def OidEncodesCardSaid : Prop := Claim7.holds Tryd.pinned (.plain (OpenSpec.ofChange oidEncodesSpec)) oidEncodesCard

/-- THE TIED CARD OF 'chancerylaw03.OidBack'. -/
def oidBackCard : Claim7 := { stood := { row := oidBackRow, standIns := [], harness := (true, "ff622819ebcf3f01173b099419e67940a0b99d16cd13d7e134b159bee4acdf95"), looks := true }, kinds := [], alts := [], laidByText := true, laidKinds := [.data, .data, .data], laidTests := true, laidLooks := .later }
def OidBackCardSaid : Prop := Claim7.holds Tryd.pinned (.plain (OpenSpec.ofChange oidBackSpec)) oidBackCard

/-- THE SECOND FORM's CARD OF 'chancerylaw03.OidEncodes'. -/
def oidEncodesUptoCard : Claim7 := { stood := { row := oidEncodesUptoRow, standIns := [], harness := (true, "ff622819ebcf3f01173b099419e67940a0b99d16cd13d7e134b159bee4acdf95"), looks := true }, kinds := [], alts := [], laidByText := true, laidKinds := [.data, .data, .data], laidTests := true, laidLooks := .later }
def OidEncodesUptoCardSaid : Prop := Claim7.holds Tryd.pinned (.plain (OpenSpec.upto oidEncodesSpec)) oidEncodesUptoCard

/-- THE SECOND FORM's CARD OF 'chancerylaw03.OidBack'. -/
def oidBackUptoCard : Claim7 := { stood := { row := oidBackUptoRow, standIns := [], harness := (true, "ff622819ebcf3f01173b099419e67940a0b99d16cd13d7e134b159bee4acdf95"), looks := true }, kinds := [], alts := [], laidByText := true, laidKinds := [.data, .data, .data], laidTests := true, laidLooks := .later }
def OidBackUptoCardSaid : Prop := Claim7.holds Tryd.pinned (.plain (OpenSpec.upto oidBackSpec)) oidBackUptoCard
end Rows
end Go.Proofs.YtibhlhfnddmelaaDoor
