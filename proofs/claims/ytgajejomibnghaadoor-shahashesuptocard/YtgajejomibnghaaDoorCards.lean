/-
  DERIVED. GIVEN WITH THE SEED: THE CARDS: each row of YtgajejomibnghaaDoorRows.lean that lists a variable, with what it lists TIED to the program's text (the seventh form; the later family's looks); each row that meets fmt, with fmt's text TOLD by the authors' own Lean function (tested against real Go, not proved from fmt's source: count such statements apart). THE CARD IS WHAT COUNTS. Prove the row's statement (the work); the ties are given (YtgajejomibnghaaDoorTie.lean); close each card by the builder's one call (the guide's Derived/Test/ToyasCard.lean, 'card_holds'). Laid BY PROGRAM, IN A SANDBOX (cutbox-door.mjs). By AI agents, Wed Nov 11 2026. No macro, syntax, notation, axiom, sorry.
-/
import Derived.Test.YtgajejomibnghaaDoorRows
import GoSem.ClaimSeven
namespace Go.Proofs.YtgajejomibnghaaDoor
namespace Rows

/-- THE TIED CARD OF 'chancerylaw08.ShaSums'. -/
def shaSumsCard : Claim7 := { stood := { row := shaSumsRow, standIns := [], harness := (true, "fc620b9a2cce8eee871eb2e1ca085c54597c9b127e1e494af2b150bc630887b2"), looks := false }, kinds := [], alts := [], laidByText := true, laidKinds := [.data, .data], laidTests := true, laidLooks := .later }
def ShaSumsCardSaid : Prop := Claim7.holds Tryd.pinned (.plain (OpenSpec.ofChange shaSumsSpec)) shaSumsCard

/-- THE TIED CARD OF 'chancerylaw08.ShaHashes'. -/
def shaHashesCard : Claim7 := { stood := { row := shaHashesRow, standIns := [], harness := (true, "fc620b9a2cce8eee871eb2e1ca085c54597c9b127e1e494af2b150bc630887b2"), looks := false }, kinds := [], alts := [], laidByText := true, laidKinds := [.data, .data], laidTests := true, laidLooks := .later }
def ShaHashesCardSaid : Prop := Claim7.holds Tryd.pinned (.plain (OpenSpec.ofChange shaHashesSpec)) shaHashesCard

/-- THE TIED CARD OF 'chancerylaw08.ShaKeys'. -/
def shaKeysCard : Claim7 := { stood := { row := shaKeysRow, standIns := [], harness := (true, "fc620b9a2cce8eee871eb2e1ca085c54597c9b127e1e494af2b150bc630887b2"), looks := false }, kinds := [], alts := [], laidByText := true, laidKinds := [.data, .data], laidTests := true, laidLooks := .later }
def ShaKeysCardSaid : Prop := Claim7.holds Tryd.pinned (.plain (OpenSpec.ofChange shaKeysSpec)) shaKeysCard

/-- THE TIED CARD OF 'chancerylaw09.SlipTorn'. -/
def slipTornCard : Claim7 := { stood := { row := slipTornRow, standIns := [], harness := (true, "fc620b9a2cce8eee871eb2e1ca085c54597c9b127e1e494af2b150bc630887b2"), looks := false }, kinds := [], alts := [], laidByText := true, laidKinds := [.data], laidTests := true, laidLooks := .later }
def SlipTornCardSaid : Prop := Claim7.holds Tryd.pinned (.plain (OpenSpec.ofChange slipTornSpec)) slipTornCard

/-- THE SECOND FORM's CARD OF 'chancerylaw08.ShaSums'. -/
def shaSumsUptoCard : Claim7 := { stood := { row := shaSumsUptoRow, standIns := [], harness := (true, "fc620b9a2cce8eee871eb2e1ca085c54597c9b127e1e494af2b150bc630887b2"), looks := false }, kinds := [], alts := [], laidByText := true, laidKinds := [.data, .data], laidTests := true, laidLooks := .later }
def ShaSumsUptoCardSaid : Prop := Claim7.holds Tryd.pinned (.plain (OpenSpec.upto shaSumsSpec)) shaSumsUptoCard

/-- THE SECOND FORM's CARD OF 'chancerylaw08.ShaHashes'. -/
def shaHashesUptoCard : Claim7 := { stood := { row := shaHashesUptoRow, standIns := [], harness := (true, "fc620b9a2cce8eee871eb2e1ca085c54597c9b127e1e494af2b150bc630887b2"), looks := false }, kinds := [], alts := [], laidByText := true, laidKinds := [.data, .data], laidTests := true, laidLooks := .later }
def ShaHashesUptoCardSaid : Prop := Claim7.holds Tryd.pinned (.plain (OpenSpec.upto shaHashesSpec)) shaHashesUptoCard

/-- THE SECOND FORM's CARD OF 'chancerylaw08.ShaKeys'. -/
def shaKeysUptoCard : Claim7 := { stood := { row := shaKeysUptoRow, standIns := [], harness := (true, "fc620b9a2cce8eee871eb2e1ca085c54597c9b127e1e494af2b150bc630887b2"), looks := false }, kinds := [], alts := [], laidByText := true, laidKinds := [.data, .data], laidTests := true, laidLooks := .later }
def ShaKeysUptoCardSaid : Prop := Claim7.holds Tryd.pinned (.plain (OpenSpec.upto shaKeysSpec)) shaKeysUptoCard

/-- THE SECOND FORM's CARD OF 'chancerylaw09.SlipTorn'. -/
def slipTornUptoCard : Claim7 := { stood := { row := slipTornUptoRow, standIns := [], harness := (true, "fc620b9a2cce8eee871eb2e1ca085c54597c9b127e1e494af2b150bc630887b2"), looks := false }, kinds := [], alts := [], laidByText := true, laidKinds := [.data], laidTests := true, laidLooks := .later }
def SlipTornUptoCardSaid : Prop := Claim7.holds Tryd.pinned (.plain (OpenSpec.upto slipTornSpec)) slipTornUptoCard
end Rows
end Go.Proofs.YtgajejomibnghaaDoor
