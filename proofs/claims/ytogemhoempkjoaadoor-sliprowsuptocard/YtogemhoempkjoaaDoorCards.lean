/-
  DERIVED. GIVEN WITH THE SEED: THE CARDS: each row of YtogemhoempkjoaaDoorRows.lean that lists a variable, with what it lists TIED to the program's text (the seventh form; the later family's looks); each row that meets fmt, with fmt's text TOLD by the authors' own Lean function (tested against real Go, not proved from fmt's source: count such statements apart). THE CARD IS WHAT COUNTS. Prove the row's statement (the work); the ties are given (YtogemhoempkjoaaDoorTie.lean); close each card by the builder's one call (the guide's Derived/Test/ToyasCard.lean, 'card_holds'). Laid BY PROGRAM, IN A SANDBOX (cutbox-door.mjs). By AI agents, Wed Nov 11 2026. No macro, syntax, notation, axiom, sorry.
-/
import Derived.Test.YtogemhoempkjoaaDoorRows
import GoSem.ClaimSeven
namespace Go.Proofs.YtogemhoempkjoaaDoor
namespace Rows

/-- THE TIED CARD OF 'chancerylaw09.SlipSums'. -/
def slipSumsCard : Claim7 := { stood := { row := slipSumsRow, standIns := [], harness := (true, "c46bddf585cbf0de61e9a2586cf09cffd16cc90e718e4df7e1d91c163857e971"), looks := false }, kinds := [], alts := [], laidByText := true, laidKinds := [.data], laidTests := true, laidLooks := .later }
def SlipSumsCardSaid : Prop := Claim7.holds Tryd.pinned (.plain (OpenSpec.ofChange slipSumsSpec)) slipSumsCard

/-- THE TIED CARD OF 'chancerylaw09.SlipPuts'. -/
def slipPutsCard : Claim7 := { stood := { row := slipPutsRow, standIns := [], harness := (true, "c46bddf585cbf0de61e9a2586cf09cffd16cc90e718e4df7e1d91c163857e971"), looks := false }, kinds := [], alts := [], laidByText := true, laidKinds := [.data], laidTests := true, laidLooks := .later }
def SlipPutsCardSaid : Prop := Claim7.holds Tryd.pinned (.plain (OpenSpec.ofChange slipPutsSpec)) slipPutsCard

/-- THE TIED CARD OF 'chancerylaw09.SlipTakes'. -/
def slipTakesCard : Claim7 := { stood := { row := slipTakesRow, standIns := [], harness := (true, "c46bddf585cbf0de61e9a2586cf09cffd16cc90e718e4df7e1d91c163857e971"), looks := false }, kinds := [], alts := [], laidByText := true, laidKinds := [.data], laidTests := true, laidLooks := .later }
def SlipTakesCardSaid : Prop := Claim7.holds Tryd.pinned (.plain (OpenSpec.ofChange slipTakesSpec)) slipTakesCard

/-- THE TIED CARD OF 'chancerylaw09.SlipRows'. -/
def slipRowsCard : Claim7 := { stood := { row := slipRowsRow, standIns := [], harness := (true, "c46bddf585cbf0de61e9a2586cf09cffd16cc90e718e4df7e1d91c163857e971"), looks := false }, kinds := [], alts := [], laidByText := true, laidKinds := [.data], laidTests := true, laidLooks := .later }
def SlipRowsCardSaid : Prop := Claim7.holds Tryd.pinned (.plain (OpenSpec.ofChange slipRowsSpec)) slipRowsCard

/-- THE TIED CARD OF 'chancerylaw09.SlipTorn'. -/
def slipTornCard : Claim7 := { stood := { row := slipTornRow, standIns := [], harness := (true, "c46bddf585cbf0de61e9a2586cf09cffd16cc90e718e4df7e1d91c163857e971"), looks := false }, kinds := [], alts := [], laidByText := true, laidKinds := [.data], laidTests := true, laidLooks := .later }
def SlipTornCardSaid : Prop := Claim7.holds Tryd.pinned (.plain (OpenSpec.ofChange slipTornSpec)) slipTornCard

/-- THE TIED CARD OF 'chancerylaw09.SlipSpoilt'. -/
def slipSpoiltCard : Claim7 := { stood := { row := slipSpoiltRow, standIns := [], harness := (true, "c46bddf585cbf0de61e9a2586cf09cffd16cc90e718e4df7e1d91c163857e971"), looks := false }, kinds := [], alts := [], laidByText := true, laidKinds := [.data], laidTests := true, laidLooks := .later }
def SlipSpoiltCardSaid : Prop := Claim7.holds Tryd.pinned (.plain (OpenSpec.ofChange slipSpoiltSpec)) slipSpoiltCard

/-- THE SECOND FORM's CARD OF 'chancerylaw09.SlipSums'. -/
def slipSumsUptoCard : Claim7 := { stood := { row := slipSumsUptoRow, standIns := [], harness := (true, "c46bddf585cbf0de61e9a2586cf09cffd16cc90e718e4df7e1d91c163857e971"), looks := false }, kinds := [], alts := [], laidByText := true, laidKinds := [.data], laidTests := true, laidLooks := .later }
def SlipSumsUptoCardSaid : Prop := Claim7.holds Tryd.pinned (.plain (OpenSpec.upto slipSumsSpec)) slipSumsUptoCard

/-- THE SECOND FORM's CARD OF 'chancerylaw09.SlipPuts'. -/
def slipPutsUptoCard : Claim7 := { stood := { row := slipPutsUptoRow, standIns := [], harness := (true, "c46bddf585cbf0de61e9a2586cf09cffd16cc90e718e4df7e1d91c163857e971"), looks := false }, kinds := [], alts := [], laidByText := true, laidKinds := [.data], laidTests := true, laidLooks := .later }
def SlipPutsUptoCardSaid : Prop := Claim7.holds Tryd.pinned (.plain (OpenSpec.upto slipPutsSpec)) slipPutsUptoCard

/-- THE SECOND FORM's CARD OF 'chancerylaw09.SlipTakes'. -/
def slipTakesUptoCard : Claim7 := { stood := { row := slipTakesUptoRow, standIns := [], harness := (true, "c46bddf585cbf0de61e9a2586cf09cffd16cc90e718e4df7e1d91c163857e971"), looks := false }, kinds := [], alts := [], laidByText := true, laidKinds := [.data], laidTests := true, laidLooks := .later }
def SlipTakesUptoCardSaid : Prop := Claim7.holds Tryd.pinned (.plain (OpenSpec.upto slipTakesSpec)) slipTakesUptoCard

/-- THE SECOND FORM's CARD OF 'chancerylaw09.SlipRows'. -/
def slipRowsUptoCard : Claim7 := { stood := { row := slipRowsUptoRow, standIns := [], harness := (true, "c46bddf585cbf0de61e9a2586cf09cffd16cc90e718e4df7e1d91c163857e971"), looks := false }, kinds := [], alts := [], laidByText := true, laidKinds := [.data], laidTests := true, laidLooks := .later }
def SlipRowsUptoCardSaid : Prop := Claim7.holds Tryd.pinned (.plain (OpenSpec.upto slipRowsSpec)) slipRowsUptoCard

/-- THE SECOND FORM's CARD OF 'chancerylaw09.SlipTorn'. -/
def slipTornUptoCard : Claim7 := { stood := { row := slipTornUptoRow, standIns := [], harness := (true, "c46bddf585cbf0de61e9a2586cf09cffd16cc90e718e4df7e1d91c163857e971"), looks := false }, kinds := [], alts := [], laidByText := true, laidKinds := [.data], laidTests := true, laidLooks := .later }
def SlipTornUptoCardSaid : Prop := Claim7.holds Tryd.pinned (.plain (OpenSpec.upto slipTornSpec)) slipTornUptoCard

/-- THE SECOND FORM's CARD OF 'chancerylaw09.SlipSpoilt'. -/
def slipSpoiltUptoCard : Claim7 := { stood := { row := slipSpoiltUptoRow, standIns := [], harness := (true, "c46bddf585cbf0de61e9a2586cf09cffd16cc90e718e4df7e1d91c163857e971"), looks := false }, kinds := [], alts := [], laidByText := true, laidKinds := [.data], laidTests := true, laidLooks := .later }
def SlipSpoiltUptoCardSaid : Prop := Claim7.holds Tryd.pinned (.plain (OpenSpec.upto slipSpoiltSpec)) slipSpoiltUptoCard
end Rows
end Go.Proofs.YtogemhoempkjoaaDoor
