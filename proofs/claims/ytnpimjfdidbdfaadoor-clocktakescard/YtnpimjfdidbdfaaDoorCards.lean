/-
  DERIVED. GIVEN WITH THE SEED: THE CARDS: each row of YtnpimjfdidbdfaaDoorRows.lean that lists a variable, with what it lists TIED to the program's text (the seventh form; the later family's looks); each row that meets fmt, with fmt's text TOLD by the authors' own Lean function (tested against real Go, not proved from fmt's source: count such statements apart). THE CARD IS WHAT COUNTS. Prove the row's statement (the work); the ties are given (YtnpimjfdidbdfaaDoorTie.lean); close each card by the builder's one call (the guide's Derived/Test/ToyasCard.lean, 'card_holds'). Laid BY PROGRAM, IN A SANDBOX (cutbox-door.mjs). By AI agents, Wed Nov 11 2026. No macro, syntax, notation, axiom, sorry.
-/
import Derived.Test.YtnpimjfdidbdfaaDoorRows
import GoSem.ClaimSeven
namespace Go.Proofs.YtnpimjfdidbdfaaDoor
namespace Rows

/-- THE TIED CARD OF 'chancerylaw04.ClockCivils'. -/
def clockCivilsCard : Claim7 := { stood := { row := clockCivilsRow, standIns := [], harness := (true, "055cccaafb410d239838c491cb7b631f736c81acb2d502f16e0ce0e3c773064d"), looks := false }, kinds := [], alts := [], laidByText := true, laidKinds := [.data], laidTests := true, laidLooks := .later }
def ClockCivilsCardSaid : Prop := Claim7.holds Tryd.pinned (.plain (OpenSpec.ofChange clockCivilsSpec)) clockCivilsCard

/-- THE TIED CARD OF 'chancerylaw04.ClockSeconds'. -/
def clockSecondsCard : Claim7 := { stood := { row := clockSecondsRow, standIns := [], harness := (true, "055cccaafb410d239838c491cb7b631f736c81acb2d502f16e0ce0e3c773064d"), looks := false }, kinds := [], alts := [], laidByText := true, laidKinds := [.data], laidTests := true, laidLooks := .later }
def ClockSecondsCardSaid : Prop := Claim7.holds Tryd.pinned (.plain (OpenSpec.ofChange clockSecondsSpec)) clockSecondsCard

/-- THE TIED CARD OF 'chancerylaw04.ClockDays'. -/
def clockDaysCard : Claim7 := { stood := { row := clockDaysRow, standIns := [], harness := (true, "055cccaafb410d239838c491cb7b631f736c81acb2d502f16e0ce0e3c773064d"), looks := false }, kinds := [], alts := [], laidByText := true, laidKinds := [.data], laidTests := true, laidLooks := .later }
def ClockDaysCardSaid : Prop := Claim7.holds Tryd.pinned (.plain (OpenSpec.ofChange clockDaysSpec)) clockDaysCard

/-- THE TIED CARD OF 'chancerylaw04.ClockPuts'. -/
def clockPutsCard : Claim7 := { stood := { row := clockPutsRow, standIns := [], harness := (true, "055cccaafb410d239838c491cb7b631f736c81acb2d502f16e0ce0e3c773064d"), looks := false }, kinds := [], alts := [], laidByText := true, laidKinds := [.data], laidTests := true, laidLooks := .later }
def ClockPutsCardSaid : Prop := Claim7.holds Tryd.pinned (.plain (OpenSpec.ofChange clockPutsSpec)) clockPutsCard

/-- THE TIED CARD OF 'chancerylaw04.ClockTakes'. -/
def clockTakesCard : Claim7 := { stood := { row := clockTakesRow, standIns := [], harness := (true, "055cccaafb410d239838c491cb7b631f736c81acb2d502f16e0ce0e3c773064d"), looks := false }, kinds := [], alts := [], laidByText := true, laidKinds := [.data], laidTests := true, laidLooks := .later }
def ClockTakesCardSaid : Prop := Claim7.holds Tryd.pinned (.plain (OpenSpec.ofChange clockTakesSpec)) clockTakesCard

/-- THE TIED CARD OF 'chancerylaw04.ClockBack'. -/
def clockBackCard : Claim7 := { stood := { row := clockBackRow, standIns := [], harness := (true, "055cccaafb410d239838c491cb7b631f736c81acb2d502f16e0ce0e3c773064d"), looks := false }, kinds := [], alts := [], laidByText := true, laidKinds := [.data], laidTests := true, laidLooks := .later }
def ClockBackCardSaid : Prop := Claim7.holds Tryd.pinned (.plain (OpenSpec.ofChange clockBackSpec)) clockBackCard

/-- THE SECOND FORM's CARD OF 'chancerylaw04.ClockCivils'. -/
def clockCivilsUptoCard : Claim7 := { stood := { row := clockCivilsUptoRow, standIns := [], harness := (true, "055cccaafb410d239838c491cb7b631f736c81acb2d502f16e0ce0e3c773064d"), looks := false }, kinds := [], alts := [], laidByText := true, laidKinds := [.data], laidTests := true, laidLooks := .later }
def ClockCivilsUptoCardSaid : Prop := Claim7.holds Tryd.pinned (.plain (OpenSpec.upto clockCivilsSpec)) clockCivilsUptoCard

/-- THE SECOND FORM's CARD OF 'chancerylaw04.ClockSeconds'. -/
def clockSecondsUptoCard : Claim7 := { stood := { row := clockSecondsUptoRow, standIns := [], harness := (true, "055cccaafb410d239838c491cb7b631f736c81acb2d502f16e0ce0e3c773064d"), looks := false }, kinds := [], alts := [], laidByText := true, laidKinds := [.data], laidTests := true, laidLooks := .later }
def ClockSecondsUptoCardSaid : Prop := Claim7.holds Tryd.pinned (.plain (OpenSpec.upto clockSecondsSpec)) clockSecondsUptoCard

/-- THE SECOND FORM's CARD OF 'chancerylaw04.ClockDays'. -/
def clockDaysUptoCard : Claim7 := { stood := { row := clockDaysUptoRow, standIns := [], harness := (true, "055cccaafb410d239838c491cb7b631f736c81acb2d502f16e0ce0e3c773064d"), looks := false }, kinds := [], alts := [], laidByText := true, laidKinds := [.data], laidTests := true, laidLooks := .later }
def ClockDaysUptoCardSaid : Prop := Claim7.holds Tryd.pinned (.plain (OpenSpec.upto clockDaysSpec)) clockDaysUptoCard

/-- THE SECOND FORM's CARD OF 'chancerylaw04.ClockPuts'. -/
def clockPutsUptoCard : Claim7 := { stood := { row := clockPutsUptoRow, standIns := [], harness := (true, "055cccaafb410d239838c491cb7b631f736c81acb2d502f16e0ce0e3c773064d"), looks := false }, kinds := [], alts := [], laidByText := true, laidKinds := [.data], laidTests := true, laidLooks := .later }
def ClockPutsUptoCardSaid : Prop := Claim7.holds Tryd.pinned (.plain (OpenSpec.upto clockPutsSpec)) clockPutsUptoCard

/-- THE SECOND FORM's CARD OF 'chancerylaw04.ClockTakes'. -/
def clockTakesUptoCard : Claim7 := { stood := { row := clockTakesUptoRow, standIns := [], harness := (true, "055cccaafb410d239838c491cb7b631f736c81acb2d502f16e0ce0e3c773064d"), looks := false }, kinds := [], alts := [], laidByText := true, laidKinds := [.data], laidTests := true, laidLooks := .later }
def ClockTakesUptoCardSaid : Prop := Claim7.holds Tryd.pinned (.plain (OpenSpec.upto clockTakesSpec)) clockTakesUptoCard

/-- THE SECOND FORM's CARD OF 'chancerylaw04.ClockBack'. -/
def clockBackUptoCard : Claim7 := { stood := { row := clockBackUptoRow, standIns := [], harness := (true, "055cccaafb410d239838c491cb7b631f736c81acb2d502f16e0ce0e3c773064d"), looks := false }, kinds := [], alts := [], laidByText := true, laidKinds := [.data], laidTests := true, laidLooks := .later }
def ClockBackUptoCardSaid : Prop := Claim7.holds Tryd.pinned (.plain (OpenSpec.upto clockBackSpec)) clockBackUptoCard
end Rows
end Go.Proofs.YtnpimjfdidbdfaaDoor
