/-
  DERIVED. GIVEN WITH THE SEED: THE CARDS: each row of YtgbbgfjamneioaaDoorRows.lean that lists a variable, with what it lists TIED to the program's text (the seventh form; the later family's looks); each row that meets fmt, with fmt's text TOLD by the authors' own Lean function (tested against real Go, not proved from fmt's source: count such statements apart). THE CARD IS WHAT COUNTS. Prove the row's statement (the work); the ties are given (YtgbbgfjamneioaaDoorTie.lean); close each card by the builder's one call (the guide's Derived/Test/ToyasCard.lean, 'card_holds'). Laid BY PROGRAM, IN A SANDBOX (cutbox-door.mjs). By AI agents, Wed Nov 11 2026. No macro, syntax, notation, axiom, sorry.
-/
import Derived.Test.YtgbbgfjamneioaaDoorRows
import GoSem.ClaimSeven
namespace Go.Proofs.YtgbbgfjamneioaaDoor
namespace Rows

/-- THE TIED CARD OF 'chancerylaw12.NameEncodes'. -/
def nameEncodesCard : Claim7 := { stood := { row := nameEncodesRow, standIns := [], harness := (true, "fb73fd22b053e6d1be4a6d590d8794b354af73bd7f1401afade18f9d8fe3cbeb"), looks := true }, kinds := [], alts := [], laidByText := true, laidKinds := [.data], laidTests := true, laidLooks := .later }
def NameEncodesCardSaid : Prop := Claim7.holds Tryd.pinned (.plain (OpenSpec.ofChange nameEncodesSpec)) nameEncodesCard

/-- THE TIED CARD OF 'chancerylaw12.NameParses'. -/
def nameParsesCard : Claim7 := { stood := { row := nameParsesRow, standIns := [], harness := (true, "fb73fd22b053e6d1be4a6d590d8794b354af73bd7f1401afade18f9d8fe3cbeb"), looks := true }, kinds := [], alts := [], laidByText := true, laidKinds := [.data], laidTests := true, laidLooks := .later }
def NameParsesCardSaid : Prop := Claim7.holds Tryd.pinned (.plain (OpenSpec.ofChange nameParsesSpec)) nameParsesCard

/-- THE TIED CARD OF 'chancerylaw12.NameBack'. -/
def nameBackCard : Claim7 := { stood := { row := nameBackRow, standIns := [], harness := (true, "fb73fd22b053e6d1be4a6d590d8794b354af73bd7f1401afade18f9d8fe3cbeb"), looks := true }, kinds := [], alts := [], laidByText := true, laidKinds := [.data], laidTests := true, laidLooks := .later }
def NameBackCardSaid : Prop := Claim7.holds Tryd.pinned (.plain (OpenSpec.ofChange nameBackSpec)) nameBackCard

/-- THE TIED CARD OF 'chancerylaw12.NameOnce'. -/
def nameOnceCard : Claim7 := { stood := { row := nameOnceRow, standIns := [], harness := (true, "fb73fd22b053e6d1be4a6d590d8794b354af73bd7f1401afade18f9d8fe3cbeb"), looks := true }, kinds := [], alts := [], laidByText := true, laidKinds := [.data], laidTests := true, laidLooks := .later }
def NameOnceCardSaid : Prop := Claim7.holds Tryd.pinned (.plain (OpenSpec.ofChange nameOnceSpec)) nameOnceCard

/-- THE SECOND FORM's CARD OF 'chancerylaw12.NameEncodes'. -/
def nameEncodesUptoCard : Claim7 := { stood := { row := nameEncodesUptoRow, standIns := [], harness := (true, "fb73fd22b053e6d1be4a6d590d8794b354af73bd7f1401afade18f9d8fe3cbeb"), looks := true }, kinds := [], alts := [], laidByText := true, laidKinds := [.data], laidTests := true, laidLooks := .later }
def NameEncodesUptoCardSaid : Prop := Claim7.holds Tryd.pinned (.plain (OpenSpec.upto nameEncodesSpec)) nameEncodesUptoCard

/-- THE SECOND FORM's CARD OF 'chancerylaw12.NameParses'. -/
def nameParsesUptoCard : Claim7 := { stood := { row := nameParsesUptoRow, standIns := [], harness := (true, "fb73fd22b053e6d1be4a6d590d8794b354af73bd7f1401afade18f9d8fe3cbeb"), looks := true }, kinds := [], alts := [], laidByText := true, laidKinds := [.data], laidTests := true, laidLooks := .later }
def NameParsesUptoCardSaid : Prop := Claim7.holds Tryd.pinned (.plain (OpenSpec.upto nameParsesSpec)) nameParsesUptoCard

/-- THE SECOND FORM's CARD OF 'chancerylaw12.NameBack'. -/
def nameBackUptoCard : Claim7 := { stood := { row := nameBackUptoRow, standIns := [], harness := (true, "fb73fd22b053e6d1be4a6d590d8794b354af73bd7f1401afade18f9d8fe3cbeb"), looks := true }, kinds := [], alts := [], laidByText := true, laidKinds := [.data], laidTests := true, laidLooks := .later }
def NameBackUptoCardSaid : Prop := Claim7.holds Tryd.pinned (.plain (OpenSpec.upto nameBackSpec)) nameBackUptoCard

/-- THE SECOND FORM's CARD OF 'chancerylaw12.NameOnce'. -/
def nameOnceUptoCard : Claim7 := { stood := { row := nameOnceUptoRow, standIns := [], harness := (true, "fb73fd22b053e6d1be4a6d590d8794b354af73bd7f1401afade18f9d8fe3cbeb"), looks := true }, kinds := [], alts := [], laidByText := true, laidKinds := [.data], laidTests := true, laidLooks := .later }
def NameOnceUptoCardSaid : Prop := Claim7.holds Tryd.pinned (.plain (OpenSpec.upto nameOnceSpec)) nameOnceUptoCard
end Rows
end Go.Proofs.YtgbbgfjamneioaaDoor
