/-
  DERIVED. GIVEN WITH THE SEED: THE CARDS: each row of YtilkbjohekhjcaaDoorRows.lean that lists a variable, with what it lists TIED to the program's text (the seventh form; the later family's looks); each row that meets fmt, with fmt's text TOLD by the authors' own Lean function (tested against real Go, not proved from fmt's source: count such statements apart). THE CARD IS WHAT COUNTS. Prove the row's statement (the work); the ties are given (YtilkbjohekhjcaaDoorTie.lean); close each card by the builder's one call (the guide's Derived/Test/ToyasCard.lean, 'card_holds'). Laid BY PROGRAM, IN A SANDBOX (cutbox-door.mjs). By AI agents, Wed Nov 11 2026. No macro, syntax, notation, axiom, sorry.
-/
import Derived.Test.YtilkbjohekhjcaaDoorRows
import GoSem.ClaimSeven
namespace Go.Proofs.YtilkbjohekhjcaaDoor
namespace Rows

/-- THE TIED CARD OF 'chancerylaw09.SlipTorn'. -/
def slipTornCard : Claim7 := { stood := { row := slipTornRow, standIns := [], harness := (true, "949f3da31e8898b2609f79e3b0a76222c1dfb6fa91f4852464717698c960d8d0"), looks := false }, kinds := [], alts := [], laidByText := true, laidKinds := [.data], laidTests := true, laidLooks := .later }
def SlipTornCardSaid : Prop := Claim7.holds Tryd.pinned (.plain (OpenSpec.ofChange slipTornSpec)) slipTornCard

/-- THE SECOND FORM's CARD OF 'chancerylaw09.SlipTorn'. -/
def slipTornUptoCard : Claim7 := { stood := { row := slipTornUptoRow, standIns := [], harness := (true, "949f3da31e8898b2609f79e3b0a76222c1dfb6fa91f4852464717698c960d8d0"), looks := false }, kinds := [], alts := [], laidByText := true, laidKinds := [.data], laidTests := true, laidLooks := .later }
def SlipTornUptoCardSaid : Prop := Claim7.holds Tryd.pinned (.plain (OpenSpec.upto slipTornSpec)) slipTornUptoCard
end Rows
end Go.Proofs.YtilkbjohekhjcaaDoor
