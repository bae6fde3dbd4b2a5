/-
  DERIVED. GIVEN WITH THE SEED: THE CARDS: each row of YtpdomfifoplbnaaDoorRows.lean that lists a variable, with what it lists TIED to the program's text (the seventh form; the later family's looks); each row that meets fmt, with fmt's text TOLD by the authors' own Lean function (tested against real Go, not proved from fmt's source: count such statements apart). THE CARD IS WHAT COUNTS. Prove the row's statement (the work); the ties are given (YtpdomfifoplbnaaDoorTie.lean); close each card by the builder's one call (the guide's Derived/Test/ToyasCard.lean, 'card_holds'). Laid BY PROGRAM, IN A SANDBOX (cutbox-door.mjs). By AI agents, Wed Nov 11 2026. No macro, syntax, notation, axiom, sorry.
-/
import Derived.Test.YtpdomfifoplbnaaDoorRows
import GoSem.ClaimSeven
namespace Go.Proofs.YtpdomfifoplbnaaDoor
namespace Rows

/-- THE TIED CARD OF 'chancerylaw13.HostMatches'. -/
def hostMatchesCard : Claim7 := { stood := { row := hostMatchesRow, standIns := [], harness := (true, "09f36084bd1789fa7e2393bb8617b16310eb82590245ba4c5009479f73f51bc0"), looks := false }, kinds := [], alts := [], laidByText := true, laidKinds := [.data, .data, .data, .pinned, .pinned], laidTests := true, laidLooks := .later }
def HostMatchesCardSaid : Prop := Claim7.holds Tryd.pinned (.plain (OpenSpec.ofChange hostMatchesSpec)) hostMatchesCard

/-- THE SECOND FORM's CARD OF 'chancerylaw13.HostMatches'. -/
def hostMatchesUptoCard : Claim7 := { stood := { row := hostMatchesUptoRow, standIns := [], harness := (true, "09f36084bd1789fa7e2393bb8617b16310eb82590245ba4c5009479f73f51bc0"), looks := false }, kinds := [], alts := [], laidByText := true, laidKinds := [.data, .data, .data, .pinned, .pinned], laidTests := true, laidLooks := .later }
def HostMatchesUptoCardSaid : Prop := Claim7.holds Tryd.pinned (.plain (OpenSpec.upto hostMatchesSpec)) hostMatchesUptoCard
end Rows
end Go.Proofs.YtpdomfifoplbnaaDoor
