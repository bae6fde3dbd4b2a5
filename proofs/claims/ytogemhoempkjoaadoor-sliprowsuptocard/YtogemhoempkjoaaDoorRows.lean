/-
  NARROWER THAN 'FOR EVERY INPUT', by the rows' own cells (each row's printed sentence says how): SlipSums: laid · SlipPuts: laid · SlipTakes: laid · SlipRows: laid · SlipTorn: laid · SlipSpoilt: laid.
  DERIVED. THE GIVEN ROWS OF THIS SEAT. 6 by the template 'for every input the law returns true; each argument reads behind the call as it read before'; 0 by the template 'total and deterministic' (their statements: YtogemhoempkjoaaDoorTotals.lean).
  GIVEN WITH THE SEED: the statements are not yours to turn. If you find one false, say at which input.
  Laid BY PROGRAM, IN A SANDBOX (cutbox-rows.mjs): the forced cells as the released guide's own fill.sh prints them over the translation bc0221ffffe11ff5… (all of the seat's roots in one cut). By AI agents, Wed Nov 11 2026. No macro, syntax, notation, axiom, sorry.
-/
import Derived.Test.YtogemhoempkjoaaDoorChecked
import GoSem.Claim
import GoSem.ClaimJoined
import GoSem.ClaimMapViews
import Derived.JoinedTies
import Derived.KernelRfl
namespace Go.Proofs.YtogemhoempkjoaaDoor
/- THE CELL 'sum', in the pinned program and in every row, IS THE sha256 OF THE DUMP (.gsa) THAT YtogemhoempkjoaaDoorProg.lean LOADS. Nothing in Lean hashes anything: it is a label: what it is worth is what the hold of that sum in a sandbox is worth. -/
noncomputable def Tryd.pinned : Pinned := { name := "ytogemhoempkjoaadoor", sum := "bc0221ffffe11ff580b725073294b04c756e4e6b4e75c9f9ef50bc7dee4d79bd", checked := Tryd.checked }
namespace Rows
def none {H : Type} : Left H := { results := [], args := [] }

/- WHAT THE LISTED PACKAGE-LEVEL VARIABLES READ AS WHEN THE CALL BEGINS. Each datum BY PROGRAM (the guide's laid-datum.mjs) off the statement by which the dump's own 'gosem.cut.vars' lays the variable. In a bare row this is a premise. The card (YtogemhoempkjoaaDoorCards.lean) ties it to the program's text. -/
def laid_chancery_slip_fallen {H : Type} : DataW H := .agg [.lit (.int .u32 0), .lit (.int .u32 498536548), .lit (.int .u32 997073096), .lit (.int .u32 651767980), .lit (.int .u32 1994146192), .lit (.int .u32 1802195444), .lit (.int .u32 1303535960), .lit (.int .u32 1342533948), .lit (.int .u32 3988292384), .lit (.int .u32 4027552580), .lit (.int .u32 3604390888), .lit (.int .u32 3412177804), .lit (.int .u32 2607071920), .lit (.int .u32 2262029012), .lit (.int .u32 2685067896), .lit (.int .u32 3183342108)]

/-- 'chancerylaw09.SlipSums': WHATEVER THE INPUT: true; the input reads as it did. -/
def slipSumsSpec : ChangeSpec := { name := "slipSums", fn := fun _ => fun
  | [d1, d2, d3] => { results := [.lit (.bool true)], args := [d1, d2, d3] }
  | _ => none }
def slipSumsRow : OpenClaim := { program := "ytogemhoempkjoaadoor", sum := "bc0221ffffe11ff580b725073294b04c756e4e6b4e75c9f9ef50bc7dee4d79bd", func := "chancery/chancerylaw09.SlipSums", spec := "slipSums", named := ["chancery/slip.fallen"], apart := false, laid := [("chancery/slip.fallen", laid_chancery_slip_fallen)] }
def SlipSumsSaid : Prop := slipSumsRow.holds Tryd.pinned (OpenSpec.ofChange slipSumsSpec)

/-- ITS FALSE NEIGHBOUR: 'it returns false'. Refute it at one input. -/
def slipSumsWrong : ChangeSpec := { name := "slipSums", fn := fun _ => fun
  | [d1, d2, d3] => { results := [.lit (.bool false)], args := [d1, d2, d3] }
  | _ => none }
def SlipSumsWrongFalsely : Prop := slipSumsRow.holds Tryd.pinned (OpenSpec.ofChange slipSumsWrong)

/-- 'chancerylaw09.SlipPuts': WHATEVER THE INPUT: true; the input reads as it did. -/
def slipPutsSpec : ChangeSpec := { name := "slipPuts", fn := fun _ => fun
  | [d1, d2] => { results := [.lit (.bool true)], args := [d1, d2] }
  | _ => none }
def slipPutsRow : OpenClaim := { program := "ytogemhoempkjoaadoor", sum := "bc0221ffffe11ff580b725073294b04c756e4e6b4e75c9f9ef50bc7dee4d79bd", func := "chancery/chancerylaw09.SlipPuts", spec := "slipPuts", named := ["chancery/slip.fallen"], apart := false, laid := [("chancery/slip.fallen", laid_chancery_slip_fallen)] }
def SlipPutsSaid : Prop := slipPutsRow.holds Tryd.pinned (OpenSpec.ofChange slipPutsSpec)

/-- ITS FALSE NEIGHBOUR: 'it returns false'. Refute it at one input. -/
def slipPutsWrong : ChangeSpec := { name := "slipPuts", fn := fun _ => fun
  | [d1, d2] => { results := [.lit (.bool false)], args := [d1, d2] }
  | _ => none }
def SlipPutsWrongFalsely : Prop := slipPutsRow.holds Tryd.pinned (OpenSpec.ofChange slipPutsWrong)

/-- 'chancerylaw09.SlipTakes': WHATEVER THE INPUT: true; the input reads as it did. -/
def slipTakesSpec : ChangeSpec := { name := "slipTakes", fn := fun _ => fun
  | [d] => { results := [.lit (.bool true)], args := [d] }
  | _ => none }
def slipTakesRow : OpenClaim := { program := "ytogemhoempkjoaadoor", sum := "bc0221ffffe11ff580b725073294b04c756e4e6b4e75c9f9ef50bc7dee4d79bd", func := "chancery/chancerylaw09.SlipTakes", spec := "slipTakes", named := ["chancery/slip.fallen"], apart := false, laid := [("chancery/slip.fallen", laid_chancery_slip_fallen)] }
def SlipTakesSaid : Prop := slipTakesRow.holds Tryd.pinned (OpenSpec.ofChange slipTakesSpec)

/-- ITS FALSE NEIGHBOUR: 'it returns false'. Refute it at one input. -/
def slipTakesWrong : ChangeSpec := { name := "slipTakes", fn := fun _ => fun
  | [d] => { results := [.lit (.bool false)], args := [d] }
  | _ => none }
def SlipTakesWrongFalsely : Prop := slipTakesRow.holds Tryd.pinned (OpenSpec.ofChange slipTakesWrong)

/-- 'chancerylaw09.SlipRows': WHATEVER THE INPUT: true; the input reads as it did. -/
def slipRowsSpec : ChangeSpec := { name := "slipRows", fn := fun _ => fun
  | [d1, d2] => { results := [.lit (.bool true)], args := [d1, d2] }
  | _ => none }
def slipRowsRow : OpenClaim := { program := "ytogemhoempkjoaadoor", sum := "bc0221ffffe11ff580b725073294b04c756e4e6b4e75c9f9ef50bc7dee4d79bd", func := "chancery/chancerylaw09.SlipRows", spec := "slipRows", unfollowed := true, recurses := true, named := ["chancery/slip.fallen"], apart := false, laid := [("chancery/slip.fallen", laid_chancery_slip_fallen)] }
def SlipRowsSaid : Prop := slipRowsRow.holds Tryd.pinned (OpenSpec.ofChange slipRowsSpec)

/-- ITS FALSE NEIGHBOUR: 'it returns false'. Refute it at one input. -/
def slipRowsWrong : ChangeSpec := { name := "slipRows", fn := fun _ => fun
  | [d1, d2] => { results := [.lit (.bool false)], args := [d1, d2] }
  | _ => none }
def SlipRowsWrongFalsely : Prop := slipRowsRow.holds Tryd.pinned (OpenSpec.ofChange slipRowsWrong)

/-- 'chancerylaw09.SlipTorn': WHATEVER THE INPUT: true; the input reads as it did. -/
def slipTornSpec : ChangeSpec := { name := "slipTorn", fn := fun _ => fun
  | [d1, d2] => { results := [.lit (.bool true)], args := [d1, d2] }
  | _ => none }
def slipTornRow : OpenClaim := { program := "ytogemhoempkjoaadoor", sum := "bc0221ffffe11ff580b725073294b04c756e4e6b4e75c9f9ef50bc7dee4d79bd", func := "chancery/chancerylaw09.SlipTorn", spec := "slipTorn", unfollowed := true, recurses := true, named := ["chancery/slip.fallen"], apart := false, laid := [("chancery/slip.fallen", laid_chancery_slip_fallen)] }
def SlipTornSaid : Prop := slipTornRow.holds Tryd.pinned (OpenSpec.ofChange slipTornSpec)

/-- ITS FALSE NEIGHBOUR: 'it returns false'. Refute it at one input. -/
def slipTornWrong : ChangeSpec := { name := "slipTorn", fn := fun _ => fun
  | [d1, d2] => { results := [.lit (.bool false)], args := [d1, d2] }
  | _ => none }
def SlipTornWrongFalsely : Prop := slipTornRow.holds Tryd.pinned (OpenSpec.ofChange slipTornWrong)

/-- 'chancerylaw09.SlipSpoilt': WHATEVER THE INPUT: true; the input reads as it did. -/
def slipSpoiltSpec : ChangeSpec := { name := "slipSpoilt", fn := fun _ => fun
  | [d1, d2] => { results := [.lit (.bool true)], args := [d1, d2] }
  | _ => none }
def slipSpoiltRow : OpenClaim := { program := "ytogemhoempkjoaadoor", sum := "bc0221ffffe11ff580b725073294b04c756e4e6b4e75c9f9ef50bc7dee4d79bd", func := "chancery/chancerylaw09.SlipSpoilt", spec := "slipSpoilt", named := ["chancery/slip.fallen"], apart := false, laid := [("chancery/slip.fallen", laid_chancery_slip_fallen)] }
def SlipSpoiltSaid : Prop := slipSpoiltRow.holds Tryd.pinned (OpenSpec.ofChange slipSpoiltSpec)

/-- ITS FALSE NEIGHBOUR: 'it returns false'. Refute it at one input. -/
def slipSpoiltWrong : ChangeSpec := { name := "slipSpoilt", fn := fun _ => fun
  | [d1, d2] => { results := [.lit (.bool false)], args := [d1, d2] }
  | _ => none }
def SlipSpoiltWrongFalsely : Prop := slipSpoiltRow.holds Tryd.pinned (OpenSpec.ofChange slipSpoiltWrong)

/- THE SECOND FORM. 'bulk': how many values and letters a reading holds, each counted each time it is reached (what is shared counts as often as it is met; a slice's spare places count too). A statement '..UptoSaid' is the law's where the arguments, and the package variables that the reading takes, are together of bulk at most 1048576: NARROWER than '..Said'. Prove '..Said' where nothing that the law and all that it calls make is longer than what came in: it says more and counts as full. Else prove '..UptoSaid'. A law counts once. -/
mutual
def uptoBulk {H : Type} : DataW H → Nat
  | .lit (.string bytes) => bytes.length + 1
  | .lit _ => 1
  | .nil => 1
  | .ptr d => uptoBulk d + 1
  | .slice elems spare => uptoBulkAll elems + uptoBulkAll spare + 1
  | .agg parts => uptoBulkAll parts + 1
  | .iface _ d => uptoBulk d + 1
  | .map entries => uptoBulkEntries entries + 1
  | .held _ => 1
def uptoBulkAll {H : Type} : List (DataW H) → Nat
  | [] => 0
  | d :: r => uptoBulk d + uptoBulkAll r
def uptoBulkEntries {H : Type} : List (Lit × DataW H) → Nat
  | [] => 0
  | x :: r => uptoBulkEntry x + uptoBulkEntries r
def uptoBulkEntry {H : Type} : Lit × DataW H → Nat
  | (.string bytes, d) => bytes.length + uptoBulk d + 1
  | (_, d) => uptoBulk d + 1
 end
def uptoSmall : (H : Type) → List (DataW H) → Bool := fun _ ds => decide (uptoBulkAll ds ≤ 1048576)
def OpenSpec.upto (s : _root_.Go.ChangeSpec) : _root_.Go.OpenSpec := { _root_.Go.OpenSpec.ofChange s with cond := some uptoSmall }

/-- 'chancerylaw09.SlipSums', WHERE WHAT IT READS IS OF BULK AT MOST 1048576: true; the input reads as it did. -/
def slipSumsUptoRow : OpenClaim := { program := "ytogemhoempkjoaadoor", sum := "bc0221ffffe11ff580b725073294b04c756e4e6b4e75c9f9ef50bc7dee4d79bd", func := "chancery/chancerylaw09.SlipSums", spec := "slipSums", named := ["chancery/slip.fallen"], apart := false, laid := [("chancery/slip.fallen", laid_chancery_slip_fallen)], narrowed := true }
def SlipSumsUptoSaid : Prop := slipSumsUptoRow.holds Tryd.pinned (OpenSpec.upto slipSumsSpec)

/-- 'chancerylaw09.SlipPuts', WHERE WHAT IT READS IS OF BULK AT MOST 1048576: true; the input reads as it did. -/
def slipPutsUptoRow : OpenClaim := { program := "ytogemhoempkjoaadoor", sum := "bc0221ffffe11ff580b725073294b04c756e4e6b4e75c9f9ef50bc7dee4d79bd", func := "chancery/chancerylaw09.SlipPuts", spec := "slipPuts", named := ["chancery/slip.fallen"], apart := false, laid := [("chancery/slip.fallen", laid_chancery_slip_fallen)], narrowed := true }
def SlipPutsUptoSaid : Prop := slipPutsUptoRow.holds Tryd.pinned (OpenSpec.upto slipPutsSpec)

/-- 'chancerylaw09.SlipTakes', WHERE WHAT IT READS IS OF BULK AT MOST 1048576: true; the input reads as it did. -/
def slipTakesUptoRow : OpenClaim := { program := "ytogemhoempkjoaadoor", sum := "bc0221ffffe11ff580b725073294b04c756e4e6b4e75c9f9ef50bc7dee4d79bd", func := "chancery/chancerylaw09.SlipTakes", spec := "slipTakes", named := ["chancery/slip.fallen"], apart := false, laid := [("chancery/slip.fallen", laid_chancery_slip_fallen)], narrowed := true }
def SlipTakesUptoSaid : Prop := slipTakesUptoRow.holds Tryd.pinned (OpenSpec.upto slipTakesSpec)

/-- 'chancerylaw09.SlipRows', WHERE WHAT IT READS IS OF BULK AT MOST 1048576: true; the input reads as it did. -/
def slipRowsUptoRow : OpenClaim := { program := "ytogemhoempkjoaadoor", sum := "bc0221ffffe11ff580b725073294b04c756e4e6b4e75c9f9ef50bc7dee4d79bd", func := "chancery/chancerylaw09.SlipRows", spec := "slipRows", unfollowed := true, recurses := true, named := ["chancery/slip.fallen"], apart := false, laid := [("chancery/slip.fallen", laid_chancery_slip_fallen)], narrowed := true }
def SlipRowsUptoSaid : Prop := slipRowsUptoRow.holds Tryd.pinned (OpenSpec.upto slipRowsSpec)

/-- 'chancerylaw09.SlipTorn', WHERE WHAT IT READS IS OF BULK AT MOST 1048576: true; the input reads as it did. -/
def slipTornUptoRow : OpenClaim := { program := "ytogemhoempkjoaadoor", sum := "bc0221ffffe11ff580b725073294b04c756e4e6b4e75c9f9ef50bc7dee4d79bd", func := "chancery/chancerylaw09.SlipTorn", spec := "slipTorn", unfollowed := true, recurses := true, named := ["chancery/slip.fallen"], apart := false, laid := [("chancery/slip.fallen", laid_chancery_slip_fallen)], narrowed := true }
def SlipTornUptoSaid : Prop := slipTornUptoRow.holds Tryd.pinned (OpenSpec.upto slipTornSpec)

/-- 'chancerylaw09.SlipSpoilt', WHERE WHAT IT READS IS OF BULK AT MOST 1048576: true; the input reads as it did. -/
def slipSpoiltUptoRow : OpenClaim := { program := "ytogemhoempkjoaadoor", sum := "bc0221ffffe11ff580b725073294b04c756e4e6b4e75c9f9ef50bc7dee4d79bd", func := "chancery/chancerylaw09.SlipSpoilt", spec := "slipSpoilt", named := ["chancery/slip.fallen"], apart := false, laid := [("chancery/slip.fallen", laid_chancery_slip_fallen)], narrowed := true }
def SlipSpoiltUptoSaid : Prop := slipSpoiltUptoRow.holds Tryd.pinned (OpenSpec.upto slipSpoiltSpec)

end Rows
end Go.Proofs.YtogemhoempkjoaaDoor
