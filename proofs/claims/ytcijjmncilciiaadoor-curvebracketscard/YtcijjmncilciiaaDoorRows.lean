/-
  NARROWER THAN 'FOR EVERY INPUT', by the rows' own cells (each row's printed sentence says how): CurveAdds: laid · CurveMuls: laid · CurveGroup: laid · CurveBrackets: laid · CurveCodes: laid.
  DERIVED. THE GIVEN ROWS OF THIS SEAT. 5 by the template 'for every input the law returns true; each argument reads behind the call as it read before'; 0 by the template 'total and deterministic' (their statements: YtcijjmncilciiaaDoorTotals.lean).
  GIVEN WITH THE SEED: the statements are not yours to turn. If you find one false, say at which input.
  Laid BY PROGRAM, IN A SANDBOX (cutbox-rows.mjs): the forced cells as the released guide's own fill.sh prints them over the translation 2b23a0394fdbcc50… (all of the seat's roots in one cut). By AI agents, Wed Nov 11 2026. No macro, syntax, notation, axiom, sorry.
-/
import Derived.Test.YtcijjmncilciiaaDoorChecked
import GoSem.PinnedTables
import GoSem.Claim
import GoSem.ClaimJoined
import GoSem.ClaimMapViews
import Derived.JoinedTies
import Derived.KernelRfl
namespace Go.Proofs.YtcijjmncilciiaaDoor
/- THE CELL 'sum', in the pinned program and in every row, IS THE sha256 OF THE DUMP (.gsa) THAT YtcijjmncilciiaaDoorProg.lean LOADS. Nothing in Lean hashes anything: it is a label: what it is worth is what the hold of that sum in a sandbox is worth. -/
noncomputable def Tryd.pinned : Pinned := { name := "ytcijjmncilciiaadoor", sum := "2b23a0394fdbcc50a6ba91365bd1f3e6d498cf6f01e9ed6c7a463c6f8d525045", checked := Tryd.checked }
namespace Rows
def none {H : Type} : Left H := { results := [], args := [] }

/- WHAT THE LISTED PACKAGE-LEVEL VARIABLES READ AS WHEN THE CALL BEGINS. Each datum BY PROGRAM (the guide's laid-datum.mjs) off the statement by which the dump's own 'gosem.cut.vars' lays the variable. In a bare row this is a premise. The card (YtcijjmncilciiaaDoorCards.lean) ties it to the program's text. -/
def laid_chancery_curve_order {H : Type} : DataW H := .agg [.lit (.int .u64 17562291160714782033), .lit (.int .u64 13611842547513532036), .lit (.int .u64 18446744073709551615), .lit (.int .u64 18446744069414584320)]
def laid_chancery_curve_baseX {H : Type} : DataW H := .agg [.lit (.int .u64 17627433388654248598), .lit (.int .u64 8575836109218198432), .lit (.int .u64 17923454489921339634), .lit (.int .u64 7716867327612699207)]
def laid_chancery_curve_baseY {H : Type} : DataW H := .agg [.lit (.int .u64 14678990851816772085), .lit (.int .u64 3156516839386865358), .lit (.int .u64 10297457778147434006), .lit (.int .u64 5756518291402817435)]
def laid_chancery_curve_one {H : Type} : DataW H := .agg [.lit (.int .u64 1), .lit (.int .u64 18446744069414584320), .lit (.int .u64 18446744073709551615), .lit (.int .u64 4294967294)]
def laid_chancery_curve_lift {H : Type} : DataW H := .agg [.lit (.int .u64 3), .lit (.int .u64 18446744056529682431), .lit (.int .u64 18446744073709551614), .lit (.int .u64 21474836477)]
def laid_chancery_curve_coefficient {H : Type} : DataW H := .agg [.lit (.int .u64 4309448131093880907), .lit (.int .u64 7285987128567378166), .lit (.int .u64 12964664127075681980), .lit (.int .u64 6540974713487397863)]
def laid_unicode_utf8_acceptRanges {H : Type} : DataW H := .agg [.agg [.lit (.int .u8 128), .lit (.int .u8 191)], .agg [.lit (.int .u8 160), .lit (.int .u8 191)], .agg [.lit (.int .u8 128), .lit (.int .u8 159)], .agg [.lit (.int .u8 144), .lit (.int .u8 191)], .agg [.lit (.int .u8 128), .lit (.int .u8 143)], .agg [.lit (.int .u8 0), .lit (.int .u8 0)], .agg [.lit (.int .u8 0), .lit (.int .u8 0)], .agg [.lit (.int .u8 0), .lit (.int .u8 0)], .agg [.lit (.int .u8 0), .lit (.int .u8 0)], .agg [.lit (.int .u8 0), .lit (.int .u8 0)], .agg [.lit (.int .u8 0), .lit (.int .u8 0)], .agg [.lit (.int .u8 0), .lit (.int .u8 0)], .agg [.lit (.int .u8 0), .lit (.int .u8 0)], .agg [.lit (.int .u8 0), .lit (.int .u8 0)], .agg [.lit (.int .u8 0), .lit (.int .u8 0)], .agg [.lit (.int .u8 0), .lit (.int .u8 0)]]
/-- One of Go's own tables, pinned by name: the form's constant. -/
def laid_unicode_utf8_first : DataW Unit := Go.Pinned.utf8First

/-- 'chancerylaw10.CurveAdds': WHATEVER THE INPUT: true; the input reads as it did. -/
def curveAddsSpec : ChangeSpec := { name := "curveAdds", fn := fun _ => fun
  | [d1, d2, d3] => { results := [.lit (.bool true)], args := [d1, d2, d3] }
  | _ => none }
def curveAddsRow : OpenClaim := { program := "ytcijjmncilciiaadoor", sum := "2b23a0394fdbcc50a6ba91365bd1f3e6d498cf6f01e9ed6c7a463c6f8d525045", func := "chancery/chancerylaw10.CurveAdds", spec := "curveAdds", inPlace := ["math/bits.Sub64", "math/bits.Add64"], unfollowed := true, recurses := true, named := ["chancery/curve.coefficient", "chancery/curve.lift", "chancery/curve.one", "chancery/curve.order", "chancery/curve.baseX", "chancery/curve.baseY"], apart := false, laid := [("chancery/curve.order", laid_chancery_curve_order), ("chancery/curve.baseX", laid_chancery_curve_baseX), ("chancery/curve.baseY", laid_chancery_curve_baseY), ("chancery/curve.one", laid_chancery_curve_one), ("chancery/curve.lift", laid_chancery_curve_lift), ("chancery/curve.coefficient", laid_chancery_curve_coefficient)] }
def CurveAddsSaid : Prop := curveAddsRow.holds Tryd.pinned (OpenSpec.ofChange curveAddsSpec)

/-- ITS FALSE NEIGHBOUR: 'it returns false'. Refute it at one input. -/
def curveAddsWrong : ChangeSpec := { name := "curveAdds", fn := fun _ => fun
  | [d1, d2, d3] => { results := [.lit (.bool false)], args := [d1, d2, d3] }
  | _ => none }
def CurveAddsWrongFalsely : Prop := curveAddsRow.holds Tryd.pinned (OpenSpec.ofChange curveAddsWrong)

/-- 'chancerylaw10.CurveMuls': WHATEVER THE INPUT: true; the input reads as it did. -/
def curveMulsSpec : ChangeSpec := { name := "curveMuls", fn := fun _ => fun
  | [d1, d2] => { results := [.lit (.bool true)], args := [d1, d2] }
  | _ => none }
def curveMulsRow : OpenClaim := { program := "ytcijjmncilciiaadoor", sum := "2b23a0394fdbcc50a6ba91365bd1f3e6d498cf6f01e9ed6c7a463c6f8d525045", func := "chancery/chancerylaw10.CurveMuls", spec := "curveMuls", inPlace := ["math/bits.Sub64", "math/bits.Add64"], unfollowed := true, recurses := true, named := ["chancery/curve.coefficient", "chancery/curve.lift", "chancery/curve.one", "chancery/curve.order", "chancery/curve.baseX", "chancery/curve.baseY"], apart := false, laid := [("chancery/curve.order", laid_chancery_curve_order), ("chancery/curve.baseX", laid_chancery_curve_baseX), ("chancery/curve.baseY", laid_chancery_curve_baseY), ("chancery/curve.one", laid_chancery_curve_one), ("chancery/curve.lift", laid_chancery_curve_lift), ("chancery/curve.coefficient", laid_chancery_curve_coefficient)] }
def CurveMulsSaid : Prop := curveMulsRow.holds Tryd.pinned (OpenSpec.ofChange curveMulsSpec)

/-- ITS FALSE NEIGHBOUR: 'it returns false'. Refute it at one input. -/
def curveMulsWrong : ChangeSpec := { name := "curveMuls", fn := fun _ => fun
  | [d1, d2] => { results := [.lit (.bool false)], args := [d1, d2] }
  | _ => none }
def CurveMulsWrongFalsely : Prop := curveMulsRow.holds Tryd.pinned (OpenSpec.ofChange curveMulsWrong)

/-- 'chancerylaw10.CurveGroup': WHATEVER THE INPUT: true; the input reads as it did. -/
def curveGroupSpec : ChangeSpec := { name := "curveGroup", fn := fun _ => fun
  | [d1, d2] => { results := [.lit (.bool true)], args := [d1, d2] }
  | _ => none }
def curveGroupRow : OpenClaim := { program := "ytcijjmncilciiaadoor", sum := "2b23a0394fdbcc50a6ba91365bd1f3e6d498cf6f01e9ed6c7a463c6f8d525045", func := "chancery/chancerylaw10.CurveGroup", spec := "curveGroup", inPlace := ["math/bits.Sub64", "math/bits.Add64"], unfollowed := true, recurses := true, named := ["chancery/curve.baseX", "chancery/curve.baseY", "chancery/curve.coefficient", "chancery/curve.lift", "chancery/curve.one", "chancery/curve.order", "unicode/utf8.first", "unicode/utf8.acceptRanges", "math/bits.divideError", "math/bits.overflowError"], apart := false, laid := [("unicode/utf8.acceptRanges", laid_unicode_utf8_acceptRanges), ("chancery/curve.order", laid_chancery_curve_order), ("chancery/curve.baseX", laid_chancery_curve_baseX), ("chancery/curve.baseY", laid_chancery_curve_baseY), ("chancery/curve.one", laid_chancery_curve_one), ("chancery/curve.lift", laid_chancery_curve_lift), ("chancery/curve.coefficient", laid_chancery_curve_coefficient), ("unicode/utf8.first", laid_unicode_utf8_first)] }
def CurveGroupSaid : Prop := curveGroupRow.holds Tryd.pinned (OpenSpec.ofChange curveGroupSpec)

/-- ITS FALSE NEIGHBOUR: 'it returns false'. Refute it at one input. -/
def curveGroupWrong : ChangeSpec := { name := "curveGroup", fn := fun _ => fun
  | [d1, d2] => { results := [.lit (.bool false)], args := [d1, d2] }
  | _ => none }
def CurveGroupWrongFalsely : Prop := curveGroupRow.holds Tryd.pinned (OpenSpec.ofChange curveGroupWrong)

/-- 'chancerylaw10.CurveBrackets': WHATEVER THE INPUT: true; the input reads as it did. -/
def curveBracketsSpec : ChangeSpec := { name := "curveBrackets", fn := fun _ => fun
  | [d1, d2, d3] => { results := [.lit (.bool true)], args := [d1, d2, d3] }
  | _ => none }
def curveBracketsRow : OpenClaim := { program := "ytcijjmncilciiaadoor", sum := "2b23a0394fdbcc50a6ba91365bd1f3e6d498cf6f01e9ed6c7a463c6f8d525045", func := "chancery/chancerylaw10.CurveBrackets", spec := "curveBrackets", inPlace := ["math/bits.Sub64", "math/bits.Add64"], unfollowed := true, recurses := true, named := ["chancery/curve.baseX", "chancery/curve.baseY", "chancery/curve.coefficient", "chancery/curve.lift", "chancery/curve.one"], apart := false, laid := [("chancery/curve.baseX", laid_chancery_curve_baseX), ("chancery/curve.baseY", laid_chancery_curve_baseY), ("chancery/curve.one", laid_chancery_curve_one), ("chancery/curve.lift", laid_chancery_curve_lift), ("chancery/curve.coefficient", laid_chancery_curve_coefficient)] }
def CurveBracketsSaid : Prop := curveBracketsRow.holds Tryd.pinned (OpenSpec.ofChange curveBracketsSpec)

/-- ITS FALSE NEIGHBOUR: 'it returns false'. Refute it at one input. -/
def curveBracketsWrong : ChangeSpec := { name := "curveBrackets", fn := fun _ => fun
  | [d1, d2, d3] => { results := [.lit (.bool false)], args := [d1, d2, d3] }
  | _ => none }
def CurveBracketsWrongFalsely : Prop := curveBracketsRow.holds Tryd.pinned (OpenSpec.ofChange curveBracketsWrong)

/-- 'chancerylaw10.CurveCodes': WHATEVER THE INPUT: true; the input reads as it did. -/
def curveCodesSpec : ChangeSpec := { name := "curveCodes", fn := fun _ => fun
  | [d] => { results := [.lit (.bool true)], args := [d] }
  | _ => none }
def curveCodesRow : OpenClaim := { program := "ytcijjmncilciiaadoor", sum := "2b23a0394fdbcc50a6ba91365bd1f3e6d498cf6f01e9ed6c7a463c6f8d525045", func := "chancery/chancerylaw10.CurveCodes", spec := "curveCodes", inPlace := ["math/bits.Sub64", "math/bits.Add64"], unfollowed := true, recurses := true, named := ["chancery/curve.baseX", "chancery/curve.baseY", "chancery/curve.coefficient", "chancery/curve.lift", "chancery/curve.one", "chancery/curve.order"], apart := false, laid := [("chancery/curve.order", laid_chancery_curve_order), ("chancery/curve.baseX", laid_chancery_curve_baseX), ("chancery/curve.baseY", laid_chancery_curve_baseY), ("chancery/curve.one", laid_chancery_curve_one), ("chancery/curve.lift", laid_chancery_curve_lift), ("chancery/curve.coefficient", laid_chancery_curve_coefficient)] }
def CurveCodesSaid : Prop := curveCodesRow.holds Tryd.pinned (OpenSpec.ofChange curveCodesSpec)

/-- ITS FALSE NEIGHBOUR: 'it returns false'. Refute it at one input. -/
def curveCodesWrong : ChangeSpec := { name := "curveCodes", fn := fun _ => fun
  | [d] => { results := [.lit (.bool false)], args := [d] }
  | _ => none }
def CurveCodesWrongFalsely : Prop := curveCodesRow.holds Tryd.pinned (OpenSpec.ofChange curveCodesWrong)

/- THE SECOND FORM. 'bulk': how many values and letters a reading holds, each counted each time it is reached (what is shared counts as often as it is met; a slice's spare places count too). A statement '..UptoSaid' is the law's where the arguments, and the package variables that the reading takes, are together of bulk at most 1048576: NARROWER than '..Said'. Prove '..Said' where nothing that the law and all that it calls make is longer than what came in: it says more and counts as full. Else prove '..UptoSaid'. A law counts once. -/
mutual
def uptoBulk {H : Type} : DataW H → Nat
  | .lit (.string bytes) => bytes.length + 1
  | .lit _ => 1
  | .nil => 1
  | .ptr d => uptoBulk d + 1
  | .slice elems spare => uptoBulkAll elems + uptoBulkAll spare + 1
  | .agg parts => uptoBulkAll parts + 1
  | .iface _ d => uptoBulk d + 1
  | .map entries => uptoBulkEntries entries + 1
  | .held _ => 1
def uptoBulkAll {H : Type} : List (DataW H) → Nat
  | [] => 0
  | d :: r => uptoBulk d + uptoBulkAll r
def uptoBulkEntries {H : Type} : List (Lit × DataW H) → Nat
  | [] => 0
  | x :: r => uptoBulkEntry x + uptoBulkEntries r
def uptoBulkEntry {H : Type} : Lit × DataW H → Nat
  | (.string bytes, d) => bytes.length + uptoBulk d + 1
  | (_, d) => uptoBulk d + 1
 end
def uptoSmall : (H : Type) → List (DataW H) → Bool := fun _ ds => decide (uptoBulkAll ds ≤ 1048576)
def OpenSpec.upto (s : _root_.Go.ChangeSpec) : _root_.Go.OpenSpec := { _root_.Go.OpenSpec.ofChange s with cond := some uptoSmall }

/-- 'chancerylaw10.CurveAdds', WHERE WHAT IT READS IS OF BULK AT MOST 1048576: true; the input reads as it did. -/
def curveAddsUptoRow : OpenClaim := { program := "ytcijjmncilciiaadoor", sum := "2b23a0394fdbcc50a6ba91365bd1f3e6d498cf6f01e9ed6c7a463c6f8d525045", func := "chancery/chancerylaw10.CurveAdds", spec := "curveAdds", inPlace := ["math/bits.Sub64", "math/bits.Add64"], unfollowed := true, recurses := true, named := ["chancery/curve.coefficient", "chancery/curve.lift", "chancery/curve.one", "chancery/curve.order", "chancery/curve.baseX", "chancery/curve.baseY"], apart := false, laid := [("chancery/curve.order", laid_chancery_curve_order), ("chancery/curve.baseX", laid_chancery_curve_baseX), ("chancery/curve.baseY", laid_chancery_curve_baseY), ("chancery/curve.one", laid_chancery_curve_one), ("chancery/curve.lift", laid_chancery_curve_lift), ("chancery/curve.coefficient", laid_chancery_curve_coefficient)], narrowed := true }
def CurveAddsUptoSaid : Prop := curveAddsUptoRow.holds Tryd.pinned (OpenSpec.upto curveAddsSpec)

/-- 'chancerylaw10.CurveMuls', WHERE WHAT IT READS IS OF BULK AT MOST 1048576: true; the input reads as it did. -/
def curveMulsUptoRow : OpenClaim := { program := "ytcijjmncilciiaadoor", sum := "2b23a0394fdbcc50a6ba91365bd1f3e6d498cf6f01e9ed6c7a463c6f8d525045", func := "chancery/chancerylaw10.CurveMuls", spec := "curveMuls", inPlace := ["math/bits.Sub64", "math/bits.Add64"], unfollowed := true, recurses := true, named := ["chancery/curve.coefficient", "chancery/curve.lift", "chancery/curve.one", "chancery/curve.order", "chancery/curve.baseX", "chancery/curve.baseY"], apart := false, laid := [("chancery/curve.order", laid_chancery_curve_order), ("chancery/curve.baseX", laid_chancery_curve_baseX), ("chancery/curve.baseY", laid_chancery_curve_baseY), ("chancery/curve.one", laid_chancery_curve_one), ("chancery/curve.lift", laid_chancery_curve_lift), ("chancery/curve.coefficient", laid_chancery_curve_coefficient)], narrowed := true }
def CurveMulsUptoSaid : Prop := curveMulsUptoRow.holds Tryd.pinned (OpenSpec.upto curveMulsSpec)

/-- 'chancerylaw10.CurveGroup', WHERE WHAT IT READS IS OF BULK AT MOST 1048576: true; the input reads as it did. -/
def curveGroupUptoRow : OpenClaim := { program := "ytcijjmncilciiaadoor", sum := "2b23a0394fdbcc50a6ba91365bd1f3e6d498cf6f01e9ed6c7a463c6f8d525045", func := "chancery/chancerylaw10.CurveGroup", spec := "curveGroup", inPlace := ["math/bits.Sub64", "math/bits.Add64"], unfollowed := true, recurses := true, named := ["chancery/curve.baseX", "chancery/curve.baseY", "chancery/curve.coefficient", "chancery/curve.lift", "chancery/curve.one", "chancery/curve.order", "unicode/utf8.first", "unicode/utf8.acceptRanges", "math/bits.divideError", "math/bits.overflowError"], apart := false, laid := [("unicode/utf8.acceptRanges", laid_unicode_utf8_acceptRanges), ("chancery/curve.order", laid_chancery_curve_order), ("chancery/curve.baseX", laid_chancery_curve_baseX), ("chancery/curve.baseY", laid_chancery_curve_baseY), ("chancery/curve.one", laid_chancery_curve_one), ("chancery/curve.lift", laid_chancery_curve_lift), ("chancery/curve.coefficient", laid_chancery_curve_coefficient), ("unicode/utf8.first", laid_unicode_utf8_first)], narrowed := true }
def CurveGroupUptoSaid : Prop := curveGroupUptoRow.holds Tryd.pinned (OpenSpec.upto curveGroupSpec)

/-- 'chancerylaw10.CurveBrackets', WHERE WHAT IT READS IS OF BULK AT MOST 1048576: true; the input reads as it did. -/
def curveBracketsUptoRow : OpenClaim := { program := "ytcijjmncilciiaadoor", sum := "2b23a0394fdbcc50a6ba91365bd1f3e6d498cf6f01e9ed6c7a463c6f8d525045", func := "chancery/chancerylaw10.CurveBrackets", spec := "curveBrackets", inPlace := ["math/bits.Sub64", "math/bits.Add64"], unfollowed := true, recurses := true, named := ["chancery/curve.baseX", "chancery/curve.baseY", "chancery/curve.coefficient", "chancery/curve.lift", "chancery/curve.one"], apart := false, laid := [("chancery/curve.baseX", laid_chancery_curve_baseX), ("chancery/curve.baseY", laid_chancery_curve_baseY), ("chancery/curve.one", laid_chancery_curve_one), ("chancery/curve.lift", laid_chancery_curve_lift), ("chancery/curve.coefficient", laid_chancery_curve_coefficient)], narrowed := true }
def CurveBracketsUptoSaid : Prop := curveBracketsUptoRow.holds Tryd.pinned (OpenSpec.upto curveBracketsSpec)

/-- 'chancerylaw10.CurveCodes', WHERE WHAT IT READS IS OF BULK AT MOST 1048576: true; the input reads as it did. -/
def curveCodesUptoRow : OpenClaim := { program := "ytcijjmncilciiaadoor", sum := "2b23a0394fdbcc50a6ba91365bd1f3e6d498cf6f01e9ed6c7a463c6f8d525045", func := "chancery/chancerylaw10.CurveCodes", spec := "curveCodes", inPlace := ["math/bits.Sub64", "math/bits.Add64"], unfollowed := true, recurses := true, named := ["chancery/curve.baseX", "chancery/curve.baseY", "chancery/curve.coefficient", "chancery/curve.lift", "chancery/curve.one", "chancery/curve.order"], apart := false, laid := [("chancery/curve.order", laid_chancery_curve_order), ("chancery/curve.baseX", laid_chancery_curve_baseX), ("chancery/curve.baseY", laid_chancery_curve_baseY), ("chancery/curve.one", laid_chancery_curve_one), ("chancery/curve.lift", laid_chancery_curve_lift), ("chancery/curve.coefficient", laid_chancery_curve_coefficient)], narrowed := true }
def CurveCodesUptoSaid : Prop := curveCodesUptoRow.holds Tryd.pinned (OpenSpec.upto curveCodesSpec)

end Rows
end Go.Proofs.YtcijjmncilciiaaDoor
