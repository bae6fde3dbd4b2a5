/-
  NARROWER THAN 'FOR EVERY INPUT', by the rows' own cells (each row's printed sentence says how): NameEncodes: laid · NameParses: laid · NameBack: laid · NameOnce: laid.
  DERIVED. THE GIVEN ROWS OF THIS SEAT. 4 by the template 'for every input the law returns true; each argument reads behind the call as it read before'; 0 by the template 'total and deterministic' (their statements: YtgbbgfjamneioaaDoorTotals.lean).
  GIVEN WITH THE SEED: the statements are not yours to turn. If you find one false, say at which input.
  Laid BY PROGRAM, IN A SANDBOX (cutbox-rows.mjs): the forced cells as the released guide's own fill.sh prints them over the translation 6f7790646bbfcc8b… (all of the seat's roots in one cut). By AI agents, Wed Nov 11 2026. No macro, syntax, notation, axiom, sorry.
-/
import Derived.Test.YtgbbgfjamneioaaDoorChecked
import GoSem.Claim
import GoSem.ClaimJoined
import GoSem.ClaimMapViews
import Derived.JoinedTies
import Derived.KernelRfl
namespace Go.Proofs.YtgbbgfjamneioaaDoor
/- THE CELL 'sum', in the pinned program and in every row, IS THE sha256 OF THE DUMP (.gsa) THAT YtgbbgfjamneioaaDoorProg.lean LOADS. Nothing in Lean hashes anything: it is a label: what it is worth is what the hold of that sum in a sandbox is worth. -/
noncomputable def Tryd.pinned : Pinned := { name := "ytgbbgfjamneioaadoor", sum := "6f7790646bbfcc8b814cc8ca4d571a9928d6984934533b7569a155fd2b8244e3", checked := Tryd.checked }
namespace Rows
def none {H : Type} : Left H := { results := [], args := [] }

/- WHAT THE LISTED PACKAGE-LEVEL VARIABLES READ AS WHEN THE CALL BEGINS. Each datum BY PROGRAM (the guide's laid-datum.mjs) off the statement by which the dump's own 'gosem.cut.vars' lays the variable. In a bare row this is a premise. The card (YtgbbgfjamneioaaDoorCards.lean) ties it to the program's text. -/
def laid_chancery_name_labels {H : Type} : DataW H := .agg [.lit (.string []), .lit (.string []), .lit (.string []), .lit (.string [67, 78]), .lit (.string []), .lit (.string [83, 78]), .lit (.string [67]), .lit (.string [76]), .lit (.string [83, 84]), .lit (.string []), .lit (.string [79]), .lit (.string [79, 85])]

/-- 'chancerylaw12.NameEncodes': WHATEVER THE INPUT: true; the input reads as it did. -/
def nameEncodesSpec : ChangeSpec := { name := "nameEncodes", fn := fun _ => fun
  | [d] => { results := [.lit (.bool true)], args := [d] }
  | _ => none }
def nameEncodesRow : OpenClaim := { program := "ytgbbgfjamneioaadoor", sum := "6f7790646bbfcc8b814cc8ca4d571a9928d6984934533b7569a155fd2b8244e3", func := "chancery/chancerylaw12.NameEncodes", spec := "nameEncodes", inPlace := ["internal/bytealg.IndexByteString", "internal/bytealg.IndexString", "internal/abi.NoEscape", "internal/bytealg.MakeNoZero"], unfollowed := true, recurses := true, named := ["chancery/name.labels", "internal/bytealg.MaxLen"], apart := false, laid := [("chancery/name.labels", laid_chancery_name_labels)] }
def NameEncodesSaid : Prop := nameEncodesRow.holds Tryd.pinned (OpenSpec.ofChange nameEncodesSpec)

/-- ITS FALSE NEIGHBOUR: 'it returns false'. Refute it at one input. -/
def nameEncodesWrong : ChangeSpec := { name := "nameEncodes", fn := fun _ => fun
  | [d] => { results := [.lit (.bool false)], args := [d] }
  | _ => none }
def NameEncodesWrongFalsely : Prop := nameEncodesRow.holds Tryd.pinned (OpenSpec.ofChange nameEncodesWrong)

/-- 'chancerylaw12.NameParses': WHATEVER THE INPUT: true; the input reads as it did. -/
def nameParsesSpec : ChangeSpec := { name := "nameParses", fn := fun _ => fun
  | [d1, d2] => { results := [.lit (.bool true)], args := [d1, d2] }
  | _ => none }
def nameParsesRow : OpenClaim := { program := "ytgbbgfjamneioaadoor", sum := "6f7790646bbfcc8b814cc8ca4d571a9928d6984934533b7569a155fd2b8244e3", func := "chancery/chancerylaw12.NameParses", spec := "nameParses", inPlace := ["internal/bytealg.IndexByteString", "internal/bytealg.IndexString", "internal/abi.NoEscape", "internal/bytealg.MakeNoZero"], unfollowed := true, recurses := true, named := ["internal/bytealg.MaxLen", "chancery/name.labels"], apart := false, laid := [("chancery/name.labels", laid_chancery_name_labels)] }
def NameParsesSaid : Prop := nameParsesRow.holds Tryd.pinned (OpenSpec.ofChange nameParsesSpec)

/-- ITS FALSE NEIGHBOUR: 'it returns false'. Refute it at one input. -/
def nameParsesWrong : ChangeSpec := { name := "nameParses", fn := fun _ => fun
  | [d1, d2] => { results := [.lit (.bool false)], args := [d1, d2] }
  | _ => none }
def NameParsesWrongFalsely : Prop := nameParsesRow.holds Tryd.pinned (OpenSpec.ofChange nameParsesWrong)

/-- 'chancerylaw12.NameBack': WHATEVER THE INPUT: true; the input reads as it did. -/
def nameBackSpec : ChangeSpec := { name := "nameBack", fn := fun _ => fun
  | [d] => { results := [.lit (.bool true)], args := [d] }
  | _ => none }
def nameBackRow : OpenClaim := { program := "ytgbbgfjamneioaadoor", sum := "6f7790646bbfcc8b814cc8ca4d571a9928d6984934533b7569a155fd2b8244e3", func := "chancery/chancerylaw12.NameBack", spec := "nameBack", inPlace := ["internal/bytealg.IndexByteString", "internal/bytealg.IndexString", "internal/abi.NoEscape", "internal/bytealg.MakeNoZero"], unfollowed := true, recurses := true, named := ["chancery/name.labels", "internal/bytealg.MaxLen"], apart := false, laid := [("chancery/name.labels", laid_chancery_name_labels)] }
def NameBackSaid : Prop := nameBackRow.holds Tryd.pinned (OpenSpec.ofChange nameBackSpec)

/-- ITS FALSE NEIGHBOUR: 'it returns false'. Refute it at one input. -/
def nameBackWrong : ChangeSpec := { name := "nameBack", fn := fun _ => fun
  | [d] => { results := [.lit (.bool false)], args := [d] }
  | _ => none }
def NameBackWrongFalsely : Prop := nameBackRow.holds Tryd.pinned (OpenSpec.ofChange nameBackWrong)

/-- 'chancerylaw12.NameOnce': WHATEVER THE INPUT: true; the input reads as it did. -/
def nameOnceSpec : ChangeSpec := { name := "nameOnce", fn := fun _ => fun
  | [d1, d2] => { results := [.lit (.bool true)], args := [d1, d2] }
  | _ => none }
def nameOnceRow : OpenClaim := { program := "ytgbbgfjamneioaadoor", sum := "6f7790646bbfcc8b814cc8ca4d571a9928d6984934533b7569a155fd2b8244e3", func := "chancery/chancerylaw12.NameOnce", spec := "nameOnce", inPlace := ["internal/bytealg.IndexByteString", "internal/bytealg.IndexString", "internal/abi.NoEscape", "internal/bytealg.MakeNoZero"], unfollowed := true, recurses := true, named := ["internal/bytealg.MaxLen", "chancery/name.labels"], apart := false, laid := [("chancery/name.labels", laid_chancery_name_labels)] }
def NameOnceSaid : Prop := nameOnceRow.holds Tryd.pinned (OpenSpec.ofChange nameOnceSpec)

/-- ITS FALSE NEIGHBOUR: 'it returns false'. Refute it at one input. -/
def nameOnceWrong : ChangeSpec := { name := "nameOnce", fn := fun _ => fun
  | [d1, d2] => { results := [.lit (.bool false)], args := [d1, d2] }
  | _ => none }
def NameOnceWrongFalsely : Prop := nameOnceRow.holds Tryd.pinned (OpenSpec.ofChange nameOnceWrong)

/- THE SECOND FORM. 'bulk': how many values and letters a reading holds, each counted each time it is reached (what is shared counts as often as it is met; a slice's spare places count too). A statement '..UptoSaid' is the law's where the arguments, and the package variables that the reading takes, are together of bulk at most 1048576: NARROWER than '..Said'. Prove '..Said' where nothing that the law and all that it calls make is longer than what came in: it says more and counts as full. Else prove '..UptoSaid'. A law counts once. -/
mutual
def uptoBulk {H : Type} : DataW H → Nat
  | .lit (.string bytes) => bytes.length + 1
  | .lit _ => 1
  | .nil => 1
  | .ptr d => uptoBulk d + 1
  | .slice elems spare => uptoBulkAll elems + uptoBulkAll spare + 1
  | .agg parts => uptoBulkAll parts + 1
  | .iface _ d => uptoBulk d + 1
  | .map entries => uptoBulkEntries entries + 1
  | .held _ => 1
def uptoBulkAll {H : Type} : List (DataW H) → Nat
  | [] => 0
  | d :: r => uptoBulk d + uptoBulkAll r
def uptoBulkEntries {H : Type} : List (Lit × DataW H) → Nat
  | [] => 0
  | x :: r => uptoBulkEntry x + uptoBulkEntries r
def uptoBulkEntry {H : Type} : Lit × DataW H → Nat
  | (.string bytes, d) => bytes.length + uptoBulk d + 1
  | (_, d) => uptoBulk d + 1
 end
def uptoSmall : (H : Type) → List (DataW H) → Bool := fun _ ds => decide (uptoBulkAll ds ≤ 1048576)
def OpenSpec.upto (s : _root_.Go.ChangeSpec) : _root_.Go.OpenSpec := { _root_.Go.OpenSpec.ofChange s with cond := some uptoSmall }

/-- 'chancerylaw12.NameEncodes', WHERE WHAT IT READS IS OF BULK AT MOST 1048576: true; the input reads as it did. -/
def nameEncodesUptoRow : OpenClaim := { program := "ytgbbgfjamneioaadoor", sum := "6f7790646bbfcc8b814cc8ca4d571a9928d6984934533b7569a155fd2b8244e3", func := "chancery/chancerylaw12.NameEncodes", spec := "nameEncodes", inPlace := ["internal/bytealg.IndexByteString", "internal/bytealg.IndexString", "internal/abi.NoEscape", "internal/bytealg.MakeNoZero"], unfollowed := true, recurses := true, named := ["chancery/name.labels", "internal/bytealg.MaxLen"], apart := false, laid := [("chancery/name.labels", laid_chancery_name_labels)], narrowed := true }
def NameEncodesUptoSaid : Prop := nameEncodesUptoRow.holds Tryd.pinned (OpenSpec.upto nameEncodesSpec)

/-- 'chancerylaw12.NameParses', WHERE WHAT IT READS IS OF BULK AT MOST 1048576: true; the input reads as it did. -/
def nameParsesUptoRow : OpenClaim := { program := "ytgbbgfjamneioaadoor", sum := "6f7790646bbfcc8b814cc8ca4d571a9928d6984934533b7569a155fd2b8244e3", func := "chancery/chancerylaw12.NameParses", spec := "nameParses", inPlace := ["internal/bytealg.IndexByteString", "internal/bytealg.IndexString", "internal/abi.NoEscape", "internal/bytealg.MakeNoZero"], unfollowed := true, recurses := true, named := ["internal/bytealg.MaxLen", "chancery/name.labels"], apart := false, laid := [("chancery/name.labels", laid_chancery_name_labels)], narrowed := true }
def NameParsesUptoSaid : Prop := nameParsesUptoRow.holds Tryd.pinned (OpenSpec.upto nameParsesSpec)

/-- 'chancerylaw12.NameBack', WHERE WHAT IT READS IS OF BULK AT MOST 1048576: true; the input reads as it did. -/
def nameBackUptoRow : OpenClaim := { program := "ytgbbgfjamneioaadoor", sum := "6f7790646bbfcc8b814cc8ca4d571a9928d6984934533b7569a155fd2b8244e3", func := "chancery/chancerylaw12.NameBack", spec := "nameBack", inPlace := ["internal/bytealg.IndexByteString", "internal/bytealg.IndexString", "internal/abi.NoEscape", "internal/bytealg.MakeNoZero"], unfollowed := true, recurses := true, named := ["chancery/name.labels", "internal/bytealg.MaxLen"], apart := false, laid := [("chancery/name.labels", laid_chancery_name_labels)], narrowed := true }
def NameBackUptoSaid : Prop := nameBackUptoRow.holds Tryd.pinned (OpenSpec.upto nameBackSpec)

/-- 'chancerylaw12.NameOnce', WHERE WHAT IT READS IS OF BULK AT MOST 1048576: true; the input reads as it did. -/
def nameOnceUptoRow : OpenClaim := { program := "ytgbbgfjamneioaadoor", sum := "6f7790646bbfcc8b814cc8ca4d571a9928d6984934533b7569a155fd2b8244e3", func := "chancery/chancerylaw12.NameOnce", spec := "nameOnce", inPlace := ["internal/bytealg.IndexByteString", "internal/bytealg.IndexString", "internal/abi.NoEscape", "internal/bytealg.MakeNoZero"], unfollowed := true, recurses := true, named := ["internal/bytealg.MaxLen", "chancery/name.labels"], apart := false, laid := [("chancery/name.labels", laid_chancery_name_labels)], narrowed := true }
def NameOnceUptoSaid : Prop := nameOnceUptoRow.holds Tryd.pinned (OpenSpec.upto nameOnceSpec)

end Rows
end Go.Proofs.YtgbbgfjamneioaaDoor
