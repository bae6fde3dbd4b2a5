/-
  No cell of these rows narrows 'for every input' (looked for: loops, veiled, ifaces, maps, wideKeys, modest, calm, conditions, laid).
  DERIVED. THE GIVEN ROWS OF THIS SEAT. 4 by the template 'for every input the law returns true; each argument reads behind the call as it read before'; 0 by the template 'total and deterministic' (their statements: YtibhlhfnddmelaaTotals.lean).
  GIVEN WITH THE SEED: the statements are not yours to turn. If you find one false, say at which input.
  Laid BY PROGRAM, IN A SANDBOX (cutbox-rows.mjs): the forced cells as the released guide's own fill.sh prints them over the translation 48543371e05d4308… (all of the seat's roots in one cut). By AI agents, Wed Nov 11 2026. No macro, syntax, notation, axiom, sorry.
-/
import Derived.Test.YtibhlhfnddmelaaChecked
import GoSem.Claim
import GoSem.ClaimJoined
import GoSem.ClaimMapViews
import Derived.JoinedTies
import Derived.KernelRfl
namespace Go.Proofs.Ytibhlhfnddmelaa
/- THE CELL 'sum', in the pinned program and in every row, IS THE sha256 OF THE DUMP (.gsa) THAT YtibhlhfnddmelaaProg.lean LOADS. Nothing in Lean hashes anything: it is a label: what it is worth is what the hold of that sum in a sandbox is worth. -/
noncomputable def Try.pinned : Pinned := { name := "ytibhlhfnddmelaa", sum := "48543371e05d430852969210dd862a7306ed85ef972a2aae3796a5af987f1415", checked := Try.checked }
namespace Rows
def none {H : Type} : Left H := { results := [], args := [] }

/-- 'chancerylaw03.OidDecodes': WHATEVER THE INPUT: true; the input reads as it did. -/
def oidDecodesSpec : ChangeSpec := { name := "oidDecodes", fn := fun _ => fun
  | [d] => { results := [.lit (.bool true)], args := [d] }
  | _ => none }
def oidDecodesRow : OpenClaim := { program := "ytibhlhfnddmelaa", sum := "48543371e05d430852969210dd862a7306ed85ef972a2aae3796a5af987f1415", func := "chancery/chancerylaw03.OidDecodes", spec := "oidDecodes", unfollowed := true, recurses := true, apart := false }
def OidDecodesSaid : Prop := oidDecodesRow.holds Try.pinned (OpenSpec.ofChange oidDecodesSpec)

/-- ITS FALSE NEIGHBOUR: 'it returns false'. Refute it at one input. -/
def oidDecodesWrong : ChangeSpec := { name := "oidDecodes", fn := fun _ => fun
  | [d] => { results := [.lit (.bool false)], args := [d] }
  | _ => none }
def OidDecodesWrongFalsely : Prop := oidDecodesRow.holds Try.pinned (OpenSpec.ofChange oidDecodesWrong)

/-- 'chancerylaw03.OidParses': WHATEVER THE INPUT: true; the input reads as it did. -/
def oidParsesSpec : ChangeSpec := { name := "oidParses", fn := fun _ => fun
  | [d] => { results := [.lit (.bool true)], args := [d] }
  | _ => none }
def oidParsesRow : OpenClaim := { program := "ytibhlhfnddmelaa", sum := "48543371e05d430852969210dd862a7306ed85ef972a2aae3796a5af987f1415", func := "chancery/chancerylaw03.OidParses", spec := "oidParses", inPlace := ["internal/bytealg.IndexByteString", "internal/bytealg.IndexString"], unfollowed := true, recurses := true, named := ["internal/bytealg.MaxLen"], apart := false }
def OidParsesSaid : Prop := oidParsesRow.holds Try.pinned (OpenSpec.ofChange oidParsesSpec)

/-- ITS FALSE NEIGHBOUR: 'it returns false'. Refute it at one input. -/
def oidParsesWrong : ChangeSpec := { name := "oidParses", fn := fun _ => fun
  | [d] => { results := [.lit (.bool false)], args := [d] }
  | _ => none }
def OidParsesWrongFalsely : Prop := oidParsesRow.holds Try.pinned (OpenSpec.ofChange oidParsesWrong)

/-- 'chancerylaw03.OidCompares': WHATEVER THE INPUT: true; the input reads as it did. -/
def oidComparesSpec : ChangeSpec := { name := "oidCompares", fn := fun _ => fun
  | [d1, d2] => { results := [.lit (.bool true)], args := [d1, d2] }
  | _ => none }
def oidComparesRow : OpenClaim := { program := "ytibhlhfnddmelaa", sum := "48543371e05d430852969210dd862a7306ed85ef972a2aae3796a5af987f1415", func := "chancery/chancerylaw03.OidCompares", spec := "oidCompares", apart := false }
def OidComparesSaid : Prop := oidComparesRow.holds Try.pinned (OpenSpec.ofChange oidComparesSpec)

/-- ITS FALSE NEIGHBOUR: 'it returns false'. Refute it at one input. -/
def oidComparesWrong : ChangeSpec := { name := "oidCompares", fn := fun _ => fun
  | [d1, d2] => { results := [.lit (.bool false)], args := [d1, d2] }
  | _ => none }
def OidComparesWrongFalsely : Prop := oidComparesRow.holds Try.pinned (OpenSpec.ofChange oidComparesWrong)

/-- 'chancerylaw03.OidArcs': WHATEVER THE INPUT: true; the input reads as it did. -/
def oidArcsSpec : ChangeSpec := { name := "oidArcs", fn := fun _ => fun
  | [d1, d2] => { results := [.lit (.bool true)], args := [d1, d2] }
  | _ => none }
def oidArcsRow : OpenClaim := { program := "ytibhlhfnddmelaa", sum := "48543371e05d430852969210dd862a7306ed85ef972a2aae3796a5af987f1415", func := "chancery/chancerylaw03.OidArcs", spec := "oidArcs", unfollowed := true, recurses := true, apart := false }
def OidArcsSaid : Prop := oidArcsRow.holds Try.pinned (OpenSpec.ofChange oidArcsSpec)

/-- ITS FALSE NEIGHBOUR: 'it returns false'. Refute it at one input. -/
def oidArcsWrong : ChangeSpec := { name := "oidArcs", fn := fun _ => fun
  | [d1, d2] => { results := [.lit (.bool false)], args := [d1, d2] }
  | _ => none }
def OidArcsWrongFalsely : Prop := oidArcsRow.holds Try.pinned (OpenSpec.ofChange oidArcsWrong)

/- THE SECOND FORM. 'bulk': how many values and letters a reading holds, each counted each time it is reached (what is shared counts as often as it is met; a slice's spare places count too). A statement '..UptoSaid' is the law's where the arguments, and the package variables that the reading takes, are together of bulk at most 1048576: NARROWER than '..Said'. Prove '..Said' where nothing that the law and all that it calls make is longer than what came in: it says more and counts as full. Else prove '..UptoSaid'. A law counts once. -/
mutual
def uptoBulk {H : Type} : DataW H → Nat
  | .lit (.string bytes) => bytes.length + 1
  | .lit _ => 1
  | .nil => 1
  | .ptr d => uptoBulk d + 1
  | .slice elems spare => uptoBulkAll elems + uptoBulkAll spare + 1
  | .agg parts => uptoBulkAll parts + 1
  | .iface _ d => uptoBulk d + 1
  | .map entries => uptoBulkEntries entries + 1
  | .held _ => 1
def uptoBulkAll {H : Type} : List (DataW H) → Nat
  | [] => 0
  | d :: r => uptoBulk d + uptoBulkAll r
def uptoBulkEntries {H : Type} : List (Lit × DataW H) → Nat
  | [] => 0
  | x :: r => uptoBulkEntry x + uptoBulkEntries r
def uptoBulkEntry {H : Type} : Lit × DataW H → Nat
  | (.string bytes, d) => bytes.length + uptoBulk d + 1
  | (_, d) => uptoBulk d + 1
 end
def uptoSmall : (H : Type) → List (DataW H) → Bool := fun _ ds => decide (uptoBulkAll ds ≤ 1048576)
def OpenSpec.upto (s : _root_.Go.ChangeSpec) : _root_.Go.OpenSpec := { _root_.Go.OpenSpec.ofChange s with cond := some uptoSmall }

/-- 'chancerylaw03.OidDecodes', WHERE WHAT IT READS IS OF BULK AT MOST 1048576: true; the input reads as it did. -/
def oidDecodesUptoRow : OpenClaim := { program := "ytibhlhfnddmelaa", sum := "48543371e05d430852969210dd862a7306ed85ef972a2aae3796a5af987f1415", func := "chancery/chancerylaw03.OidDecodes", spec := "oidDecodes", unfollowed := true, recurses := true, apart := false, narrowed := true }
def OidDecodesUptoSaid : Prop := oidDecodesUptoRow.holds Try.pinned (OpenSpec.upto oidDecodesSpec)

/-- 'chancerylaw03.OidParses', WHERE WHAT IT READS IS OF BULK AT MOST 1048576: true; the input reads as it did. -/
def oidParsesUptoRow : OpenClaim := { program := "ytibhlhfnddmelaa", sum := "48543371e05d430852969210dd862a7306ed85ef972a2aae3796a5af987f1415", func := "chancery/chancerylaw03.OidParses", spec := "oidParses", inPlace := ["internal/bytealg.IndexByteString", "internal/bytealg.IndexString"], unfollowed := true, recurses := true, named := ["internal/bytealg.MaxLen"], apart := false, narrowed := true }
def OidParsesUptoSaid : Prop := oidParsesUptoRow.holds Try.pinned (OpenSpec.upto oidParsesSpec)

/-- 'chancerylaw03.OidCompares', WHERE WHAT IT READS IS OF BULK AT MOST 1048576: true; the input reads as it did. -/
def oidComparesUptoRow : OpenClaim := { program := "ytibhlhfnddmelaa", sum := "48543371e05d430852969210dd862a7306ed85ef972a2aae3796a5af987f1415", func := "chancery/chancerylaw03.OidCompares", spec := "oidCompares", apart := false, narrowed := true }
def OidComparesUptoSaid : Prop := oidComparesUptoRow.holds Try.pinned (OpenSpec.upto oidComparesSpec)

/-- 'chancerylaw03.OidArcs', WHERE WHAT IT READS IS OF BULK AT MOST 1048576: true; the input reads as it did. -/
def oidArcsUptoRow : OpenClaim := { program := "ytibhlhfnddmelaa", sum := "48543371e05d430852969210dd862a7306ed85ef972a2aae3796a5af987f1415", func := "chancery/chancerylaw03.OidArcs", spec := "oidArcs", unfollowed := true, recurses := true, apart := false, narrowed := true }
def OidArcsUptoSaid : Prop := oidArcsUptoRow.holds Try.pinned (OpenSpec.upto oidArcsSpec)

end Rows
end Go.Proofs.Ytibhlhfnddmelaa
