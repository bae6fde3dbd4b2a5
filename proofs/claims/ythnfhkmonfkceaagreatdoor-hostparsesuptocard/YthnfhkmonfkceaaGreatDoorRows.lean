/-
  NARROWER THAN 'FOR EVERY INPUT', by the rows' own cells (each row's printed sentence says how): HostShows: laid · HostParses: laid · HostBack: laid.
  DERIVED. THE GIVEN ROWS OF THIS SEAT. 3 by the template 'for every input the law returns true; each argument reads behind the call as it read before'; 0 by the template 'total and deterministic' (their statements: YthnfhkmonfkceaaGreatDoorTotals.lean).
  GIVEN WITH THE SEED: the statements are not yours to turn. If you find one false, say at which input.
  Laid BY PROGRAM, IN A SANDBOX (cutbox-rows.mjs): the forced cells as the released guide's own fill.sh prints them over the translation b92316fa7c56f9cf… (all of the seat's roots in one cut). By AI agents, Wed Nov 11 2026. No macro, syntax, notation, axiom, sorry.
-/
import Derived.Test.YthnfhkmonfkceaaGreatDoorChecked
import GoSem.Claim
import GoSem.ClaimJoined
import GoSem.ClaimMapViews
import Derived.JoinedTies
import Derived.KernelRfl
namespace Go.Proofs.YthnfhkmonfkceaaGreatDoor
/- THE CELL 'sum', in the pinned program and in every row, IS THE sha256 OF THE DUMP (.gsa) THAT YthnfhkmonfkceaaGreatDoorProg.lean LOADS. Nothing in Lean hashes anything: it is a label: what it is worth is what the hold of that sum in a sandbox is worth. -/
noncomputable def Tryz.pinned : Pinned := { name := "ythnfhkmonfkceaagreatdoor", sum := "b92316fa7c56f9cfb6b7090c662e1d341a348bcc88bca7ac3359079b9a09b209", checked := Tryz.checked }
namespace Rows
def none {H : Type} : Left H := { results := [], args := [] }

/- WHAT THE LISTED PACKAGE-LEVEL VARIABLES READ AS WHEN THE CALL BEGINS. Each datum BY PROGRAM (the guide's laid-datum.mjs) off the statement by which the dump's own 'gosem.cut.vars' lays the variable. In a bare row this is a premise. The card (YthnfhkmonfkceaaGreatDoorCards.lean) ties it to the program's text. -/
def laid_chancery_name_labels {H : Type} : DataW H := .agg [.lit (.string []), .lit (.string []), .lit (.string []), .lit (.string [67, 78]), .lit (.string []), .lit (.string [83, 78]), .lit (.string [67]), .lit (.string [76]), .lit (.string [83, 84]), .lit (.string []), .lit (.string [79]), .lit (.string [79, 85])]
def laid_chancery_host_words {H : Type} : DataW H := .agg [.lit (.string []), .lit (.string [101, 109, 97, 105, 108]), .lit (.string [100, 110, 115]), .lit (.string []), .lit (.string [110, 97, 109, 101]), .lit (.string []), .lit (.string []), .lit (.string [105, 112])]

/-- 'chancerylaw13.HostShows': WHATEVER THE INPUT: true; the input reads as it did. -/
def hostShowsSpec : ChangeSpec := { name := "hostShows", fn := fun _ => fun
  | [d] => { results := [.lit (.bool true)], args := [d] }
  | _ => none }
def hostShowsRow : OpenClaim := { program := "ythnfhkmonfkceaagreatdoor", sum := "b92316fa7c56f9cfb6b7090c662e1d341a348bcc88bca7ac3359079b9a09b209", func := "chancery/chancerylaw13.HostShows", spec := "hostShows", inPlace := ["internal/bytealg.IndexByteString", "internal/bytealg.IndexString", "internal/abi.NoEscape", "internal/bytealg.MakeNoZero"], unfollowed := true, recurses := true, named := ["chancery/host.words", "internal/bytealg.MaxLen", "chancery/name.labels"], apart := false, laid := [("chancery/name.labels", laid_chancery_name_labels), ("chancery/host.words", laid_chancery_host_words)] }
def HostShowsSaid : Prop := hostShowsRow.holds Tryz.pinned (OpenSpec.ofChange hostShowsSpec)

/-- ITS FALSE NEIGHBOUR: 'it returns false'. Refute it at one input. -/
def hostShowsWrong : ChangeSpec := { name := "hostShows", fn := fun _ => fun
  | [d] => { results := [.lit (.bool false)], args := [d] }
  | _ => none }
def HostShowsWrongFalsely : Prop := hostShowsRow.holds Tryz.pinned (OpenSpec.ofChange hostShowsWrong)

/-- 'chancerylaw13.HostParses': WHATEVER THE INPUT: true; the input reads as it did. -/
def hostParsesSpec : ChangeSpec := { name := "hostParses", fn := fun _ => fun
  | [d] => { results := [.lit (.bool true)], args := [d] }
  | _ => none }
def hostParsesRow : OpenClaim := { program := "ythnfhkmonfkceaagreatdoor", sum := "b92316fa7c56f9cfb6b7090c662e1d341a348bcc88bca7ac3359079b9a09b209", func := "chancery/chancerylaw13.HostParses", spec := "hostParses", inPlace := ["internal/bytealg.IndexByteString", "internal/bytealg.IndexString", "internal/abi.NoEscape", "internal/bytealg.MakeNoZero"], unfollowed := true, recurses := true, named := ["internal/bytealg.MaxLen", "chancery/host.words", "chancery/name.labels"], apart := false, laid := [("chancery/name.labels", laid_chancery_name_labels), ("chancery/host.words", laid_chancery_host_words)] }
def HostParsesSaid : Prop := hostParsesRow.holds Tryz.pinned (OpenSpec.ofChange hostParsesSpec)

/-- ITS FALSE NEIGHBOUR: 'it returns false'. Refute it at one input. -/
def hostParsesWrong : ChangeSpec := { name := "hostParses", fn := fun _ => fun
  | [d] => { results := [.lit (.bool false)], args := [d] }
  | _ => none }
def HostParsesWrongFalsely : Prop := hostParsesRow.holds Tryz.pinned (OpenSpec.ofChange hostParsesWrong)

/-- 'chancerylaw13.HostBack': WHATEVER THE INPUT: true; the input reads as it did. -/
def hostBackSpec : ChangeSpec := { name := "hostBack", fn := fun _ => fun
  | [d1, d2] => { results := [.lit (.bool true)], args := [d1, d2] }
  | _ => none }
def hostBackRow : OpenClaim := { program := "ythnfhkmonfkceaagreatdoor", sum := "b92316fa7c56f9cfb6b7090c662e1d341a348bcc88bca7ac3359079b9a09b209", func := "chancery/chancerylaw13.HostBack", spec := "hostBack", inPlace := ["internal/bytealg.IndexByteString", "internal/bytealg.IndexString", "internal/abi.NoEscape", "internal/bytealg.MakeNoZero"], unfollowed := true, recurses := true, named := ["chancery/host.words", "internal/bytealg.MaxLen", "chancery/name.labels"], apart := false, laid := [("chancery/name.labels", laid_chancery_name_labels), ("chancery/host.words", laid_chancery_host_words)] }
def HostBackSaid : Prop := hostBackRow.holds Tryz.pinned (OpenSpec.ofChange hostBackSpec)

/-- ITS FALSE NEIGHBOUR: 'it returns false'. Refute it at one input. -/
def hostBackWrong : ChangeSpec := { name := "hostBack", fn := fun _ => fun
  | [d1, d2] => { results := [.lit (.bool false)], args := [d1, d2] }
  | _ => none }
def HostBackWrongFalsely : Prop := hostBackRow.holds Tryz.pinned (OpenSpec.ofChange hostBackWrong)

/- THE SECOND FORM. 'bulk': how many values and letters a reading holds, each counted each time it is reached (what is shared counts as often as it is met; a slice's spare places count too). A statement '..UptoSaid' is the law's where the arguments, and the package variables that the reading takes, are together of bulk at most 1048576: NARROWER than '..Said'. Prove '..Said' where nothing that the law and all that it calls make is longer than what came in: it says more and counts as full. Else prove '..UptoSaid'. A law counts once. -/
mutual
def uptoBulk {H : Type} : DataW H → Nat
  | .lit (.string bytes) => bytes.length + 1
  | .lit _ => 1
  | .nil => 1
  | .ptr d => uptoBulk d + 1
  | .slice elems spare => uptoBulkAll elems + uptoBulkAll spare + 1
  | .agg parts => uptoBulkAll parts + 1
  | .iface _ d => uptoBulk d + 1
  | .map entries => uptoBulkEntries entries + 1
  | .held _ => 1
def uptoBulkAll {H : Type} : List (DataW H) → Nat
  | [] => 0
  | d :: r => uptoBulk d + uptoBulkAll r
def uptoBulkEntries {H : Type} : List (Lit × DataW H) → Nat
  | [] => 0
  | x :: r => uptoBulkEntry x + uptoBulkEntries r
def uptoBulkEntry {H : Type} : Lit × DataW H → Nat
  | (.string bytes, d) => bytes.length + uptoBulk d + 1
  | (_, d) => uptoBulk d + 1
 end
def uptoSmall : (H : Type) → List (DataW H) → Bool := fun _ ds => decide (uptoBulkAll ds ≤ 1048576)
def OpenSpec.upto (s : _root_.Go.ChangeSpec) : _root_.Go.OpenSpec := { _root_.Go.OpenSpec.ofChange s with cond := some uptoSmall }

/-- 'chancerylaw13.HostShows', WHERE WHAT IT READS IS OF BULK AT MOST 1048576: true; the input reads as it did. -/
def hostShowsUptoRow : OpenClaim := { program := "ythnfhkmonfkceaagreatdoor", sum := "b92316fa7c56f9cfb6b7090c662e1d341a348bcc88bca7ac3359079b9a09b209", func := "chancery/chancerylaw13.HostShows", spec := "hostShows", inPlace := ["internal/bytealg.IndexByteString", "internal/bytealg.IndexString", "internal/abi.NoEscape", "internal/bytealg.MakeNoZero"], unfollowed := true, recurses := true, named := ["chancery/host.words", "internal/bytealg.MaxLen", "chancery/name.labels"], apart := false, laid := [("chancery/name.labels", laid_chancery_name_labels), ("chancery/host.words", laid_chancery_host_words)], narrowed := true }
def HostShowsUptoSaid : Prop := hostShowsUptoRow.holds Tryz.pinned (OpenSpec.upto hostShowsSpec)

/-- 'chancerylaw13.HostParses', WHERE WHAT IT READS IS OF BULK AT MOST 1048576: true; the input reads as it did. -/
def hostParsesUptoRow : OpenClaim := { program := "ythnfhkmonfkceaagreatdoor", sum := "b92316fa7c56f9cfb6b7090c662e1d341a348bcc88bca7ac3359079b9a09b209", func := "chancery/chancerylaw13.HostParses", spec := "hostParses", inPlace := ["internal/bytealg.IndexByteString", "internal/bytealg.IndexString", "internal/abi.NoEscape", "internal/bytealg.MakeNoZero"], unfollowed := true, recurses := true, named := ["internal/bytealg.MaxLen", "chancery/host.words", "chancery/name.labels"], apart := false, laid := [("chancery/name.labels", laid_chancery_name_labels), ("chancery/host.words", laid_chancery_host_words)], narrowed := true }
def HostParsesUptoSaid : Prop := hostParsesUptoRow.holds Tryz.pinned (OpenSpec.upto hostParsesSpec)

/-- 'chancerylaw13.HostBack', WHERE WHAT IT READS IS OF BULK AT MOST 1048576: true; the input reads as it did. -/
def hostBackUptoRow : OpenClaim := { program := "ythnfhkmonfkceaagreatdoor", sum := "b92316fa7c56f9cfb6b7090c662e1d341a348bcc88bca7ac3359079b9a09b209", func := "chancery/chancerylaw13.HostBack", spec := "hostBack", inPlace := ["internal/bytealg.IndexByteString", "internal/bytealg.IndexString", "internal/abi.NoEscape", "internal/bytealg.MakeNoZero"], unfollowed := true, recurses := true, named := ["chancery/host.words", "internal/bytealg.MaxLen", "chancery/name.labels"], apart := false, laid := [("chancery/name.labels", laid_chancery_name_labels), ("chancery/host.words", laid_chancery_host_words)], narrowed := true }
def HostBackUptoSaid : Prop := hostBackUptoRow.holds Tryz.pinned (OpenSpec.upto hostBackSpec)

end Rows
end Go.Proofs.YthnfhkmonfkceaaGreatDoor
