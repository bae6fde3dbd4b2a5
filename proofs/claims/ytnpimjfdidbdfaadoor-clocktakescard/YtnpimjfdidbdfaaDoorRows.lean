/-
  NARROWER THAN 'FOR EVERY INPUT', by the rows' own cells (each row's printed sentence says how): ClockCivils: laid · ClockSeconds: laid · ClockDays: laid · ClockPuts: laid · ClockTakes: laid · ClockBack: laid.
  DERIVED. THE GIVEN ROWS OF THIS SEAT. 6 by the template 'for every input the law returns true; each argument reads behind the call as it read before'; 0 by the template 'total and deterministic' (their statements: YtnpimjfdidbdfaaDoorTotals.lean).
  GIVEN WITH THE SEED: the statements are not yours to turn. If you find one false, say at which input.
  Laid BY PROGRAM, IN A SANDBOX (cutbox-rows.mjs): the forced cells as the released guide's own fill.sh prints them over the translation 6a2483a57c1e3d8e… (all of the seat's roots in one cut). By AI agents, Wed Nov 11 2026. No macro, syntax, notation, axiom, sorry.
-/
import Derived.Test.YtnpimjfdidbdfaaDoorChecked
import GoSem.Claim
import GoSem.ClaimJoined
import GoSem.ClaimMapViews
import Derived.JoinedTies
import Derived.KernelRfl
namespace Go.Proofs.YtnpimjfdidbdfaaDoor
/- THE CELL 'sum', in the pinned program and in every row, IS THE sha256 OF THE DUMP (.gsa) THAT YtnpimjfdidbdfaaDoorProg.lean LOADS. Nothing in Lean hashes anything: it is a label: what it is worth is what the hold of that sum in a sandbox is worth. -/
noncomputable def Tryd.pinned : Pinned := { name := "ytnpimjfdidbdfaadoor", sum := "6a2483a57c1e3d8e8dfe4ee079b4791662ff878dc80b454ab9b639f93e820c2e", checked := Tryd.checked }
namespace Rows
def none {H : Type} : Left H := { results := [], args := [] }

/- WHAT THE LISTED PACKAGE-LEVEL VARIABLES READ AS WHEN THE CALL BEGINS. Each datum BY PROGRAM (the guide's laid-datum.mjs) off the statement by which the dump's own 'gosem.cut.vars' lays the variable. In a bare row this is a premise. The card (YtnpimjfdidbdfaaDoorCards.lean) ties it to the program's text. -/
def laid_chancery_clock_monthDays {H : Type} : DataW H := .agg [.lit (.int .i64 31), .lit (.int .i64 28), .lit (.int .i64 31), .lit (.int .i64 30), .lit (.int .i64 31), .lit (.int .i64 30), .lit (.int .i64 31), .lit (.int .i64 31), .lit (.int .i64 30), .lit (.int .i64 31), .lit (.int .i64 30), .lit (.int .i64 31)]

/-- 'chancerylaw04.ClockCivils': WHATEVER THE INPUT: true; the input reads as it did. -/
def clockCivilsSpec : ChangeSpec := { name := "clockCivils", fn := fun _ => fun
  | [d] => { results := [.lit (.bool true)], args := [d] }
  | _ => none }
def clockCivilsRow : OpenClaim := { program := "ytnpimjfdidbdfaadoor", sum := "6a2483a57c1e3d8e8dfe4ee079b4791662ff878dc80b454ab9b639f93e820c2e", func := "chancery/chancerylaw04.ClockCivils", spec := "clockCivils", inPlace := ["internal/abi.NoEscape", "internal/bytealg.MakeNoZero"], named := ["chancery/clock.monthDays"], apart := false, laid := [("chancery/clock.monthDays", laid_chancery_clock_monthDays)] }
def ClockCivilsSaid : Prop := clockCivilsRow.holds Tryd.pinned (OpenSpec.ofChange clockCivilsSpec)

/-- ITS FALSE NEIGHBOUR: 'it returns false'. Refute it at one input. -/
def clockCivilsWrong : ChangeSpec := { name := "clockCivils", fn := fun _ => fun
  | [d] => { results := [.lit (.bool false)], args := [d] }
  | _ => none }
def ClockCivilsWrongFalsely : Prop := clockCivilsRow.holds Tryd.pinned (OpenSpec.ofChange clockCivilsWrong)

/-- 'chancerylaw04.ClockSeconds': WHATEVER THE INPUT: true; the input reads as it did. -/
def clockSecondsSpec : ChangeSpec := { name := "clockSeconds", fn := fun _ => fun
  | [d] => { results := [.lit (.bool true)], args := [d] }
  | _ => none }
def clockSecondsRow : OpenClaim := { program := "ytnpimjfdidbdfaadoor", sum := "6a2483a57c1e3d8e8dfe4ee079b4791662ff878dc80b454ab9b639f93e820c2e", func := "chancery/chancerylaw04.ClockSeconds", spec := "clockSeconds", named := ["chancery/clock.monthDays"], apart := false, laid := [("chancery/clock.monthDays", laid_chancery_clock_monthDays)] }
def ClockSecondsSaid : Prop := clockSecondsRow.holds Tryd.pinned (OpenSpec.ofChange clockSecondsSpec)

/-- ITS FALSE NEIGHBOUR: 'it returns false'. Refute it at one input. -/
def clockSecondsWrong : ChangeSpec := { name := "clockSeconds", fn := fun _ => fun
  | [d] => { results := [.lit (.bool false)], args := [d] }
  | _ => none }
def ClockSecondsWrongFalsely : Prop := clockSecondsRow.holds Tryd.pinned (OpenSpec.ofChange clockSecondsWrong)

/-- 'chancerylaw04.ClockDays': WHATEVER THE INPUT: true; the input reads as it did. -/
def clockDaysSpec : ChangeSpec := { name := "clockDays", fn := fun _ => fun
  | [d1, d2] => { results := [.lit (.bool true)], args := [d1, d2] }
  | _ => none }
def clockDaysRow : OpenClaim := { program := "ytnpimjfdidbdfaadoor", sum := "6a2483a57c1e3d8e8dfe4ee079b4791662ff878dc80b454ab9b639f93e820c2e", func := "chancery/chancerylaw04.ClockDays", spec := "clockDays", named := ["chancery/clock.monthDays"], apart := false, laid := [("chancery/clock.monthDays", laid_chancery_clock_monthDays)] }
def ClockDaysSaid : Prop := clockDaysRow.holds Tryd.pinned (OpenSpec.ofChange clockDaysSpec)

/-- ITS FALSE NEIGHBOUR: 'it returns false'. Refute it at one input. -/
def clockDaysWrong : ChangeSpec := { name := "clockDays", fn := fun _ => fun
  | [d1, d2] => { results := [.lit (.bool false)], args := [d1, d2] }
  | _ => none }
def ClockDaysWrongFalsely : Prop := clockDaysRow.holds Tryd.pinned (OpenSpec.ofChange clockDaysWrong)

/-- 'chancerylaw04.ClockPuts': WHATEVER THE INPUT: true; the input reads as it did. -/
def clockPutsSpec : ChangeSpec := { name := "clockPuts", fn := fun _ => fun
  | [d] => { results := [.lit (.bool true)], args := [d] }
  | _ => none }
def clockPutsRow : OpenClaim := { program := "ytnpimjfdidbdfaadoor", sum := "6a2483a57c1e3d8e8dfe4ee079b4791662ff878dc80b454ab9b639f93e820c2e", func := "chancery/chancerylaw04.ClockPuts", spec := "clockPuts", inPlace := ["internal/abi.NoEscape", "internal/bytealg.MakeNoZero"], named := ["chancery/clock.monthDays"], apart := false, laid := [("chancery/clock.monthDays", laid_chancery_clock_monthDays)] }
def ClockPutsSaid : Prop := clockPutsRow.holds Tryd.pinned (OpenSpec.ofChange clockPutsSpec)

/-- ITS FALSE NEIGHBOUR: 'it returns false'. Refute it at one input. -/
def clockPutsWrong : ChangeSpec := { name := "clockPuts", fn := fun _ => fun
  | [d] => { results := [.lit (.bool false)], args := [d] }
  | _ => none }
def ClockPutsWrongFalsely : Prop := clockPutsRow.holds Tryd.pinned (OpenSpec.ofChange clockPutsWrong)

/-- 'chancerylaw04.ClockTakes': WHATEVER THE INPUT: true; the input reads as it did. -/
def clockTakesSpec : ChangeSpec := { name := "clockTakes", fn := fun _ => fun
  | [d1, d2] => { results := [.lit (.bool true)], args := [d1, d2] }
  | _ => none }
def clockTakesRow : OpenClaim := { program := "ytnpimjfdidbdfaadoor", sum := "6a2483a57c1e3d8e8dfe4ee079b4791662ff878dc80b454ab9b639f93e820c2e", func := "chancery/chancerylaw04.ClockTakes", spec := "clockTakes", named := ["chancery/clock.monthDays"], apart := false, laid := [("chancery/clock.monthDays", laid_chancery_clock_monthDays)] }
def ClockTakesSaid : Prop := clockTakesRow.holds Tryd.pinned (OpenSpec.ofChange clockTakesSpec)

/-- ITS FALSE NEIGHBOUR: 'it returns false'. Refute it at one input. -/
def clockTakesWrong : ChangeSpec := { name := "clockTakes", fn := fun _ => fun
  | [d1, d2] => { results := [.lit (.bool false)], args := [d1, d2] }
  | _ => none }
def ClockTakesWrongFalsely : Prop := clockTakesRow.holds Tryd.pinned (OpenSpec.ofChange clockTakesWrong)

/-- 'chancerylaw04.ClockBack': WHATEVER THE INPUT: true; the input reads as it did. -/
def clockBackSpec : ChangeSpec := { name := "clockBack", fn := fun _ => fun
  | [d] => { results := [.lit (.bool true)], args := [d] }
  | _ => none }
def clockBackRow : OpenClaim := { program := "ytnpimjfdidbdfaadoor", sum := "6a2483a57c1e3d8e8dfe4ee079b4791662ff878dc80b454ab9b639f93e820c2e", func := "chancery/chancerylaw04.ClockBack", spec := "clockBack", inPlace := ["internal/abi.NoEscape", "internal/bytealg.MakeNoZero"], named := ["chancery/clock.monthDays"], apart := false, laid := [("chancery/clock.monthDays", laid_chancery_clock_monthDays)] }
def ClockBackSaid : Prop := clockBackRow.holds Tryd.pinned (OpenSpec.ofChange clockBackSpec)

/-- ITS FALSE NEIGHBOUR: 'it returns false'. Refute it at one input. -/
def clockBackWrong : ChangeSpec := { name := "clockBack", fn := fun _ => fun
  | [d] => { results := [.lit (.bool false)], args := [d] }
  | _ => none }
def ClockBackWrongFalsely : Prop := clockBackRow.holds Tryd.pinned (OpenSpec.ofChange clockBackWrong)

/- THE SECOND FORM. 'bulk': how many values and letters a reading holds, each counted each time it is reached (what is shared counts as often as it is met; a slice's spare places count too). A statement '..UptoSaid' is the law's where the arguments, and the package variables that the reading takes, are together of bulk at most 1048576: NARROWER than '..Said'. Prove '..Said' where nothing that the law and all that it calls make is longer than what came in: it says more and counts as full. Else prove '..UptoSaid'. A law counts once. -/
mutual
def uptoBulk {H : Type} : DataW H → Nat
  | .lit (.string bytes) => bytes.length + 1
  | .lit _ => 1
  | .nil => 1
  | .ptr d => uptoBulk d + 1
  | .slice elems spare => uptoBulkAll elems + uptoBulkAll spare + 1
  | .agg parts => uptoBulkAll parts + 1
  | .iface _ d => uptoBulk d + 1
  | .map entries => uptoBulkEntries entries + 1
  | .held _ => 1
def uptoBulkAll {H : Type} : List (DataW H) → Nat
  | [] => 0
  | d :: r => uptoBulk d + uptoBulkAll r
def uptoBulkEntries {H : Type} : List (Lit × DataW H) → Nat
  | [] => 0
  | x :: r => uptoBulkEntry x + uptoBulkEntries r
def uptoBulkEntry {H : Type} : Lit × DataW H → Nat
  | (.string bytes, d) => bytes.length + uptoBulk d + 1
  | (_, d) => uptoBulk d + 1
 end
def uptoSmall : (H : Type) → List (DataW H) → Bool := fun _ ds => decide (uptoBulkAll ds ≤ 1048576)
def OpenSpec.upto (s : _root_.Go.ChangeSpec) : _root_.Go.OpenSpec := { _root_.Go.OpenSpec.ofChange s with cond := some uptoSmall }

/-- 'chancerylaw04.ClockCivils', WHERE WHAT IT READS IS OF BULK AT MOST 1048576: true; the input reads as it did. -/
def clockCivilsUptoRow : OpenClaim := { program := "ytnpimjfdidbdfaadoor", sum := "6a2483a57c1e3d8e8dfe4ee079b4791662ff878dc80b454ab9b639f93e820c2e", func := "chancery/chancerylaw04.ClockCivils", spec := "clockCivils", inPlace := ["internal/abi.NoEscape", "internal/bytealg.MakeNoZero"], named := ["chancery/clock.monthDays"], apart := false, laid := [("chancery/clock.monthDays", laid_chancery_clock_monthDays)], narrowed := true }
def ClockCivilsUptoSaid : Prop := clockCivilsUptoRow.holds Tryd.pinned (OpenSpec.upto clockCivilsSpec)

/-- 'chancerylaw04.ClockSeconds', WHERE WHAT IT READS IS OF BULK AT MOST 1048576: true; the input reads as it did. -/
def clockSecondsUptoRow : OpenClaim := { program := "ytnpimjfdidbdfaadoor", sum := "6a2483a57c1e3d8e8dfe4ee079b4791662ff878dc80b454ab9b639f93e820c2e", func := "chancery/chancerylaw04.ClockSeconds", spec := "clockSeconds", named := ["chancery/clock.monthDays"], apart := false, laid := [("chancery/clock.monthDays", laid_chancery_clock_monthDays)], narrowed := true }
def ClockSecondsUptoSaid : Prop := clockSecondsUptoRow.holds Tryd.pinned (OpenSpec.upto clockSecondsSpec)

/-- 'chancerylaw04.ClockDays', WHERE WHAT IT READS IS OF BULK AT MOST 1048576: true; the input reads as it did. -/
def clockDaysUptoRow : OpenClaim := { program := "ytnpimjfdidbdfaadoor", sum := "6a2483a57c1e3d8e8dfe4ee079b4791662ff878dc80b454ab9b639f93e820c2e", func := "chancery/chancerylaw04.ClockDays", spec := "clockDays", named := ["chancery/clock.monthDays"], apart := false, laid := [("chancery/clock.monthDays", laid_chancery_clock_monthDays)], narrowed := true }
def ClockDaysUptoSaid : Prop := clockDaysUptoRow.holds Tryd.pinned (OpenSpec.upto clockDaysSpec)

/-- 'chancerylaw04.ClockPuts', WHERE WHAT IT READS IS OF BULK AT MOST 1048576: true; the input reads as it did. -/
def clockPutsUptoRow : OpenClaim := { program := "ytnpimjfdidbdfaadoor", sum := "6a2483a57c1e3d8e8dfe4ee079b4791662ff878dc80b454ab9b639f93e820c2e", func := "chancery/chancerylaw04.ClockPuts", spec := "clockPuts", inPlace := ["internal/abi.NoEscape", "internal/bytealg.MakeNoZero"], named := ["chancery/clock.monthDays"], apart := false, laid := [("chancery/clock.monthDays", laid_chancery_clock_monthDays)], narrowed := true }
def ClockPutsUptoSaid : Prop := clockPutsUptoRow.holds Tryd.pinned (OpenSpec.upto clockPutsSpec)

/-- 'chancerylaw04.ClockTakes', WHERE WHAT IT READS IS OF BULK AT MOST 1048576: true; the input reads as it did. -/
def clockTakesUptoRow : OpenClaim := { program := "ytnpimjfdidbdfaadoor", sum := "6a2483a57c1e3d8e8dfe4ee079b4791662ff878dc80b454ab9b639f93e820c2e", func := "chancery/chancerylaw04.ClockTakes", spec := "clockTakes", named := ["chancery/clock.monthDays"], apart := false, laid := [("chancery/clock.monthDays", laid_chancery_clock_monthDays)], narrowed := true }
def ClockTakesUptoSaid : Prop := clockTakesUptoRow.holds Tryd.pinned (OpenSpec.upto clockTakesSpec)

/-- 'chancerylaw04.ClockBack', WHERE WHAT IT READS IS OF BULK AT MOST 1048576: true; the input reads as it did. -/
def clockBackUptoRow : OpenClaim := { program := "ytnpimjfdidbdfaadoor", sum := "6a2483a57c1e3d8e8dfe4ee079b4791662ff878dc80b454ab9b639f93e820c2e", func := "chancery/chancerylaw04.ClockBack", spec := "clockBack", inPlace := ["internal/abi.NoEscape", "internal/bytealg.MakeNoZero"], named := ["chancery/clock.monthDays"], apart := false, laid := [("chancery/clock.monthDays", laid_chancery_clock_monthDays)], narrowed := true }
def ClockBackUptoSaid : Prop := clockBackUptoRow.holds Tryd.pinned (OpenSpec.upto clockBackSpec)

end Rows
end Go.Proofs.YtnpimjfdidbdfaaDoor
