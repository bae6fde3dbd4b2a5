/-
  No cell of these rows narrows 'for every input' (looked for: loops, veiled, ifaces, maps, wideKeys, modest, calm, conditions, laid).
  DERIVED. THE GIVEN ROWS OF THIS SEAT. 3 by the template 'for every input the law returns true; each argument reads behind the call as it read before'; 0 by the template 'total and deterministic' (their statements: YtdoijgkdmfchaabTotals.lean).
  GIVEN WITH THE SEED: the statements are not yours to turn. If you find one false, say at which input.
  Laid BY PROGRAM, IN A SANDBOX (cutbox-rows.mjs): the forced cells as the released guide's own fill.sh prints them over the translation 0f575635ee69b8c9… (all of the seat's roots in one cut). By AI agents, Wed Nov 11 2026. No macro, syntax, notation, axiom, sorry.
-/
import Derived.Test.YtdoijgkdmfchaabChecked
import GoSem.Claim
import GoSem.ClaimJoined
import GoSem.ClaimMapViews
import Derived.JoinedTies
import Derived.KernelRfl
namespace Go.Proofs.Ytdoijgkdmfchaab
/- THE CELL 'sum', in the pinned program and in every row, IS THE sha256 OF THE DUMP (.gsa) THAT YtdoijgkdmfchaabProg.lean LOADS. Nothing in Lean hashes anything: it is a label: what it is worth is what the hold of that sum in a sandbox is worth. -/
noncomputable def Try.pinned : Pinned := { name := "ytdoijgkdmfchaab", sum := "0f575635ee69b8c973fbee452195f49e78d58266d332cf37937e05bfd533e3a6", checked := Try.checked }
namespace Rows
def none {H : Type} : Left H := { results := [], args := [] }

/-- 'chancerylaw01.DerBack': WHATEVER THE INPUT: true; the input reads as it did. -/
def derBackSpec : ChangeSpec := { name := "derBack", fn := fun _ => fun
  | [d1, d2] => { results := [.lit (.bool true)], args := [d1, d2] }
  | _ => none }
def derBackRow : OpenClaim := { program := "ytdoijgkdmfchaab", sum := "0f575635ee69b8c973fbee452195f49e78d58266d332cf37937e05bfd533e3a6", func := "chancery/chancerylaw01.DerBack", spec := "derBack", unfollowed := true, recurses := true, apart := false }
def DerBackSaid : Prop := derBackRow.holds Try.pinned (OpenSpec.ofChange derBackSpec)

/-- ITS FALSE NEIGHBOUR: 'it returns false'. Refute it at one input. -/
def derBackWrong : ChangeSpec := { name := "derBack", fn := fun _ => fun
  | [d1, d2] => { results := [.lit (.bool false)], args := [d1, d2] }
  | _ => none }
def DerBackWrongFalsely : Prop := derBackRow.holds Try.pinned (OpenSpec.ofChange derBackWrong)

/-- 'chancerylaw01.DerAgain': WHATEVER THE INPUT: true; the input reads as it did. -/
def derAgainSpec : ChangeSpec := { name := "derAgain", fn := fun _ => fun
  | [d] => { results := [.lit (.bool true)], args := [d] }
  | _ => none }
def derAgainRow : OpenClaim := { program := "ytdoijgkdmfchaab", sum := "0f575635ee69b8c973fbee452195f49e78d58266d332cf37937e05bfd533e3a6", func := "chancery/chancerylaw01.DerAgain", spec := "derAgain", unfollowed := true, recurses := true, apart := false }
def DerAgainSaid : Prop := derAgainRow.holds Try.pinned (OpenSpec.ofChange derAgainSpec)

/-- ITS FALSE NEIGHBOUR: 'it returns false'. Refute it at one input. -/
def derAgainWrong : ChangeSpec := { name := "derAgain", fn := fun _ => fun
  | [d] => { results := [.lit (.bool false)], args := [d] }
  | _ => none }
def DerAgainWrongFalsely : Prop := derAgainRow.holds Try.pinned (OpenSpec.ofChange derAgainWrong)

/-- 'chancerylaw01.DerBegins': WHATEVER THE INPUT: true; the input reads as it did. -/
def derBeginsSpec : ChangeSpec := { name := "derBegins", fn := fun _ => fun
  | [d1, d2] => { results := [.lit (.bool true)], args := [d1, d2] }
  | _ => none }
def derBeginsRow : OpenClaim := { program := "ytdoijgkdmfchaab", sum := "0f575635ee69b8c973fbee452195f49e78d58266d332cf37937e05bfd533e3a6", func := "chancery/chancerylaw01.DerBegins", spec := "derBegins", apart := false }
def DerBeginsSaid : Prop := derBeginsRow.holds Try.pinned (OpenSpec.ofChange derBeginsSpec)

/-- ITS FALSE NEIGHBOUR: 'it returns false'. Refute it at one input. -/
def derBeginsWrong : ChangeSpec := { name := "derBegins", fn := fun _ => fun
  | [d1, d2] => { results := [.lit (.bool false)], args := [d1, d2] }
  | _ => none }
def DerBeginsWrongFalsely : Prop := derBeginsRow.holds Try.pinned (OpenSpec.ofChange derBeginsWrong)

/- THE SECOND FORM. 'bulk': how many values and letters a reading holds, each counted each time it is reached (what is shared counts as often as it is met; a slice's spare places count too). A statement '..UptoSaid' is the law's where the arguments, and the package variables that the reading takes, are together of bulk at most 1048576: NARROWER than '..Said'. Prove '..Said' where nothing that the law and all that it calls make is longer than what came in: it says more and counts as full. Else prove '..UptoSaid'. A law counts once. -/
mutual
def uptoBulk {H : Type} : DataW H → Nat
  | .lit (.string bytes) => bytes.length + 1
  | .lit _ => 1
  | .nil => 1
  | .ptr d => uptoBulk d + 1
  | .slice elems spare => uptoBulkAll elems + uptoBulkAll spare + 1
  | .agg parts => uptoBulkAll parts + 1
  | .iface _ d => uptoBulk d + 1
  | .map entries => uptoBulkEntries entries + 1
  | .held _ => 1
def uptoBulkAll {H : Type} : List (DataW H) → Nat
  | [] => 0
  | d :: r => uptoBulk d + uptoBulkAll r
def uptoBulkEntries {H : Type} : List (Lit × DataW H) → Nat
  | [] => 0
  | x :: r => uptoBulkEntry x + uptoBulkEntries r
def uptoBulkEntry {H : Type} : Lit × DataW H → Nat
  | (.string bytes, d) => bytes.length + uptoBulk d + 1
  | (_, d) => uptoBulk d + 1
 end
def uptoSmall : (H : Type) → List (DataW H) → Bool := fun _ ds => decide (uptoBulkAll ds ≤ 1048576)
def OpenSpec.upto (s : _root_.Go.ChangeSpec) : _root_.Go.OpenSpec := { _root_.Go.OpenSpec.ofChange s with cond := some uptoSmall }

/-- 'chancerylaw01.DerBack', WHERE WHAT IT READS IS OF BULK AT MOST 1048576: true; the input reads as it did. -/
def derBackUptoRow : OpenClaim := { program := "ytdoijgkdmfchaab", sum := "0f575635ee69b8c973fbee452195f49e78d58266d332cf37937e05bfd533e3a6", func := "chancery/chancerylaw01.DerBack", spec := "derBack", unfollowed := true, recurses := true, apart := false, narrowed := true }
def DerBackUptoSaid : Prop := derBackUptoRow.holds Try.pinned (OpenSpec.upto derBackSpec)

/-- 'chancerylaw01.DerAgain', WHERE WHAT IT READS IS OF BULK AT MOST 1048576: true; the input reads as it did. -/
def derAgainUptoRow : OpenClaim := { program := "ytdoijgkdmfchaab", sum := "0f575635ee69b8c973fbee452195f49e78d58266d332cf37937e05bfd533e3a6", func := "chancery/chancerylaw01.DerAgain", spec := "derAgain", unfollowed := true, recurses := true, apart := false, narrowed := true }
def DerAgainUptoSaid : Prop := derAgainUptoRow.holds Try.pinned (OpenSpec.upto derAgainSpec)

/-- 'chancerylaw01.DerBegins', WHERE WHAT IT READS IS OF BULK AT MOST 1048576: true; the input reads as it did. -/
def derBeginsUptoRow : OpenClaim := { program := "ytdoijgkdmfchaab", sum := "0f575635ee69b8c973fbee452195f49e78d58266d332cf37937e05bfd533e3a6", func := "chancery/chancerylaw01.DerBegins", spec := "derBegins", apart := false, narrowed := true }
def DerBeginsUptoSaid : Prop := derBeginsUptoRow.holds Try.pinned (OpenSpec.upto derBeginsSpec)

end Rows
end Go.Proofs.Ytdoijgkdmfchaab
