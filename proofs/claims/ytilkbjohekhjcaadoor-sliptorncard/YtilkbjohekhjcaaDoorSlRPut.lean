/-
  The document's Bytes and Put.
-/
import Derived.Test.YtilkbjohekhjcaaDoorSlRef
import Derived.Test.YtilkbjohekhjcaaDoorSlPut
import Derived.Test.YtilkbjohekhjcaaDoorStep
namespace Go.Proofs.YtilkbjohekhjcaaDoor
open Go.RowKit Go.IntWalk

def sh (s : Int) : Nat → Int
  | 0 => s
  | 1 => s / 256
  | 2 => s / 65536
  | 3 => s / 16777216
  | _ => 0
theorem sh_next (s : Int) (hs : 0 ≤ s ∧ s < 4294967296) (j : Nat) (hj : j < 4) : sh s j / 256 = sh s (j + 1) ∧ 0 ≤ sh s j ∧ sh s j < 4294967296 ∧ (le4b s).take (j + 1) = (le4b s).take j ++ [sh s j % 256] := by
  match j, hj with
  | 0, _ => exact ⟨rfl, hs.1, hs.2, rfl⟩
  | 1, _ => exact ⟨by show s / 256 / 256 = s / 65536; omega, by show 0 ≤ s / 256; omega, by show s / 256 < 4294967296; omega, rfl⟩
  | 2, _ => exact ⟨by show s / 65536 / 256 = s / 16777216; omega, by show 0 ≤ s / 65536; omega, by show s / 65536 < 4294967296; omega, rfl⟩
  | 3, _ => exact ⟨by show s / 16777216 / 256 = 0; omega, by show 0 ≤ s / 16777216; omega, by show s / 16777216 < 4294967296; omega, rfl⟩

end Go.Proofs.YtilkbjohekhjcaaDoor
