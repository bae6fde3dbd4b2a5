/-
  For any bytes, OidDecodes answers true. No condition.
-/
import Derived.Test.YtlhibocacdjleaaDecSaid
import Derived.Test.YtlhibocacdjleaaODec
namespace Go.Proofs.Ytlhibocacdjleaa

theorem oidDecodes_holds : Rows.OidDecodesSaid := oidDecodes.over fun ao n cap xs w hs hN => callsIn_wide.1 (decode_in ao n cap xs w hs hN)
#print axioms oidDecodes_holds
end Go.Proofs.Ytlhibocacdjleaa
