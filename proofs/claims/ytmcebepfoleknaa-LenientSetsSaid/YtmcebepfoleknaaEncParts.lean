/- encode.parts: the fields of a field that has something. -/
import Derived.Test.YtmcebepfoleknaaV3
import Derived.Test.YtmcebepfoleknaaSk2
import Derived.Test.YtmcebepfoleknaaV2
import Derived.Lib.ConvBytes
set_option linter.unusedVariables false
namespace Go.Proofs.Ytmcebepfoleknaa
open Go.RowKit
/-- What a field's parts are: number, wire type, number held, bytes. -/
def partW (m : MV) (num t i : Int) : List (Int × Int × Nat × List UInt8) := if t = 10 then m.l.map (fun s => (num, 2, 0, s.data.toList)) else if 7 ≤ t ∧ t ≤ 9 then [(num, 2, 0, (m.text i).data.toList)] else if t = 3 then [(num, 0, (zig (wrap64 (m.num i : Nat))).toNat, [])] else [(num, (wireN t : Nat), m.num i, [])]
end Go.Proofs.Ytmcebepfoleknaa
