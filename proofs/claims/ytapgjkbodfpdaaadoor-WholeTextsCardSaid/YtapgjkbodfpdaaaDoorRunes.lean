/- The document's Runes (layer 3). -/
import Derived.Test.YtapgjkbodfpdaaaDoorProg
import Derived.Test.YtapgjkbodfpdaaaDoorBase
import Derived.Test.YtapgjkbodfpdaaaDoorFirst
set_option linter.unusedVariables false
namespace Go.Proofs.YtapgjkbodfpdaaaDoor
open Go.RowKit
def rv (n : Nat) : Value := .int .i32 (n : Int)
theorem Tryd.info21 : (Tryd.prog.info? 21).map (fun i => (i.zero, i.size, i.bytes)) = some (some (.int .i32 0), 1, 4) := by kernel_rfl
/-- The runes of a text; none of what is none. -/
def runesOf (bs : List UInt8) : List Nat := if (scan bs 0).2 = none then (scan bs 0).1 else []

end Go.Proofs.YtapgjkbodfpdaaaDoor
