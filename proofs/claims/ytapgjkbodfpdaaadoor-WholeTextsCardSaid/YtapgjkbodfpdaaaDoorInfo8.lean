/- A byte's row in the table of types. -/
import Derived.Test.YtapgjkbodfpdaaaDoorBase
import Derived.Test.YtapgjkbodfpdaaaDoorProg
set_option linter.unusedVariables false
namespace Go.Proofs.YtapgjkbodfpdaaaDoor
theorem Tryd.info5 : (Tryd.prog.info? 5).map (fun i => (i.zero, i.size, i.bytes)) = some (some (.int .u8 0), 1, 1) := by kernel_rfl
end Go.Proofs.YtapgjkbodfpdaaaDoor
