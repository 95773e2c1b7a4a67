/- A byte's row in the table of types. -/
import Derived.Test.YtolafcmaikjioaaBase
import Derived.Test.YtolafcmaikjioaaProg
set_option linter.unusedVariables false
namespace Go.Proofs.Ytolafcmaikjioaa
theorem Try.info5 : (Try.prog.info? 5).map (fun i => (i.zero, i.size, i.bytes)) = some (some (.int .u8 0), 1, 1) := by kernel_rfl
end Go.Proofs.Ytolafcmaikjioaa
