/- For every input the statement's function returns true, and each argument reads afterwards as it read before: InletReads. No condition. -/
import Derived.Test.YtpicgemjfodlcaaRows
import Derived.Test.YtpicgemjfodlcaaLaw4A
import Derived.Test.YtpicgemjfodlcaaFrame
set_option linter.unusedVariables false
namespace Go.Proofs.Ytpicgemjfodlcaa.inletReads
open Go.ChangeShapes Go.WideShapes Go.ChangeAt Go.RowKit
theorem own : ownKnob Try.prog.godebug = none := by kernel_rfl
theorem laidOut : laidOutB Try.prog = true := by kernel_rfl
end Go.Proofs.Ytpicgemjfodlcaa.inletReads
