/- For every input the statement's function returns true, and each argument reads afterwards as it read before: WholeFields. No condition. -/
import Derived.Test.YtealjpolomhdeaaRows
import Derived.Test.YtealjpolomhdeaaG18
import Derived.Test.YtealjpolomhdeaaG2
import Derived.Test.YtealjpolomhdeaaG3
set_option linter.unusedVariables false
namespace Go.Proofs.Ytealjpolomhdeaa.wholeFields
open Go.ChangeShapes Go.WideShapes Go.ChangeAt Go.RowKit
theorem own : ownKnob Try.prog.godebug = none := by kernel_rfl
theorem laidOut : laidOutB Try.prog = true := by kernel_rfl
end Go.Proofs.Ytealjpolomhdeaa.wholeFields
