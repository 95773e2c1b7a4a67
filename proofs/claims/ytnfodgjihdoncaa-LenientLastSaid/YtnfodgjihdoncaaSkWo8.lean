/- skip.Without of fields with long bytes. -/
import Derived.Test.YtnfodgjihdoncaaSk3
set_option linter.unusedVariables false
namespace Go.Proofs.Ytnfodgjihdoncaa
open Go.RowKit
end Go.Proofs.Ytnfodgjihdoncaa
