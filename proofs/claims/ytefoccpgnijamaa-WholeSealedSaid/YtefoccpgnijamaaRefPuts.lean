/- The document's Bytes, Bare and Put of fields. -/
import Derived.Test.YtefoccpgnijamaaSkMath
import Derived.Test.YtefoccpgnijamaaM5
set_option linter.unusedVariables false
namespace Go.Proofs.Ytefoccpgnijamaa
open Go.RowKit
end Go.Proofs.Ytefoccpgnijamaa
