/- The document's Put of fields. -/
import Derived.Test.YtefoccpgnijamaaRefPuts
import Derived.Test.YtefoccpgnijamaaSkOf
import Derived.Deep.QuietTactic
import Derived.BigQuiet
set_option linter.unusedVariables false
namespace Go.Proofs.Ytefoccpgnijamaa
open Go.RowKit
end Go.Proofs.Ytefoccpgnijamaa
