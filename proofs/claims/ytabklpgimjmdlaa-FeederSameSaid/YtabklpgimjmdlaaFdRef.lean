/- The document's feeder: what is held. -/
import Derived.Test.YtabklpgimjmdlaaFdSame
import Derived.Test.YtabklpgimjmdlaaRsRef
set_option linter.unusedVariables false
namespace Go.Proofs.Ytabklpgimjmdlaa
open Go.RowKit
end Go.Proofs.Ytabklpgimjmdlaa
