/- varint.Get and the document's Get. -/
import Derived.Test.YtolafcmaikjioaaProg
import Derived.Test.YtolafcmaikjioaaMath
import Derived.Test.YtolafcmaikjioaaBase
import Derived.Deep.LoopGhost
set_option linter.unusedVariables false
namespace Go.Proofs.Ytolafcmaikjioaa
open Go.RowKit
end Go.Proofs.Ytolafcmaikjioaa
