/- The document's reader: fault, Varint. -/
import Derived.Test.YtolafcmaikjioaaProg
import Derived.Test.YtolafcmaikjioaaBase
import Derived.Test.YtolafcmaikjioaaInTag
import Derived.StillTailTactics
set_option linter.unusedVariables false
namespace Go.Proofs.Ytolafcmaikjioaa
open Go.RowKit
end Go.Proofs.Ytolafcmaikjioaa
