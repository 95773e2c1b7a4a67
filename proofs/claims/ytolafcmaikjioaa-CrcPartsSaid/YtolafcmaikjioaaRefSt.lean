/- A reader's method under way: the reader, and the fault that it answers in a block of its own. -/
import Derived.Test.YtolafcmaikjioaaProg
import Derived.Test.YtolafcmaikjioaaBase
import Derived.Test.YtolafcmaikjioaaRefIn
set_option linter.unusedVariables false
namespace Go.Proofs.Ytolafcmaikjioaa
open Go.RowKit
section
variable {t : TypeId} {w W W' : World} {q : Nat} {A : Option Addr} {c : Nat} {bs : List UInt8} {p : Nat}
end
end Go.Proofs.Ytolafcmaikjioaa
