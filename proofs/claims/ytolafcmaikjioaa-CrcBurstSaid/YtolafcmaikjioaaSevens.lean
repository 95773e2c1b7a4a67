/- varint.sevens: the iterator's contract. -/
import Derived.Test.YtolafcmaikjioaaProg
import Derived.Test.YtolafcmaikjioaaMath
import Derived.Test.YtolafcmaikjioaaBase
import Derived.RangeFuncNested
import Derived.RangeFuncBound
import Derived.RangeFuncCalls
import Derived.RangeFuncLeaves
import Derived.RangeFuncBox
import Derived.Shelf.Abstract
import Derived.Shelf.RegionOpen
import Derived.WalkKit
import Derived.OwnWalkIn
import Derived.TacticsInMore
import Derived.LoopNIn
import Derived.LoopIn
import Derived.Maps.AppendAt
set_option linter.unusedVariables false
namespace Go.Proofs.Ytolafcmaikjioaa
open Go.RowKit Go.Shelf
attribute [local go_sem] Oper.semAt_some

abbrev Sev : Type := { p : Nat × Bool // p.1 < 128 }
abbrev sevEnc (x : Sev) : Array Value := #[.int .u8 (x.1.1 : Int), .bool x.1.2]
def sevs (n : Nat) : List Sev := if h : n < 128 then [⟨(n, false), h⟩] else ⟨(n % 128, true), by omega⟩ :: sevs (n / 128)
  termination_by n
  decreasing_by omega

end Go.Proofs.Ytolafcmaikjioaa
