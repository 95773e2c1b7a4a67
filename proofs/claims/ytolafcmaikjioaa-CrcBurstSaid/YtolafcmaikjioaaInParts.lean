/- The inlet's own parts: At, Left, four, eight, next, counted, head. -/
import Derived.Test.YtolafcmaikjioaaProg
import Derived.Test.YtolafcmaikjioaaBase
import Derived.Test.YtolafcmaikjioaaInRest
import Derived.Test.YtolafcmaikjioaaFix
import Derived.Test.YtolafcmaikjioaaTagNum
set_option linter.unusedVariables false
namespace Go.Proofs.Ytolafcmaikjioaa
open Go.RowKit
/-- So many bytes, read as a number: it, what is wrong, and the place behind. -/
def rFix (k : Nat) (bs : List UInt8) (p : Nat) : Nat × Nat × Nat := if bs.length - p < k then (0, 4, p) else (unfixN ((bs.drop p).take k), 0, p + k)
theorem g32_at (bs : List UInt8) (n : Nat) (A : Option Addr) (c : Nat) (w : World) (hn : bs.length = n) (hR : Sl w A c (bs.map bv)) :
    Calls Try.prog 39 #[.slice A n c] w fun e w' => e = .returned (.tuple #[.int .u32 (if n < 4 then 0 else unfixN (bs.take 4)), .int .i64 (if n < 4 then 4 else 0)]) ∧ w = w' := by
  subst hn; exact get32_any bs A c w hR
end Go.Proofs.Ytolafcmaikjioaa
