/- resync.Whole. -/
import Derived.Test.YtgiealcfhlcpoaaRsAll
set_option linter.unusedVariables false
namespace Go.Proofs.Ytgiealcfhlcpoaa
open Go.RowKit
theorem Try.info3 : (Try.prog.info? 3).map (fun i => (i.zero, i.size, i.bytes)) = some (some (.int .i64 0), 1, 8) := by kernel_rfl
def iv (k : Nat) : Value := .int .i64 (k : Int)
end Go.Proofs.Ytgiealcfhlcpoaa
