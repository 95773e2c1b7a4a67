/- The walk of VarintBack. -/
import Derived.Test.YtfbmdeegcoocnaaLawB
import Derived.Deep.RegionHeld3
set_option linter.unusedVariables false
namespace Go.Proofs.Ytfbmdeegcoocnaa
open Go.RowKit
theorem short_put {n : Nat} (h : n ≤ 18446744073709551615) : shortB (putN n) = true := by
  have := get_put [] h
  rw [List.append_nil] at this
  unfold shortB
  rw [this, putN_size]; simp
end Go.Proofs.Ytfbmdeegcoocnaa
