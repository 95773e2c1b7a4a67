/- The document's Put (layer 1) and Fix (layer 2): rows that grow by append. -/
import Derived.Test.YtolafcmaikjioaaProg
import Derived.Test.YtolafcmaikjioaaBase
import Derived.Test.YtolafcmaikjioaaPut
import Derived.Test.YtolafcmaikjioaaFix
set_option linter.unusedVariables false
namespace Go.Proofs.Ytolafcmaikjioaa
open Go.RowKit
theorem putN_small {n : Nat} (h : n < 128) : putN n = [b8 n] := by simp [putN, sevs, h, sevB, b8]
theorem putN_big {n : Nat} (h : ¬ n < 128) : putN n = b8 (n % 128 + 128) :: putN (n / 128) := by
  rw [putN, sevs, dif_neg h]; simp [sevB, putN, b8]
theorem putN_length (k : Nat) (n : Nat) (h : n < 128 ^ (k + 1)) : (putN n).length ≤ k + 1 := by simpa [putN] using sevs_length k n h
theorem putN_length10 {n : Nat} (h : n ≤ 18446744073709551615) : (putN n).length ≤ 10 := putN_length 9 n (by omega)

end Go.Proofs.Ytolafcmaikjioaa
