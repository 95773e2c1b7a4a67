/- The walks of layer 1's statements. -/
import Derived.Test.YtfbmdeegcoocnaaLive
set_option linter.unusedVariables false
namespace Go.Proofs.Ytfbmdeegcoocnaa
open Go.RowKit
theorem putN_size (n : Nat) : (putN n).length = sizeN n := by
  induction n using Nat.strongRecOn with
  | _ n ih =>
    rw [sizeN]
    by_cases h : n < 128
    · rw [if_pos h, putN_small h]; rfl
    · rw [if_neg h, putN_big h, List.length_cons, ih (n / 128) (by omega)]; omega
end Go.Proofs.Ytfbmdeegcoocnaa
