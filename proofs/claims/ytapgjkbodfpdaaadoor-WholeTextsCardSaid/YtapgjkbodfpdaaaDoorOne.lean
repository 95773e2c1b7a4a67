/- The document's One (layer 3): a walk. -/
import Derived.Test.YtapgjkbodfpdaaaDoorProg
import Derived.Test.YtapgjkbodfpdaaaDoorBase
import Derived.Test.YtapgjkbodfpdaaaDoorRune
set_option linter.unusedVariables false
namespace Go.Proofs.YtapgjkbodfpdaaaDoor
open Go.RowKit
theorem conts_at {r : List UInt8} {k k' m j : Nat} (hk : k = k' + 1) (hj : 1 ≤ j) (hr : j - 1 < r.length) :
    conts k m (r.drop (j - 1)) = if r[j - 1].toNat < 128 ∨ 192 ≤ r[j - 1].toNat then none else conts k' (m * 64 + r[j - 1].toNat - 128) (r.drop (j + 1 - 1)) := by
  subst hk
  rw [List.drop_eq_getElem_cons hr, conts, show j - 1 + 1 = j + 1 - 1 from by omega]
end Go.Proofs.YtapgjkbodfpdaaaDoor
