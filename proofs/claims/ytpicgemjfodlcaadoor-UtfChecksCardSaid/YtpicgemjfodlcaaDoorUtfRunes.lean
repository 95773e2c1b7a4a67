/- utf.Runes: a walk. -/
import Derived.Test.YtpicgemjfodlcaaDoorProg
import Derived.Test.YtpicgemjfodlcaaDoorBase
import Derived.Test.YtpicgemjfodlcaaDoorUtfCount
import Derived.Test.YtpicgemjfodlcaaDoorRunes
import Derived.WalkSmall
set_option linter.unusedVariables false
namespace Go.Proofs.YtpicgemjfodlcaaDoor
open Go.RowKit
def badE (bs : List UInt8) : Nat := if (scan bs 0).2 = none then 0 else 9
def badA (bs : List UInt8) : Nat := (scan bs 0).2.getD 0
theorem runeI_le {n : Nat} (h : runeI (n : Int) = true) : n ≤ 1114111 := (runeI_nat.1 h).1
theorem heap_grown {w w' : World} {row : Option Nat} (hg : w.grownBy w' row) {k : Nat} {o : Obj} (hk : w.heap[k]? = some o) (hr : ∀ g, row = some g → g ≠ k) : w'.heap[k]? = some o := by
  rw [hg.block k (Array.getElem?_eq_some_iff.1 hk).1 (by intro h; exact hr k h.symm rfl)]; exact hk
end Go.Proofs.YtpicgemjfodlcaaDoor
