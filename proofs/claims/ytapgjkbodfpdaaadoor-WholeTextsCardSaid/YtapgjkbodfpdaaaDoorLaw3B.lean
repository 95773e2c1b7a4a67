/- The walks of UtfTexts and UtfBack. -/
import Derived.Test.YtapgjkbodfpdaaaDoorProg
import Derived.Test.YtapgjkbodfpdaaaDoorBase
import Derived.Test.YtapgjkbodfpdaaaDoorLive3
import Derived.Test.YtapgjkbodfpdaaaDoorLaw3A
import Derived.Test.YtapgjkbodfpdaaaDoorRuneBytes
set_option linter.unusedVariables false
namespace Go.Proofs.YtapgjkbodfpdaaaDoor
open Go.RowKit
/-- The string of bytes. -/
def mkS (l : List UInt8) : ByteArray := ⟨l.toArray⟩
theorem mkS_of {s : ByteArray} {l : List UInt8} (h : s.data.toList = l) : s = mkS l := by
  subst h; unfold mkS; simp
theorem mkS_data (l : List UInt8) : (mkS l).data.toList = l := by simp [mkS]
theorem mkS_nil : mkS [] = ⟨#[]⟩ := rfl
theorem mkS_size (l : List UInt8) : (mkS l).size = l.length := by show l.toArray.size = _; simp
theorem mkS_append (a b : List UInt8) : mkS a ++ mkS b = mkS (a ++ b) := by
  apply mkS_of; simp [mkS]
theorem mkS_inj {a b : List UInt8} (h : mkS a = mkS b) : a = b := by rw [← mkS_data a, h, mkS_data]
end Go.Proofs.YtapgjkbodfpdaaaDoor
