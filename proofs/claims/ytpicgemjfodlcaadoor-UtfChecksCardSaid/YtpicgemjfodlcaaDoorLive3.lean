/- What is awake in layer 3. -/
import Derived.Test.YtpicgemjfodlcaaDoorProg
import Derived.Test.YtpicgemjfodlcaaDoorBase
import Derived.Test.YtpicgemjfodlcaaDoorUtfRunes
import Derived.Test.YtpicgemjfodlcaaDoorUtfText
import Derived.WalkSmall
set_option linter.unusedVariables false
namespace Go.Proofs.YtpicgemjfodlcaaDoor
open Go.RowKit
theorem scan_a : scan [97] 0 = ([97], none) := by simp [scan, oneL]
theorem scan_aa : scan [97, 195, 164] 0 = ([97, 228], none) := by
  have h := scan_text [97, 228] (by decide) [] 0
  rw [show textB [97, 228] ++ [] = [97, 195, 164] from by decide, scan_nil] at h
  simpa using h
theorem scan_bad1 : scan [97, 192, 128] 0 = ([97], some 1) := by simp [scan, oneL, tl, conts]
theorem scan_ff : scan [255] 0 = ([], some 0) := by simp [scan, oneL]
end Go.Proofs.YtpicgemjfodlcaaDoor
