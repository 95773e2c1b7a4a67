/- For every input the statement's function returns true, and each argument reads afterwards as it read before: UtfTexts. The package-level tables hold what the program's text lays (tied). -/
import Derived.Test.YtpicgemjfodlcaaDoorRows
import Derived.Test.YtpicgemjfodlcaaDoorCards
import Derived.Test.YtpicgemjfodlcaaDoorTie
import Derived.Test.YtpicgemjfodlcaaDoorTabLaid
import Derived.ProofKit
import Derived.LaidMore
import Derived.Stop.Joined
import Derived.SevenTiedAt
import Derived.Test.YtpicgemjfodlcaaDoorLaw3B
import Derived.Test.YtpicgemjfodlcaaDoorOpen32
import Derived.Test.YtpicgemjfodlcaaDoorFrame
set_option linter.unusedVariables false
namespace Go.Proofs.YtpicgemjfodlcaaDoor.utfTexts
open Go.ChangeShapes Go.WideShapes Go.ChangeAt Go.RowKit
theorem own : ownKnob Tryd.prog.godebug = none := by kernel_rfl
theorem laidOut : laidOutB Tryd.prog = true := by kernel_rfl
end Go.Proofs.YtpicgemjfodlcaaDoor.utfTexts
