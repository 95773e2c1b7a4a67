/- The walks of UtfFirst and UtfChecks. -/
import Derived.Test.YtapgjkbodfpdaaaDoorProg
import Derived.Test.YtapgjkbodfpdaaaDoorBase
import Derived.Test.YtapgjkbodfpdaaaDoorLive3
set_option linter.unusedVariables false
namespace Go.Proofs.YtapgjkbodfpdaaaDoor
open Go.RowKit
theorem rv_iv (l : List Nat) : l.map rv = (l.map (Int.ofNat)).map iv := by rw [List.map_map]; rfl
theorem runes_same_at (xs ys : List Int) (n m : Nat) (A B : Option Addr) (c d : Nat) (w : World) (hn : xs.length = n) (hm : ys.length = m) (hl : n ≤ 9223372036854775807) (hA : IRd w A xs) (hB : IRd w B ys) :
    Calls Tryd.prog 10 #[.slice A n c, .slice B m d] w fun e w' => e = .returned (.bool (decide (xs = ys))) ∧ ∃ n, w' = w.drewN n := by
  subst hn; subst hm; exact runes_same xs ys A B c d w hl hA hB
def plainAt (bs : List UInt8) (k : Nat) : Bool := plainB (bs.take k)
end Go.Proofs.YtapgjkbodfpdaaaDoor
