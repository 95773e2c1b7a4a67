/- The walk of StreamLoses: whole frames that are lost, copied or moved. -/
import Derived.Test.YtgiealcfhlcpoaaLawSlB
import Derived.Test.YtgiealcfhlcpoaaLawSlC
set_option linter.unusedVariables false
namespace Go.Proofs.Ytgiealcfhlcpoaa
open Go.RowKit
theorem streamLoses_any (l : List FrV) (m : Nat) (A : Option Addr) (c : Nat) (wh to_ : Nat) (kd : Int) (w : World) (hm : l.length = m) (hok : ∀ f ∈ l, FrOk w f) (hM : SlN w A m c 2 (l.flatMap frC)) (hwh : wh ≤ 255) (hto : to_ ≤ 255) (hkb : -9223372036854775808 ≤ kd ∧ kd ≤ 9223372036854775807) :
    Calls Try.prog 3 #[.slice A m c, .int .u8 (wh : Int), .int .u8 (to_ : Int), .int .i64 kd] w fun e w' => e = .returned (.bool true) ∧ Below w.heap.size w w' := by
  by_cases h3 : kd = 3
  · exact streamLoses_3 l m A c wh to_ kd w hm hok hM hwh hto hkb h3
  by_cases h5 : kd = 5
  · exact streamLoses_5 l m A c wh to_ kd w hm hok hM hwh hto hkb h5
  exact streamLoses_2 l m A c wh to_ kd w hm hok hM hwh hto hkb ⟨h3, h5⟩
end Go.Proofs.Ytgiealcfhlcpoaa
