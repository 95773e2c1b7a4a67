/- The document's Quote and Put (layer 18): walks. -/
import Derived.Test.YtejdlhjbakndaaaProg
import Derived.Test.YtejdlhjbakndaaaM1
import Derived.Test.YtejdlhjbakndaaaSrMath
import Derived.Test.YtejdlhjbakndaaaSrA
import Derived.Test.YtejdlhjbakndaaaSrB
import Derived.Test.YtejdlhjbakndaaaSrC
import Derived.Test.YtejdlhjbakndaaaSrD
import Derived.Test.YtejdlhjbakndaaaSrR
import Derived.Test.YtejdlhjbakndaaaUt
import Derived.Lib.Walk
import Derived.WalkSmall
import Derived.Deep.QuietTactic
import Derived.BigQuiet
import Derived.IntWalk
set_option linter.unusedVariables false
namespace Go.Proofs.Ytejdlhjbakndaaa
open Go.RowKit
theorem app_data (a b : ByteArray) : (a ++ b).data.toList = a.data.toList ++ b.data.toList := by simp
theorem app_size (a b : ByteArray) : (a ++ b).size = a.size + b.size := by simp
theorem dig_ext : ∀ k : Nat, k < 16 → ((⟨#[48, 49, 50, 51, 52, 53, 54, 55, 56, 57, 97, 98, 99, 100, 101, 102]⟩ : ByteArray).extract k (k + 1)).data.toList = [hxD k] := by decide +kernel
theorem ext_one {s : ByteArray} {bs : List UInt8} {k : Nat} {c : UInt8} {r : List UInt8} (hs : s.data.toList = bs) (hd : bs.drop k = c :: r) : (s.extract k (k + 1)).data.toList = [c] := by
  subst hs
  simp only [ByteArray.data_extract, Array.toList_extract, List.extract_eq_take_drop, hd]
  rw [show k + 1 - k = 1 from by omega]; rfl
end Go.Proofs.Ytejdlhjbakndaaa
