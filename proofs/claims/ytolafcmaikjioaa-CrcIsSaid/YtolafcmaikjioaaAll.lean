/- varint.All and the document's All. -/
import Derived.Test.YtolafcmaikjioaaGet
import Derived.Maps.AppendAt
set_option linter.unusedVariables false
namespace Go.Proofs.Ytolafcmaikjioaa
open Go.RowKit
theorem Try.info76 : (Try.prog.info? 76).map (fun i => (i.zero, i.size, i.bytes)) = some (some (.int .u64 0), 1, 8) := by kernel_rfl
theorem BRd.drop {w : World} {b off : Nat} {bs : List UInt8} (h : BRd w (some ⟨b, off, none⟩) bs) (k : Nat) : BRd w (some ⟨b, off + k, none⟩) (bs.drop k) := by
  intro j u hj
  rw [List.map_drop, List.getElem?_drop] at hj
  obtain ⟨b', off', he, hlt, hc⟩ := h (k + j) u hj
  injection he with he; injection he with h1 h2; subst h1; subst h2
  exact ⟨b, off + k, rfl, hlt, by rw [Nat.add_assoc]; exact hc⟩
end Go.Proofs.Ytolafcmaikjioaa
