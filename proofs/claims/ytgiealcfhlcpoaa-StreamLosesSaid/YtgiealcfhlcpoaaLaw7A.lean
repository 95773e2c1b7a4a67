/- The walks of CrcIs, CrcParts, CrcSeals. -/
import Derived.Test.YtgiealcfhlcpoaaLive7
set_option linter.unusedVariables false
namespace Go.Proofs.Ytgiealcfhlcpoaa
open Go.RowKit
/-- A slice cut at its end. -/
theorem Sl.pre {w : World} {A : Option Addr} {c : Nat} {bs : List UInt8} (h : Sl w A c (bs.map bv)) (k : Nat) (hk : k ≤ bs.length) : Sl w A c ((bs.take k).map bv) := by
  have hc := h.cap
  rw [List.length_map] at hc
  refine ⟨by rw [List.length_map, List.length_take]; omega, h.small, h.nil0, ?_⟩
  have := h.rd.take k
  rwa [← List.map_take] at this
end Go.Proofs.Ytgiealcfhlcpoaa
