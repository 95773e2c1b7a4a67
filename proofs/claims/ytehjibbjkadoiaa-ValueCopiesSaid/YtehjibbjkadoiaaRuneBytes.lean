/- The document's Bytes (layer 3). -/
import Derived.Test.YtehjibbjkadoiaaProg
import Derived.Test.YtehjibbjkadoiaaM1
import Derived.Test.YtehjibbjkadoiaaRune
set_option linter.unusedVariables false
namespace Go.Proofs.Ytehjibbjkadoiaa
open Go.RowKit
/-- A rune's bytes. -/
def runeB (n : Nat) : List UInt8 :=
  if n < 128 then [b8 n] else
  if n < 2048 then [b8 (192 + n / 64), b8 (128 + n % 64)] else
  if n < 65536 then [b8 (224 + n / 4096), b8 (128 + n / 64 % 64), b8 (128 + n % 64)] else
  [b8 (240 + n / 262144), b8 (128 + n / 4096 % 64), b8 (128 + n / 64 % 64), b8 (128 + n % 64)]

/-- 'string(b)' of a row that was just made. -/
theorem conv_new {P : Program} (w : World) (t src dst e : TypeId) (vs : List UInt8) (hs : P.underlying src = some (.slice e)) (he : P.underlying e = some (.int .u8)) (hd : P.underlying dst = some .string) :
    (convert src dst (.slice (some ⟨w.heap.size, 0, none⟩) vs.length vs.length)).run P (w.alloc (.cells (vs.map bv).toArray t)) = .ok (.string ⟨vs.toArray⟩) (w.alloc (.cells (vs.map bv).toArray t)) := by
  refine run_convert_bytes_back _ src dst e _ _ vs hs he hd fun j hj => ?_
  rw [addr_add, (Blk.new w t _).cell]
  simp [hj, bv]

end Go.Proofs.Ytehjibbjkadoiaa
