/- varint.Short, tag.Head, and what is awake in layers 1 and 2. -/
import Derived.Test.YtfbmdeegcoocnaaAll
import Derived.Test.YtfbmdeegcoocnaaNum
import Derived.Test.YtfbmdeegcoocnaaTagNum
import Derived.Test.YtfbmdeegcoocnaaRefPut
import Derived.Test.YtfbmdeegcoocnaaFixed
import Derived.Test.YtfbmdeegcoocnaaSame
set_option linter.unusedVariables false
namespace Go.Proofs.Ytfbmdeegcoocnaa
open Go.RowKit
def shortB (bs : List UInt8) : Bool := decide ((M.get bs).2.2 = 0 ∧ (M.get bs).2.1 = sizeN (M.get bs).1)
def headL (n x : Int) : List UInt8 := if (mk n x).2 = 0 then putN (mk n x).1.toNat else []
theorem mk_facts (n x : Int) (h0 : 0 ≤ x) (h1 : x ≤ 255) : 0 ≤ (mk n x).1 ∧ (mk n x).1 ≤ 4294967295 ∧ 0 ≤ (mk n x).2 ∧ (mk n x).2 ≤ 7 := by
  unfold mk
  split
  · simp
  · split
    · simp
    · rename_i h h'
      have := wireB_lt (x := x) (by simpa using h')
      simp; omega
theorem put300 : putN 300 = [172, 2] := by rw [putN_big (by omega), putN_small (by omega)]; rfl
theorem live_get (W : World) (N : Nat) (hN : W.heap.size = N) : Calls Try.prog 113 #[.slice (some ⟨N, 0, none⟩) 3 3] (W.alloc (.cells #[.int .u8 128, .int .u8 0, .int .u8 7] 5)) fun e w' => e = .returned (.tuple #[.int .u64 0, .int .i64 2, .int .i64 0]) ∧ W.alloc (.cells #[.int .u8 128, .int .u8 0, .int .u8 7] 5) = w' := by
  subst hN
  have h := get_at [128, 0, 7] 3 _ 3 _ rfl (by omega) (Rd.new W 5 #[.int .u8 128, .int .u8 0, .int .u8 7])
  rwa [show M.get [128, 0, 7] = (0, 2, 0) from by decide] at h
theorem short300 : shortB [172, 2] = true := by
  unfold shortB
  rw [show M.get [172, 2] = (300, 2, 0) from by decide]
  simp [sizeN]
end Go.Proofs.Ytfbmdeegcoocnaa
