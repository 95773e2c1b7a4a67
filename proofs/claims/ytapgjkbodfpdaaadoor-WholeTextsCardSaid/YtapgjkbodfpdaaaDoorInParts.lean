/- The inlet's own parts: At, Left, four, eight, next, counted, head. -/
import Derived.Test.YtapgjkbodfpdaaaDoorProg
import Derived.Test.YtapgjkbodfpdaaaDoorBase
import Derived.Test.YtapgjkbodfpdaaaDoorInRest
import Derived.Test.YtapgjkbodfpdaaaDoorFix
import Derived.Test.YtapgjkbodfpdaaaDoorTagNum
set_option linter.unusedVariables false
namespace Go.Proofs.YtapgjkbodfpdaaaDoor
open Go.RowKit
theorem ileft_any (w : World) (q : Nat) (A : Option Addr) (c : Nat) (bs : List UInt8) (p : Nat) (h : Rin 50 w q A c bs p) :
    Calls Tryd.prog 11 #[.pointer (some ⟨q, 0, none⟩)] w fun e w' => e = .returned (.int .i64 ((bs.length - p : Nat) : Int)) ∧ ∃ n, w' = w.drewN n := by
  have hcap := h.cap
  have hsm := h.sl.small
  have hle := h.le
  have c0 := h.blk.cell 0
  have c1 := h.blk.cell 1
  simp at c0 c1
  clear h
  generalize bs.length = n at *
  have hc : ((n - p : Nat) : Int) = (n : Int) - (p : Int) := by omega
  have HC := hid hc
  clear hc
  go_enter Tryd.func11, Tryd.ntmps11
  go_wp2
  go_quiet (fail)
  go_wp2
  go_ret
  exact ⟨ret_int (by rw [HC.out]), _, rfl⟩
theorem ileft_nil (w : World) :
    Calls Tryd.prog 11 #[.pointer none] w fun e w' => e = .returned (.int .i64 0) ∧ w = w' := by
  go_enter Tryd.func11, Tryd.ntmps11
  go_wp2
  go_ret
  exact ⟨rfl, rfl⟩
/-- So many bytes, read as a number: it, what is wrong, and the place behind. -/
def rFix (k : Nat) (bs : List UInt8) (p : Nat) : Nat × Nat × Nat := if bs.length - p < k then (0, 4, p) else (unfixN ((bs.drop p).take k), 0, p + k)
end Go.Proofs.YtapgjkbodfpdaaaDoor
