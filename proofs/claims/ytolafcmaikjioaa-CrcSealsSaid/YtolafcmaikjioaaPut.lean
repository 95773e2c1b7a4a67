/- varint.Put: a range over a function. -/
import Derived.Test.YtolafcmaikjioaaInfo8
import Derived.Test.YtolafcmaikjioaaSevens
set_option linter.unusedVariables false
namespace Go.Proofs.Ytolafcmaikjioaa
open Go.RowKit Go.Shelf
attribute [local go_sem] Oper.semAt_some

def sevB (x : Sev) : UInt8 := if x.1.2 then UInt8.ofNat (x.1.1 + 128) else UInt8.ofNat x.1.1
def putN (n : Nat) : List UInt8 := (sevs n).map sevB

theorem sevs_length (k : Nat) : ∀ n, n < 128 ^ (k + 1) → (sevs n).length ≤ k + 1 := by
  induction k with
  | zero => intro n h; rw [sevs, dif_pos (by simpa using h)]; simp
  | succ k ih =>
    intro n h
    rw [sevs]
    split
    · simp
    · have := ih (n / 128) (by rw [Nat.div_lt_iff_lt_mul (by omega), ← Nat.pow_succ]; exact h)
      simp; omega
theorem sevs_length10 {n : Nat} (h : n ≤ 18446744073709551615) : (sevs n).length ≤ 10 := sevs_length 9 n (by omega)
theorem sevs_pos (n : Nat) : 0 < (sevs n).length := by rw [sevs]; split <;> simp
abbrev sevBs (xs : List Sev) : List Value := xs.map fun x => bv (sevB x)

end Go.Proofs.Ytolafcmaikjioaa
