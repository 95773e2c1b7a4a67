/- skip.End. -/
import Derived.Test.YtefoccpgnijamaaSkOne
import Derived.Test.YtefoccpgnijamaaM4
import Derived.Test.YtefoccpgnijamaaM2
set_option linter.unusedVariables false
namespace Go.Proofs.Ytefoccpgnijamaa
open Go.RowKit
theorem rHead_le (bs : List UInt8) (p : Nat) (hp : p ≤ bs.length) (h : (rHead bs p).2.2.1 = 0) : (rHead bs p).2.2.2 ≤ bs.length := by
  unfold rHead at h ⊢
  have hg := M.get_facts (bs.drop p)
  have hd : (bs.drop p).length = bs.length - p := List.length_drop
  split
  · rename_i h0
    rw [if_pos h0] at h
    have h2 := (hg.1 h0).2.2.1
    simp only
    omega
  · exact hp
theorem rOne_p (bs : List UInt8) (p : Nat) (hp : p ≤ bs.length) : (rOne bs p).p ≤ bs.length := by
  unfold rOne
  split
  · rename_i h
    have := rHead_le bs p hp h
    simp only
    unfold flt
    split <;> omega
  · exact hp
end Go.Proofs.Ytefoccpgnijamaa
