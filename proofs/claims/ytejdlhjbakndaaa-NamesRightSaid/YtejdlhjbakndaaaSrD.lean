/- scalar: Quote, Put, sign, unquoted, Read: walks. -/
import Derived.Test.YtejdlhjbakndaaaProg
import Derived.Test.YtejdlhjbakndaaaM1
import Derived.Test.YtejdlhjbakndaaaSrMath
import Derived.Test.YtejdlhjbakndaaaSrA
import Derived.Test.YtejdlhjbakndaaaSrB
import Derived.Test.YtejdlhjbakndaaaSrC
import Derived.Test.YtejdlhjbakndaaaUt
import Derived.Lib.Walk
import Derived.WalkSmall
import Derived.IntWalk
set_option linter.unusedVariables false
namespace Go.Proofs.Ytejdlhjbakndaaa
open Go.RowKit
theorem qB_snoc (bs : List UInt8) {k : Nat} {c : UInt8} {r : List UInt8} (hd : bs.drop k = c :: r) : (bs.take (k + 1)).flatMap qB = (bs.take k).flatMap qB ++ qB c := by
  have hk : k < bs.length := by have := congrArg List.length hd; simp at this; omega
  have hc : bs[k] = c := by
    have := List.drop_eq_getElem_cons hk
    rw [hd] at this; injection this with h _; exact h.symm
  rw [List.take_succ_eq_append_getElem hk, List.flatMap_append, hc]; simp
theorem qB_le (l : List UInt8) : (l.flatMap qB).length ≤ 4 * l.length := by
  induction l with
  | nil => simp
  | cons c r ih => rw [List.flatMap_cons, List.length_append]; have := (qB_len c).2; simp only [List.length_cons]; omega
theorem sgF_one {c : UInt8} {r : List UInt8} (h1 : hidN c.toNat = false) (h2 : c.toNat ≠ 34) (h3 : c.toNat ≠ 92) : sgF (c :: r) = (c.toNat, 1) := by
  rw [sgF_cons, if_neg (by simp [h1, h2]), if_pos h3]
theorem sgF_no {c : UInt8} {r : List UInt8} (h : hidN c.toNat = true ∨ c.toNat = 34) : sgF (c :: r) = (0, 0) := by rw [sgF_cons, if_pos h]
theorem hid92 : hidN 92 = false := by decide
end Go.Proofs.Ytejdlhjbakndaaa
