/- The document's Put (layer 1) and Fix (layer 2): rows that grow by append. -/
import Derived.Test.YtapgjkbodfpdaaaDoorProg
import Derived.Test.YtapgjkbodfpdaaaDoorBase
import Derived.Test.YtapgjkbodfpdaaaDoorPut
import Derived.Test.YtapgjkbodfpdaaaDoorFix
set_option linter.unusedVariables false
namespace Go.Proofs.YtapgjkbodfpdaaaDoor
open Go.RowKit
theorem putN_small {n : Nat} (h : n < 128) : putN n = [b8 n] := by simp [putN, sevs, h, sevB, b8]
theorem putN_big {n : Nat} (h : ¬ n < 128) : putN n = b8 (n % 128 + 128) :: putN (n / 128) := by
  rw [putN, sevs, dif_neg h]; simp [sevB, putN, b8]
theorem putN_length (k : Nat) (n : Nat) (h : n < 128 ^ (k + 1)) : (putN n).length ≤ k + 1 := by simpa [putN] using sevs_length k n h
theorem putN_length10 {n : Nat} (h : n ≤ 18446744073709551615) : (putN n).length ≤ 10 := putN_length 9 n (by omega)

theorem vput_any (n : Nat) (w : World) (h64 : n ≤ 18446744073709551615) :
    Calls Tryd.prog 6 #[.int .u64 (n : Int)] w fun e W' => ∃ A c, e = .returned (.slice A (putN n).length c) ∧ Sl W' A c ((putN n).map bv) ∧ Below w.heap.size w W' :=
  (put_any n h64 w).mono fun _ _ ⟨_, he, ho, hb⟩ => let ⟨A, c, hv, _, hs⟩ := Sl.of_own ho; ⟨A, c, by rw [he, hv], hs, hb⟩
end Go.Proofs.YtapgjkbodfpdaaaDoor
