/- tag.Make, Split, Width, and the document's. -/
import Derived.Test.YtolafcmaikjioaaProg
import Derived.Test.YtolafcmaikjioaaBase
set_option linter.unusedVariables false
namespace Go.Proofs.Ytolafcmaikjioaa
open Go.RowKit
def wireB (w : Int) : Bool := decide (w = 0 ∨ w = 1 ∨ w = 2 ∨ w = 5)
def widthN (w : Int) : Int := if w = 1 then 8 else if w = 5 then 4 else 0
/-- Make: the tag and the error. -/
def mk (num wire : Int) : Int × Int := if num < 1 ∨ 536870911 < num then (0, 1) else if wireB wire = false then (0, 7) else (8 * num + wire, 0)
def spl (n : Int) : Int × Int × Int := if n / 8 < 1 ∨ 536870911 < n / 8 then (0, 0, 1) else if wireB (n % 8) = false then (0, 0, 7) else (n / 8, n % 8, 0)
theorem mk_bad {n x : Int} (h : 1 ≤ n) (h' : n ≤ 536870911) (hw : wireB x = false) : mk n x = (0, 7) := by unfold mk; rw [if_neg (by omega), if_pos hw]
theorem mk_ok {n x : Int} (h : 1 ≤ n) (h' : n ≤ 536870911) (hw : wireB x = true) : mk n x = (8 * n + x, 0) := by unfold mk; rw [if_neg (by omega), if_neg (by simp [hw])]
theorem spl_bad {n : Int} (h : 1 ≤ n / 8) (h' : n / 8 ≤ 536870911) (hw : wireB (n % 8) = false) : spl n = (0, 0, 7) := by unfold spl; rw [if_neg (by omega), if_pos hw]
theorem spl_ok {n : Int} (h : 1 ≤ n / 8) (h' : n / 8 ≤ 536870911) (hw : wireB (n % 8) = true) : spl n = (n / 8, n % 8, 0) := by unfold spl; rw [if_neg (by omega), if_neg (by simp [hw])]
theorem wireB_lt {x : Int} (h : wireB x = true) : 0 ≤ x ∧ x ≤ 5 := by simp [wireB] at h; omega

end Go.Proofs.Ytolafcmaikjioaa
