/- resync.Gaps: the closure that notes a gap. -/
import Derived.Test.YtgiealcfhlcpoaaRsWhole
set_option linter.unusedVariables false
namespace Go.Proofs.Ytgiealcfhlcpoaa
open Go.RowKit Go.Shelf
attribute [local go_sem] Oper.semAt_some
def Rs.gap (b e : Nat) : List (Nat × Nat) := if b < e then [(b, e)] else []
def Rs.gstep (s : List (Nat × Nat) × Nat) (f : Fnd) : List (Nat × Nat) × Nat := (s.1 ++ Rs.gap s.2 f.at_, f.at_ + f.size)
/-- The gaps between frames, so far, and where the last frame ended. -/
def Rs.gs (l : List Fnd) : List (Nat × Nat) × Nat := l.foldl Rs.gstep ([], 0)
def Rs.gaps (l : List Fnd) (e : Nat) : List (Nat × Nat) := (Rs.gs l).1 ++ Rs.gap (Rs.gs l).2 e
theorem Rs.gs_snoc (l : List Fnd) (f : Fnd) : Rs.gs (l ++ [f]) = ((Rs.gs l).1 ++ Rs.gap (Rs.gs l).2 f.at_, f.at_ + f.size) := by
  unfold Rs.gs
  rw [List.foldl_append]
  rfl
theorem Rs.gap_len (b e : Nat) : (Rs.gap b e).length ≤ 1 := by unfold Rs.gap; split <;> simp
theorem Rs.gs_len' (l : List Fnd) : ∀ s : List (Nat × Nat) × Nat, (l.foldl Rs.gstep s).1.length ≤ s.1.length + l.length := by
  induction l with
  | nil => intro s; simp
  | cons f l ih =>
    intro s
    rw [List.foldl_cons]
    have h1 := ih (Rs.gstep s f)
    have h2 := Rs.gap_len s.2 f.at_
    have h3 : (Rs.gstep s f).1.length = s.1.length + (Rs.gap s.2 f.at_).length := by simp [Rs.gstep]
    simp only [List.length_cons]
    omega
theorem Rs.gs_len (l : List Fnd) : (Rs.gs l).1.length ≤ l.length := by
  have := Rs.gs_len' l ([], 0)
  simpa [Rs.gs] using this
def gC (g : Nat × Nat) : List Value := [.int .i64 (g.1 : Int), .int .i64 (g.2 : Int)]
end Go.Proofs.Ytgiealcfhlcpoaa
