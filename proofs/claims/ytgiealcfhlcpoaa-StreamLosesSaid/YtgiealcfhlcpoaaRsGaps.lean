/- resync.Gaps. -/
import Derived.Test.YtgiealcfhlcpoaaRsGap
import Derived.Test.YtgiealcfhlcpoaaRsMa
import Derived.Laws.EntriesVeiled
set_option linter.unusedVariables false
namespace Go.Proofs.Ytgiealcfhlcpoaa
open Go.RowKit Go.Shelf
attribute [local go_sem] Oper.semAt_some
theorem Rs.gs_le' (n : Nat) (l : List Fnd) : ∀ s : List (Nat × Nat) × Nat, s.2 ≤ n → (∀ f ∈ l, f.at_ + f.size ≤ n) → (l.foldl Rs.gstep s).2 ≤ n := by
  induction l with
  | nil => intro s h _; exact h
  | cons f l ih =>
    intro s h hf
    rw [List.foldl_cons]
    exact ih _ (hf f (List.mem_cons_self ..)) (fun g hg => hf g (List.mem_cons_of_mem _ hg))
theorem Rs.gs_le {n : Nat} {l : List Fnd} (h : ∀ f ∈ l, f.at_ + f.size ≤ n) : (Rs.gs l).2 ≤ n := Rs.gs_le' n l _ (Nat.zero_le _) h
end Go.Proofs.Ytgiealcfhlcpoaa
