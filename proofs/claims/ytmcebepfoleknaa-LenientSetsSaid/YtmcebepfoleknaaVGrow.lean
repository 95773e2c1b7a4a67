/- The mathematics of ValueGrows: what a later version says of a message, and what is said of a cleaned one. -/
import Derived.Test.YtmcebepfoleknaaV3
import Derived.Test.YtmcebepfoleknaaSc2
set_option linter.unusedVariables false
namespace Go.Proofs.Ytmcebepfoleknaa
open Go.RowKit
theorem sameB_iff (a b : MV) : sameB a b = true ↔ a.k = b.k ∧ sameN a b ∧ sameT a b ∧ a.l = b.l := by
  unfold sameB
  simp only [Bool.and_eq_true, decide_eq_true_eq, and_assoc]
end Go.Proofs.Ytmcebepfoleknaa
