/- The walk of SkipAgain. -/
import Derived.Test.YtefoccpgnijamaaSkAgain
import Derived.Test.YtefoccpgnijamaaSame6
set_option linter.unusedVariables false
namespace Go.Proofs.Ytefoccpgnijamaa
open Go.RowKit
theorem putsE_zero (l : List FV) (h : ∀ f ∈ l, pErrF f = 0) : ∀ i, putsE l i = (0, 0) := by
  induction l with
  | nil => intro i; rfl
  | cons f fs ih =>
    intro i
    rw [putsE, if_pos (h f (List.mem_cons_self ..))]
    exact ih (fun g hg => h g (List.mem_cons_of_mem _ hg)) _
/-- Like of two fields of two rows, at one place: the region that asks for it. -/
theorem likeB_of (f g : FV) (h : f.num = g.num ∧ f.w = g.w ∧ f.n = bareN g ∧ f.s.xs = bareX g) (h2 : bareN g = g.n) (h3 : bareX g = g.s.xs) : likeB f g = true := by
  unfold likeB
  obtain ⟨a, b, c, d⟩ := h
  rw [decide_eq_true_eq]
  exact ⟨a, b, c.trans h2, d.trans h3⟩
end Go.Proofs.Ytefoccpgnijamaa
