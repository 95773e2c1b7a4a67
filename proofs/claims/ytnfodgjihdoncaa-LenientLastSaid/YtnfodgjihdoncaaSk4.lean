/- The document's Bytes, Bare and Put of fields. · The document's Put of fields. · The walk of SkipAgain. · The walk of SkipPuts. -/
import Derived.Test.YtnfodgjihdoncaaSk2
import Derived.Test.YtnfodgjihdoncaaM5
import Derived.Test.YtnfodgjihdoncaaSk3
import Derived.Deep.QuietTactic
import Derived.BigQuiet
set_option linter.unusedVariables false
namespace Go.Proofs.Ytnfodgjihdoncaa
open Go.RowKit
end Go.Proofs.Ytnfodgjihdoncaa
set_option linter.unusedVariables false
namespace Go.Proofs.Ytnfodgjihdoncaa
open Go.RowKit
end Go.Proofs.Ytnfodgjihdoncaa
set_option linter.unusedVariables false
namespace Go.Proofs.Ytnfodgjihdoncaa
open Go.RowKit
theorem putsE_zero (l : List FV) (h : ∀ f ∈ l, pErrF f = 0) : ∀ i, putsE l i = (0, 0) := by
  induction l with
  | nil => intro i; rfl
  | cons f fs ih =>
    intro i
    rw [putsE, if_pos (h f (List.mem_cons_self ..))]
    exact ih (fun g hg => h g (List.mem_cons_of_mem _ hg)) _
/-- Like of two fields of two rows, at one place: the region that asks for it. -/
theorem likeB_of (f g : FV) (h : f.num = g.num ∧ f.w = g.w ∧ f.n = bareN g ∧ f.s.xs = bareX g) (h2 : bareN g = g.n) (h3 : bareX g = g.s.xs) : likeB f g = true := by
  unfold likeB
  obtain ⟨a, b, c, d⟩ := h
  rw [decide_eq_true_eq]
  exact ⟨a, b, c.trans h2, d.trans h3⟩
end Go.Proofs.Ytnfodgjihdoncaa
set_option linter.unusedVariables false
namespace Go.Proofs.Ytnfodgjihdoncaa
open Go.RowKit
theorem putsE_all (l : List FV) : ∀ i, (putsE l i).1 = 0 → (∀ f ∈ l, pErrF f = 0) := by
  induction l with
  | nil => intro i _ f hf; simp at hf
  | cons f fs ih =>
    intro i h
    rw [putsE] at h
    by_cases h0 : pErrF f = 0
    · rw [if_pos h0] at h
      intro g hg
      rcases List.mem_cons.1 hg with rfl | hg
      · exact h0
      · exact ih _ h g hg
    · rw [if_neg h0] at h
      exact absurd h h0
theorem pBF_all (l : List FV) (h : ∀ f ∈ l, (pBF f).length ≤ 2100) : (l.flatMap pBF).length ≤ 2100 * l.length := by
  induction l with
  | nil => simp
  | cons f fs ih =>
    rw [List.flatMap_cons, List.length_append, List.length_cons]
    have h1 := h f (List.mem_cons_self ..)
    have h2 := ih (fun g hg => h g (List.mem_cons_of_mem _ hg))
    omega
/-- The bare field of a field, with new memory. -/
def bareF (f : FV) (A : Option Addr) (c : Nat) : FV := ⟨f.num, f.w, bareN f, ⟨A, c, bareX f⟩, f.at_⟩
theorem likeB_bare (f g : FV) (A : Option Addr) (c : Nat) (h : f.num = g.num ∧ f.w = g.w ∧ f.n = bareN g ∧ f.s.xs = bareX g) : likeB f (bareF g A c) = true := by
  unfold likeB bareF
  rw [decide_eq_true_eq]
  exact h
end Go.Proofs.Ytnfodgjihdoncaa
