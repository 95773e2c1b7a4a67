/- strict.unlike: where bytes are unlike. -/
import Derived.Test.YtnfodgjihdoncaaLenDec
import Derived.BigQuiet
import Derived.Deep.QuietTactic
set_option linter.unusedVariables false
namespace Go.Proofs.Ytnfodgjihdoncaa
open Go.RowKit
def unl : List UInt8 → List UInt8 → Nat
  | a :: ta, b :: tb => if a = b then unl ta tb + 1 else 0
  | _, _ => 0
theorem unl_eq : ∀ (k : Nat) (xs ys : List UInt8), k ≤ xs.length → k ≤ ys.length → xs.take k = ys.take k → (xs.length = k ∨ ys.length = k ∨ ∃ a b, xs[k]? = some a ∧ ys[k]? = some b ∧ a ≠ b) → unl xs ys = k
  | 0, [], _, _, _, _, _ => by unfold unl; rfl
  | 0, a :: ta, [], _, _, _, _ => by unfold unl; rfl
  | 0, a :: ta, b :: tb, _, _, _, h => by
    rcases h with h | h | ⟨x, y, h1, h2, h3⟩
    · simp at h
    · simp at h
    · simp at h1 h2; subst h1; subst h2; unfold unl; rw [if_neg h3]
  | k + 1, [], _, h, _, _, _ => by simp at h
  | k + 1, a :: ta, [], _, h, _, _ => by simp at h
  | k + 1, a :: ta, b :: tb, h1, h2, h3, h4 => by
    simp only [List.take_succ_cons, List.cons.injEq] at h3
    obtain ⟨rfl, h3⟩ := h3
    unfold unl
    rw [if_pos rfl, unl_eq k ta tb (by simpa using h1) (by simpa using h2) h3 (by
      rcases h4 with h | h | ⟨x, y, g1, g2, g3⟩
      · exact .inl (by simpa using h)
      · exact .inr (.inl (by simpa using h))
      · exact .inr (.inr ⟨x, y, by simpa using g1, by simpa using g2, g3⟩))]
theorem unl_le : ∀ xs ys : List UInt8, unl xs ys ≤ xs.length ∧ unl xs ys ≤ ys.length
  | [], ys => by unfold unl; simp
  | a :: ta, [] => by unfold unl; simp
  | a :: ta, b :: tb => by
    have := unl_le ta tb
    unfold unl
    split <;> simp <;> omega
theorem unl_max : ∀ xs ys : List UInt8, unl xs ys < max xs.length ys.length ↔ xs ≠ ys
  | [], [] => by unfold unl; simp
  | [], b :: tb => by unfold unl; simp
  | a :: ta, [] => by unfold unl; simp
  | a :: ta, b :: tb => by
    have h := unl_max ta tb
    unfold unl
    by_cases hab : a = b
    · subst hab
      rw [if_pos rfl]
      simp only [List.length_cons, ne_eq, List.cons.injEq, true_and]
      exact ⟨fun g => h.1 (by omega), fun g => by have := h.2 g; omega⟩
    · rw [if_neg hab]
      simp [hab]
end Go.Proofs.Ytnfodgjihdoncaa
