/- resync.Passed. -/
import Derived.Test.YtgiealcfhlcpoaaRsGaps
set_option linter.unusedVariables false
namespace Go.Proofs.Ytgiealcfhlcpoaa
open Go.RowKit
def Rs.psum (l : List (Nat × Nat)) : Nat := (l.map fun x => x.2 - x.1).sum
theorem Rs.psum_snoc (l : List (Nat × Nat)) (x : Nat × Nat) : Rs.psum (l ++ [x]) = Rs.psum l + (x.2 - x.1) := by unfold Rs.psum; simp
theorem Rs.psum_le {n : Nat} {l : List (Nat × Nat)} (h : ∀ g ∈ l, g.2 ≤ n) : Rs.psum l ≤ n * l.length := by
  induction l with
  | nil => simp [Rs.psum]
  | cons x l ih =>
    have h1 := ih (fun g hg => h g (List.mem_cons_of_mem _ hg))
    have h2 := h x (List.mem_cons_self ..)
    have h3 : Rs.psum (x :: l) = (x.2 - x.1) + Rs.psum l := by unfold Rs.psum; simp
    rw [h3, List.length_cons, Nat.mul_add]
    omega
theorem Rs.gap_mem {b e : Nat} {g : Nat × Nat} (h : g ∈ Rs.gap b e) : g = (b, e) ∧ b < e := by
  unfold Rs.gap at h
  split at h
  · exact ⟨List.mem_singleton.1 h, by assumption⟩
  · simp at h
theorem Rs.gs_mem' (n : Nat) (l : List Fnd) : ∀ s : List (Nat × Nat) × Nat, (∀ g ∈ s.1, g.1 < g.2 ∧ g.2 ≤ n) → (∀ f ∈ l, f.at_ + f.size ≤ n) → ∀ g ∈ (l.foldl Rs.gstep s).1, g.1 < g.2 ∧ g.2 ≤ n := by
  induction l with
  | nil => intro s h _; exact h
  | cons f l ih =>
    intro s h hf
    rw [List.foldl_cons]
    refine ih _ ?_ (fun g hg => hf g (List.mem_cons_of_mem _ hg))
    intro g hg
    rcases List.mem_append.1 hg with hg | hg
    · exact h g hg
    · obtain ⟨rfl, hlt⟩ := Rs.gap_mem hg
      have := hf f (List.mem_cons_self ..)
      exact ⟨hlt, by show f.at_ ≤ n; omega⟩
theorem Rs.gaps_mem {n : Nat} {l : List Fnd} {e : Nat} (h : ∀ f ∈ l, f.at_ + f.size ≤ n) (he : e ≤ n) : ∀ g ∈ Rs.gaps l e, g.1 < g.2 ∧ g.2 ≤ n := by
  intro g hg
  rcases List.mem_append.1 hg with hg | hg
  · exact Rs.gs_mem' n l _ (by simp) h g hg
  · obtain ⟨rfl, hlt⟩ := Rs.gap_mem hg
    exact ⟨hlt, he⟩
theorem Rs.gaps_len (l : List Fnd) (e : Nat) : (Rs.gaps l e).length ≤ l.length + 1 := by
  unfold Rs.gaps
  rw [List.length_append]
  have h1 := Rs.gs_len l
  have h2 := Rs.gap_len (Rs.gs l).2 e
  omega
end Go.Proofs.Ytgiealcfhlcpoaa
