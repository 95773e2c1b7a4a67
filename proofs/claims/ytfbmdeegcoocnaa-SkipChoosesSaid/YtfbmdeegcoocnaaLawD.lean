/- The walk of VarintAll. -/
import Derived.Test.YtfbmdeegcoocnaaLawC
set_option linter.unusedVariables false
namespace Go.Proofs.Ytfbmdeegcoocnaa
open Go.RowKit
def flat (ns : List Nat) : List UInt8 := ns.flatMap putN
theorem flat_cons (n : Nat) (ns : List Nat) : flat (n :: ns) = putN n ++ flat ns := rfl
theorem flat_snoc (ns : List Nat) (n : Nat) : flat (ns ++ [n]) = flat ns ++ putN n := by simp [flat]
theorem allF_flat (ns : List Nat) : ∀ f acc p, (∀ n ∈ ns, n ≤ 18446744073709551615) → (flat ns).length ≤ f → M.allF f acc p (flat ns) = (acc ++ ns, 0, 0) := by
  induction ns with
  | nil => intro f acc p _ _; rw [show flat [] = [] from rfl, M.allF_end]; simp
  | cons n ns ih =>
    intro f acc p hb hf
    have hn := hb n (by simp)
    have hg := get_put (flat ns) hn
    have hp : 0 < (putN n).length := by rw [putN_size]; exact sizeN_pos n
    rw [flat_cons] at hf ⊢
    rw [M.allF_step (by rw [List.length_append]; omega) hf (by rw [hg]), hg]
    simp only [List.drop_left]
    rw [ih f _ _ (fun m hm => hb m (by simp [hm])) (by rw [List.length_append] at hf; omega)]
    simp
theorem all_flat {ns : List Nat} (hb : ∀ n ∈ ns, n ≤ 18446744073709551615) : M.all (flat ns) = (ns, 0, 0) := by
  rw [M.all, allF_flat ns _ _ _ hb (Nat.le_refl _)]; simp
theorem flat_length {ns : List Nat} (hb : ∀ n ∈ ns, n ≤ 18446744073709551615) : (flat ns).length ≤ 10 * ns.length := by
  induction ns with
  | nil => simp [flat]
  | cons n ns ih =>
    rw [flat_cons, List.length_append, List.length_cons]
    have := putN_length10 (hb n (by simp))
    have := ih fun m hm => hb m (by simp [hm])
    omega
theorem allF_length (f : Nat) : ∀ (acc : List Nat) (p : Nat) (b : List UInt8), (M.allF f acc p b).1.length ≤ acc.length + b.length := by
  induction f with
  | zero => intro acc p b; cases b <;> simp [M.allF]
  | succ f ih =>
    intro acc p b
    cases b with
    | nil => simp [M.allF]
    | cons x r =>
      rw [M.allF]
      split
      · simp
      · rename_i he
        have hk := (M.get_facts (x :: r)).1 (by omega)
        have := ih (acc ++ [(M.get (x :: r)).1]) (p + (M.get (x :: r)).2.1) ((x :: r).drop (M.get (x :: r)).2.1)
        rw [List.length_append, List.length_drop] at this
        simp at this ⊢
        simp at hk
        omega
theorem all_length (b : List UInt8) : (M.all b).1.length ≤ b.length := by have := allF_length b.length [] 0 b; simpa [M.all] using this
end Go.Proofs.Ytfbmdeegcoocnaa
