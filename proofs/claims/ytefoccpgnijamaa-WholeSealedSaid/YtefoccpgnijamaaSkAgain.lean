/- What was read: numbers, lengths, places; End by the fields' words. -/
import Derived.Test.YtefoccpgnijamaaSkMath
import Derived.Test.YtefoccpgnijamaaLive6
set_option linter.unusedVariables false
namespace Go.Proofs.Ytefoccpgnijamaa
open Go.RowKit
/-- What may be of a field that was read of n bytes. -/
def ReadOk (n : Nat) (f : FV) : Prop := 0 ≤ f.w ∧ f.w ≤ 255 ∧ f.n ≤ 18446744073709551615 ∧ 1 ≤ f.num ∧ f.num ≤ 536870911 ∧ 0 ≤ f.at_ ∧ f.at_ ≤ n ∧ f.s.xs.length ≤ n
theorem read_ok (bs : List UInt8) : ∀ (fu p : Nat) (fs : List FV), p ≤ bs.length → fvAll fs (flds bs fu p).1 → fs.length + p ≤ bs.length ∧ ∀ f ∈ fs, ReadOk bs.length f
  | 0, p, fs, hp, hf => by
    cases fs with
    | nil => exact ⟨by simpa using hp, fun f hf => by simp at hf⟩
    | cons f fs => exact hf.elim
  | fu + 1, p, fs, hp, hf => by
    rw [flds] at hf
    by_cases h1 : bs.length ≤ p
    · rw [if_pos h1] at hf
      cases fs with
      | nil => exact ⟨by simpa using hp, fun f hf => by simp at hf⟩
      | cons f fs => exact hf.elim
    · rw [if_neg h1] at hf
      by_cases h2 : (rOne bs p).e = 0
      · rw [if_pos h2] at hf
        cases fs with
        | nil => exact ⟨by simpa using hp, fun f hf => by simp at hf⟩
        | cons f fs =>
          have hn := rOne_facts bs p hp
          obtain ⟨n1, n2, n3, n4, n5⟩ := hn.1 h2
          obtain ⟨a1, a2, a3, a4⟩ := again_one f bs p hp h2 hf.1
          obtain ⟨b1, b2⟩ := read_ok bs fu (rOne bs p).nx fs n2 hf.2
          obtain ⟨f1, f2, f3, f4, f5⟩ := hf.1
          simp only at f1 f2 f3 f4 f5
          refine ⟨by rw [List.length_cons]; omega, fun g hg => ?_⟩
          rcases List.mem_cons.1 hg with rfl | hg
          · have hx : g.s.xs.length ≤ bs.length := by
              have hp2 : (pBF g).length = (putN (mk g.num g.w).1.toNat).length + (pTail g.w g.n g.s.xs).length := by unfold pBF pB; rw [List.length_append]
              by_cases hw : g.w = 2
              · have ht : pTail g.w g.n g.s.xs = putN g.s.xs.length ++ g.s.xs := by rw [hw]; rfl
                rw [ht, List.length_append] at hp2
                omega
              · unfold bareX at a3
                rw [if_neg hw] at a3
                rw [← a3]; simp
            refine ⟨by rw [f2]; omega, by rw [f2]; omega, by rw [f3]; exact hn.2, by rw [f1]; exact n3, by rw [f1]; exact n4, by rw [f5]; omega, by rw [f5]; omega, hx⟩
          · exact b2 g hg
      · rw [if_neg h2] at hf
        cases fs with
        | nil => exact ⟨by simpa using hp, fun f hf => by simp at hf⟩
        | cons f fs => exact hf.elim
end Go.Proofs.Ytefoccpgnijamaa
