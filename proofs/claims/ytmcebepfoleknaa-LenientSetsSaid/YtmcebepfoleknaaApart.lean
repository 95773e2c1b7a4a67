/- What a message's bytes say: plain mathematics. -/
import Derived.Test.YtmcebepfoleknaaEn3
import Derived.Test.YtmcebepfoleknaaSk2
import Derived.Test.YtmcebepfoleknaaVGrow
set_option linter.unusedVariables false
namespace Go.Proofs.Ytmcebepfoleknaa
open Go.RowKit
def ptF (x : Int × Int × Nat × List UInt8) : FV := ⟨x.1, x.2.1, x.2.2.1, ⟨none, 0, x.2.2.2⟩, 0⟩
theorem row_num {r : SRow} (h : r ∈ ROWS) : 1 ≤ r.num ∧ r.num ≤ 7 ∧ 1 ≤ r.typ ∧ r.typ ≤ 10 := by have := row_ok h; omega
/-- What a part may be. -/
structure PtOk (r : SRow) (x : Int × Int × Nat × List UInt8) : Prop where
  num : x.1 = (r.num : Int)
  w : x.2.1 = (wireN (r.typ : Nat) : Int)
  n : x.2.2.1 ≤ 18446744073709551615
  len : x.2.2.2.length ≤ 8000
theorem wireN_cases (t : Int) : wireN t = 0 ∨ wireN t = 1 ∨ wireN t = 2 ∨ wireN t = 5 := by
  unfold wireN
  split
  · exact .inr (.inr (.inr rfl))
  split
  · exact .inr (.inl rfl)
  split
  · exact .inr (.inr (.inl rfl))
  · exact .inl rfl
theorem PtOk.put {r : SRow} {x : Int × Int × Nat × List UInt8} (hr : r ∈ ROWS) (h : PtOk r x) : pErrF (ptF x) = 0 ∧ (ptF x).n ≤ 18446744073709551615 ∧ 0 ≤ (ptF x).w ∧ (ptF x).w ≤ 255 := by
  have hk := row_num hr
  have hw := wireN_cases (r.typ : Nat)
  have hw2 : (ptF x).w = (wireN (r.typ : Nat) : Int) := h.w
  refine ⟨?_, h.n, by rw [hw2]; omega, by rw [hw2]; omega⟩
  show pErr x.1 x.2.1 x.2.2.2 = 0
  have hwb : wireB x.2.1 = true := by rw [h.w]; rcases hw with e | e | e | e <;> rw [e] <;> rfl
  unfold pErr
  have h1 := h.num
  have h2 := h.len
  rw [mk_ok (by omega) (by omega) hwb, if_neg (by simp), if_neg (by omega)]
end Go.Proofs.Ytmcebepfoleknaa
