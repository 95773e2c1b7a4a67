/- schema.Kind. -/
import Derived.Test.YtehjibbjkadoiaaSchWord
set_option linter.unusedVariables false
namespace Go.Proofs.Ytehjibbjkadoiaa
open Go.RowKit
def kindN (b : ByteArray) : Nat := if wordA 1 = b then 1 else if wordA 2 = b then 2 else if wordA 3 = b then 3 else if wordA 4 = b then 4 else if wordA 5 = b then 5 else if wordA 6 = b then 6 else if wordA 7 = b then 7 else if wordA 8 = b then 8 else if wordA 9 = b then 9 else if wordA 10 = b then 10 else 0
theorem kindN_some (b : ByteArray) (j : Nat) (h1 : 1 ≤ j) (h2 : j ≤ 10) (h : wordA j = b) (hno : ∀ i, 1 ≤ i → i < j → wordA i ≠ b) : kindN b = j := by
  have hj : j = 1 ∨ j = 2 ∨ j = 3 ∨ j = 4 ∨ j = 5 ∨ j = 6 ∨ j = 7 ∨ j = 8 ∨ j = 9 ∨ j = 10 := by omega
  unfold kindN
  rcases hj with rfl | rfl | rfl | rfl | rfl | rfl | rfl | rfl | rfl | rfl
  · rw [if_pos h]
  · rw [if_neg (hno 1 (by omega) (by omega)), if_pos h]
  · rw [if_neg (hno 1 (by omega) (by omega)), if_neg (hno 2 (by omega) (by omega)), if_pos h]
  · rw [if_neg (hno 1 (by omega) (by omega)), if_neg (hno 2 (by omega) (by omega)), if_neg (hno 3 (by omega) (by omega)), if_pos h]
  · rw [if_neg (hno 1 (by omega) (by omega)), if_neg (hno 2 (by omega) (by omega)), if_neg (hno 3 (by omega) (by omega)), if_neg (hno 4 (by omega) (by omega)), if_pos h]
  · rw [if_neg (hno 1 (by omega) (by omega)), if_neg (hno 2 (by omega) (by omega)), if_neg (hno 3 (by omega) (by omega)), if_neg (hno 4 (by omega) (by omega)), if_neg (hno 5 (by omega) (by omega)), if_pos h]
  · rw [if_neg (hno 1 (by omega) (by omega)), if_neg (hno 2 (by omega) (by omega)), if_neg (hno 3 (by omega) (by omega)), if_neg (hno 4 (by omega) (by omega)), if_neg (hno 5 (by omega) (by omega)), if_neg (hno 6 (by omega) (by omega)), if_pos h]
  · rw [if_neg (hno 1 (by omega) (by omega)), if_neg (hno 2 (by omega) (by omega)), if_neg (hno 3 (by omega) (by omega)), if_neg (hno 4 (by omega) (by omega)), if_neg (hno 5 (by omega) (by omega)), if_neg (hno 6 (by omega) (by omega)), if_neg (hno 7 (by omega) (by omega)), if_pos h]
  · rw [if_neg (hno 1 (by omega) (by omega)), if_neg (hno 2 (by omega) (by omega)), if_neg (hno 3 (by omega) (by omega)), if_neg (hno 4 (by omega) (by omega)), if_neg (hno 5 (by omega) (by omega)), if_neg (hno 6 (by omega) (by omega)), if_neg (hno 7 (by omega) (by omega)), if_neg (hno 8 (by omega) (by omega)), if_pos h]
  · rw [if_neg (hno 1 (by omega) (by omega)), if_neg (hno 2 (by omega) (by omega)), if_neg (hno 3 (by omega) (by omega)), if_neg (hno 4 (by omega) (by omega)), if_neg (hno 5 (by omega) (by omega)), if_neg (hno 6 (by omega) (by omega)), if_neg (hno 7 (by omega) (by omega)), if_neg (hno 8 (by omega) (by omega)), if_neg (hno 9 (by omega) (by omega)), if_pos h]
theorem kindN_none (b : ByteArray) (hno : ∀ i, 1 ≤ i → i < 11 → wordA i ≠ b) : kindN b = 0 := by
  unfold kindN
  rw [if_neg (hno 1 (by omega) (by omega)), if_neg (hno 2 (by omega) (by omega)), if_neg (hno 3 (by omega) (by omega)), if_neg (hno 4 (by omega) (by omega)), if_neg (hno 5 (by omega) (by omega)), if_neg (hno 6 (by omega) (by omega)), if_neg (hno 7 (by omega) (by omega)), if_neg (hno 8 (by omega) (by omega)), if_neg (hno 9 (by omega) (by omega)), if_neg (hno 10 (by omega) (by omega))]
theorem bstr_ne {q b : ByteArray} (h : q ≠ b) : (q.toList == b.toList) = false := by
  obtain ⟨⟨x⟩⟩ := q
  obtain ⟨⟨y⟩⟩ := b
  have h2 : x ≠ y := fun e => h (by rw [e])
  simpa [ByteArray.toList_eq] using h2
end Go.Proofs.Ytehjibbjkadoiaa
