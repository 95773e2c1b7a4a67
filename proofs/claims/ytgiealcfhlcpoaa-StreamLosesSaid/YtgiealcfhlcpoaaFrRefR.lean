/- The document's Read. -/
import Derived.Test.YtgiealcfhlcpoaaFrRef
import Derived.BigQuiet
import Derived.Deep.QuietTactic
set_option linter.unusedVariables false
namespace Go.Proofs.Ytgiealcfhlcpoaa
open Go.RowKit
theorem drew_size (w : World) : w.drew.heap.size = w.heap.size := rfl
theorem rjoin_pay (xs : List UInt8) (n : Nat) (A : Option Addr) (c : Nat) (w : World) (hn : xs.length = n) (hl : n ≤ 100000) (hs : Sl w A c (xs.map bv)) :
    Calls Try.prog 15 #[.slice A n c, .slice none 0 0] w fun e w' => ∃ A' c', e = .returned (.slice A' n c') ∧ Pay w.heap.size w' A' c' xs ∧ Below w.heap.size w w' := by
  refine (rjoin_any xs n A c w hn hl hs).mono ?_
  rintro e w' ⟨v, rfl, ho, hb⟩
  obtain ⟨A', c', rfl, hp⟩ := Pay.of_own ho
  exact ⟨A', c', rfl, hp, hb⟩
end Go.Proofs.Ytgiealcfhlcpoaa
