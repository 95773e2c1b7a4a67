/- LineRemarks: whatever comes in: a walk. -/
import Derived.Test.YtepbfgniocjagaaDoorLnLawM
set_option linter.unusedVariables false
namespace Go.Proofs.YtepbfgniocjagaaDoor
open Go.RowKit
theorem lineRemarks_any (s rm : ByteArray) (at' : Int) (w : World) (hl : s.size ≤ 1048576) :
    Calls Tryd.prog 3 #[.string s, .string rm, .int .i64 at'] w fun e w' => e = .returned (.bool true) ∧ Below w.heap.size w w' := by
  by_cases h : 1000 < s.size ∨ 100 < rm.size ∨ at' < 0 ∨ ((lnsL s.data.toList).length : Int) ≤ at'
  · exact lineRemarks_early s rm at' w hl h
  · obtain ⟨k, rfl⟩ : ∃ k : Nat, at' = (k : Int) := ⟨at'.toNat, by omega⟩
    exact lineRemarks_main s rm k w _ _ rfl rfl (by rw [← Lib.size_eq]; omega) (by rw [← Lib.size_eq]; omega) (by omega)
end Go.Proofs.YtepbfgniocjagaaDoor
