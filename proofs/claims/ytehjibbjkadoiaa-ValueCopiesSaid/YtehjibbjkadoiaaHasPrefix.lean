/- strings.HasPrefix: is the one the beginning of the other? -/
import Derived.Test.YtehjibbjkadoiaaProg
import Derived.Test.YtehjibbjkadoiaaM1
import Derived.Lib.Strings
import Derived.Lib.Slices
import Derived.Lib.Walk
set_option linter.unusedVariables false
namespace Go.Proofs.Ytehjibbjkadoiaa
open Go.RowKit
set_option maxHeartbeats 1000000 in
theorem prefix_any (s p : ByteArray) (w : World) :
    Calls Try.prog 108 #[.string s, .string p] w fun e w' => e = .returned (.bool (p.data.toList.isPrefixOf s.data.toList)) ∧ w = w' := by
  have h0 : p.data.toList.isPrefixOf s.data.toList = Lib.hasPrefix s.data.toList p.data.toList := rfl
  rw [h0, ← Lib.hasPrefix_of_take, ← Lib.size_eq, ← Lib.size_eq]
  go_enter Try.func108, Try.ntmps108
  go_wp2
  · rename_i h
    go_ret
    refine ⟨ret_bool ?_, rfl⟩
    show ((s.extract 0 p.size).toList == p.toList) = _
    rw [Lib.extract_toList, Lib.toList_data]
    simp [h]
  · rename_i h
    go_ret
    refine ⟨ret_bool ?_, rfl⟩
    simp [h]
end Go.Proofs.Ytehjibbjkadoiaa
