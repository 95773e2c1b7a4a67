/- The tables of the package utf, out of the row's reading. -/
import Derived.Test.YtapgjkbodfpdaaaDoorRows
import Derived.Test.YtapgjkbodfpdaaaDoorTable
import Derived.Test.YtapgjkbodfpdaaaDoorUtfWidth
set_option linter.unusedVariables false
namespace Go.Proofs.YtapgjkbodfpdaaaDoor
open Go.ChangeShapes Go.WideShapes Go.ChangeAt Go.RowKit
abbrev tabL : List (String × DataW Unit) := [("rescript/utf.greatest", Rows.laid_rescript_utf_greatest), ("rescript/utf.heads", Rows.laid_rescript_utf_heads)]
theorem gGreatest : Tryd.prog.globalNamed "rescript/utf.greatest" = some 0 := by kernel_rfl
theorem gHeads : Tryd.prog.globalNamed "rescript/utf.heads" = some 1 := by kernel_rfl
theorem tGreatest : (Tryd.prog.globals[0]?).map (·.type) = some 55 := by kernel_rfl
theorem tHeads : (Tryd.prog.globals[1]?).map (·.type) = some 56 := by kernel_rfl
theorem tab_met (os : Os) (args : Array Value) : laidMetH Tryd.prog tabL ((World.doorLaid Tryd.prog 400 os).forCall (fun _ _ => 0) ⟨#[], args, []⟩).memory :=
  laidMetH_of_parts3 (fuel := 8) (laidMet_of_run' 8 (by kernel_rfl) (by kernel_rfl)) (by kernel_rfl) (by kernel_rfl)
theorem tab_of {W : World} (h : laidMetH Tryd.prog tabL W) : Tab W := by
  rw [MakeChecks.laidMetH_plain _ _ _ (by kernel_rfl)] at h
  obtain ⟨ps, ⟨g0, t0, cs0, f0, p0, q0, hg0, ht0, hv0, hd0, ⟨g1, t1, cs1, f1, p1, q1, hg1, ht1, hv1, hd1, _, _⟩, _⟩, _, _⟩ := h
  obtain rfl := Option.some.inj (gGreatest.symm.trans hg0)
  obtain rfl := Option.some.inj (gHeads.symm.trans hg1)
  obtain rfl := Option.some.inj (tGreatest.symm.trans ht0)
  obtain rfl := Option.some.inj (tHeads.symm.trans ht1)
  have e0 := ints_array (k := .i32) (zs := [127, 2047, 65535, 1114111]) Tryd.underlying55 Tryd.underlying21 (by kernel_rfl) (by kernel_rfl) hd0
  have e1 := ints_array (k := .u8) (zs := [0, 192, 224, 240]) Tryd.underlying56 Tryd.underlying5 (by kernel_rfl) (by kernel_rfl) hd1
  exact ⟨var_rd hg0 hv0 e0, var_rd hg1 hv1 e1⟩
end Go.Proofs.YtapgjkbodfpdaaaDoor
