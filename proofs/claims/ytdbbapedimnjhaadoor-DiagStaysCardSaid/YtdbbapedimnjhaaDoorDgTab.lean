/- The library's table that strconv reads, out of the row's reading. -/
import Derived.Test.YtdbbapedimnjhaaDoorRows
import Derived.Test.YtdbbapedimnjhaaDoorTable
import Derived.Test.YtdbbapedimnjhaaDoorDgX
import Derived.Lib.LaidTab
import Derived.Lib.ItoaMem
import Derived.LaidLaws
import Derived.LaidMore
set_option linter.unusedVariables false
namespace Go.Proofs.YtdbbapedimnjhaaDoor
open Go.ChangeShapes Go.WideShapes Go.ChangeAt Go.RowKit
abbrev tab24L : List (String × DataW Unit) := [("math/bits.deBruijn32tab", Rows.laid_math_bits_deBruijn32tab), ("math/bits.deBruijn64tab", Rows.laid_math_bits_deBruijn64tab), ("internal/strconv.uint64pow10", Rows.laid_internal_strconv_uint64pow10)]
theorem gPow24 : Tryd.prog.globalNamed "internal/strconv.uint64pow10" = some 0 := by kernel_rfl
theorem tPow24 : (Tryd.prog.globals[0]?).map (·.type) = some 105 := by kernel_rfl
theorem tab24_met (os : Os) (args : Array Value) : laidMetH Tryd.prog tab24L ((World.doorLaid Tryd.prog 400 os).forCall (fun _ _ => 0) ⟨#[], args, []⟩).memory :=
  laidMetH_of_parts3 (fuel := 8) (laidMet_of_run' 8 (by kernel_rfl) (by kernel_rfl)) (by kernel_rfl) (by kernel_rfl)
theorem arr_of24 {cs : Array Value} {l : List Value} (h : cs.toList = l) : cs = l.toArray := by rw [← h]
theorem tab24_of {W : World} (h : laidMetH Tryd.prog tab24L W) : PowT W := by
  rw [MakeChecks.laidMetH_plain _ _ _ (by kernel_rfl)] at h
  obtain ⟨ps, ⟨g0, t0, cs0, f0, p0, q0, hg0, ht0, hv0, hd0, ⟨g1, t1, cs1, f1, p1, q1, hg1, ht1, hv1, hd1, ⟨g2, t2, cs2, f2, p2, q2, hg2, ht2, hv2, hd2, _, _⟩, _⟩, _⟩, _, _⟩ := h
  obtain rfl := Option.some.inj (gPow24.symm.trans hg2)
  obtain rfl := Option.some.inj (tPow24.symm.trans ht2)
  have e2 := ints_array (k := .u64) (zs := Lib.pow10Tab) Tryd.underlying105 Tryd.underlying78 (by kernel_rfl) (by kernel_rfl) hd2
  unfold PowT Lib.TabIs
  rw [hv2, arr_of24 e2]
end Go.Proofs.YtdbbapedimnjhaaDoor
