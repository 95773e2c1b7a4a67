/- The library's tables and errors that strconv reads, out of the row's reading. -/
import Derived.Test.YtihkjopplmdkkaaDoorRows
import Derived.Test.YtihkjopplmdkkaaDoorTable
import Derived.Lib.LaidTab
import Derived.Lib.ItoaMem
import Derived.LaidLaws
import Derived.LaidMore
set_option linter.unusedVariables false
namespace Go.Proofs.YtihkjopplmdkkaaDoor
open Go.ChangeShapes Go.WideShapes Go.ChangeAt Go.RowKit
abbrev tab18L : List (String × DataW Unit) := [("math/bits.deBruijn32tab", Rows.laid_math_bits_deBruijn32tab), ("math/bits.deBruijn64tab", Rows.laid_math_bits_deBruijn64tab), ("internal/strconv.uint64pow10", Rows.laid_internal_strconv_uint64pow10), ("strconv.ErrRange", Rows.laid_strconv_ErrRange), ("strconv.ErrSyntax", Rows.laid_strconv_ErrSyntax)]
/-- What strconv reads. -/
structure Tab18 (W : World) : Prop where
  pow : Lib.TabIs Tryd.prog W "internal/strconv.uint64pow10" .u64 Lib.pow10Tab
  synt : ∃ tp p, W.var? Tryd.prog "strconv.ErrSyntax" = some #[.iface tp p]
  range : ∃ tp p, W.var? Tryd.prog "strconv.ErrRange" = some #[.iface tp p]
theorem var_below {P : Program} {W W' : World} {v : String} {cs : Array Value} (h : W.var? P v = some cs) (hb : Below W.heap.size W W') : W'.var? P v = some cs := by
  unfold World.var? at *
  cases hg : P.globalNamed v with
  | none => rw [hg] at h; simp at h
  | some g =>
    rw [hg] at h
    simp only [Option.bind_some] at h ⊢
    have hlt : g < W.heap.size := by
      cases hh : W.heap[g]? with
      | none => rw [hh] at h; simp at h
      | some o => exact (Array.getElem?_eq_some_iff.1 hh).1
    rw [hb.block g hlt]; exact h
theorem Tab18.below {W W' : World} (h : Tab18 W) (hb : Below W.heap.size W W') : Tab18 W' := by
  obtain ⟨t1, p1, h1⟩ := h.synt
  obtain ⟨t2, p2, h2⟩ := h.range
  exact ⟨var_below h.pow hb, ⟨t1, p1, var_below h1 hb⟩, ⟨t2, p2, var_below h2 hb⟩⟩
theorem gPow : Tryd.prog.globalNamed "internal/strconv.uint64pow10" = some 5 := by kernel_rfl
theorem gSyn : Tryd.prog.globalNamed "strconv.ErrSyntax" = some 1 := by kernel_rfl
theorem gRan : Tryd.prog.globalNamed "strconv.ErrRange" = some 2 := by kernel_rfl
theorem tPow : (Tryd.prog.globals[5]?).map (·.type) = some 135 := by kernel_rfl
theorem tSyn : (Tryd.prog.globals[1]?).map (·.type) = some 64 := by kernel_rfl
theorem tRan : (Tryd.prog.globals[2]?).map (·.type) = some 64 := by kernel_rfl
theorem tab18_met (os : Os) (args : Array Value) : laidMetH Tryd.prog tab18L ((World.doorLaid Tryd.prog 400 os).forCall (fun _ _ => 0) ⟨#[], args, []⟩).memory :=
  laidMetH_of_parts3 (fuel := 8) (laidMet_of_run' 8 (by kernel_rfl) (by kernel_rfl)) (by kernel_rfl) (by kernel_rfl)
theorem arr_of {cs : Array Value} {l : List Value} (h : cs.toList = l) : cs = l.toArray := by rw [← h]
theorem tab18_of {W : World} (h : laidMetH Tryd.prog tab18L W) : Tab18 W := by
  rw [MakeChecks.laidMetH_plain _ _ _ (by kernel_rfl)] at h
  obtain ⟨ps, ⟨g0, t0, cs0, f0, p0, q0, hg0, ht0, hv0, hd0, ⟨g1, t1, cs1, f1, p1, q1, hg1, ht1, hv1, hd1, ⟨g2, t2, cs2, f2, p2, q2, hg2, ht2, hv2, hd2, ⟨g3, t3, cs3, f3, p3, q3, hg3, ht3, hv3, hd3, ⟨g4, t4, cs4, f4, p4, q4, hg4, ht4, hv4, hd4, _, _⟩, _⟩, _⟩, _⟩, _⟩, _, _⟩ := h
  obtain rfl := Option.some.inj (gPow.symm.trans hg2)
  obtain rfl := Option.some.inj (gRan.symm.trans hg3)
  obtain rfl := Option.some.inj (gSyn.symm.trans hg4)
  obtain rfl := Option.some.inj (tPow.symm.trans ht2)
  obtain rfl := Option.some.inj (tRan.symm.trans ht3)
  obtain rfl := Option.some.inj (tSyn.symm.trans ht4)
  have e2 := ints_array (k := .u64) (zs := Lib.pow10Tab) Tryd.underlying135 Tryd.underlying106 (by kernel_rfl) (by kernel_rfl) hd2
  obtain ⟨f3', u3, v3, hc3, -, -⟩ := iface_of_trod Tryd.underlying64 hd3
  obtain ⟨f4', u4, v4, hc4, -, -⟩ := iface_of_trod Tryd.underlying64 hd4
  refine ⟨?_, ⟨u4, v4, ?_⟩, ⟨u3, v3, ?_⟩⟩
  · unfold Lib.TabIs; rw [hv2, arr_of e2]
  · rw [hv4, arr_of hc4]
  · rw [hv3, arr_of hc3]
end Go.Proofs.YtihkjopplmdkkaaDoor
