/- The library's tables that the row names: nothing that the walk reads. -/
import Derived.Test.YtepbfgniocjagaaDoorRows
import Derived.Test.YtepbfgniocjagaaDoorTable
import Derived.LaidMore
set_option linter.unusedVariables false
namespace Go.Proofs.YtepbfgniocjagaaDoor
open Go.ChangeShapes Go.WideShapes Go.ChangeAt Go.RowKit
abbrev tab17L : List (String × DataW Unit) := [("unicode/utf8.acceptRanges", Rows.laid_unicode_utf8_acceptRanges), ("unicode/utf8.first", Rows.laid_unicode_utf8_first)]
theorem tab17_of {W : World} (h : laidMetH Tryd.prog tab17L W) : True := trivial
end Go.Proofs.YtepbfgniocjagaaDoor
