/- skip.own, and the functions of Of and Without. -/
import Derived.Test.YtefoccpgnijamaaSkPuts
import Derived.Test.YtefoccpgnijamaaM4
set_option linter.unusedVariables false
namespace Go.Proofs.Ytefoccpgnijamaa
open Go.RowKit
/-- A field without its memory. -/
def fvK (f : FV) : Int × Int × Nat × List UInt8 × Int := (f.num, f.w, f.n, f.s.xs, f.at_)
/-- A field whose bytes are the call's own. -/
def FvOwn (B : Nat) (w : World) (f : FV) : Prop := w.ownsRow B 5 1 (.slice f.s.A f.s.xs.length f.s.c) f.s.xs.length (f.s.xs.map bv)
end Go.Proofs.Ytefoccpgnijamaa
