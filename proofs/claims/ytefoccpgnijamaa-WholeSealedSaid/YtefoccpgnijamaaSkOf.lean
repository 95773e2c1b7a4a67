/- skip.Of, skip.Without, skip.Last. -/
import Derived.Test.YtefoccpgnijamaaSkOwn
set_option linter.unusedVariables false
namespace Go.Proofs.Ytefoccpgnijamaa
open Go.RowKit
theorem FvOk.below {w w' : World} {f : FV} (h : FvOk w f) (hb : Below w.heap.size w w') : FvOk w' f := ⟨h.w0, h.w1, h.n, h.n1, h.n2, h.a1, h.a2, h.s.below hb⟩
/-- What comes of choosing. -/
def Chosen (B : Nat) (ks : List (Int × Int × Nat × List UInt8 × Int)) (w : World) (e : Ending) (w' : World) : Prop :=
  ∃ (v : Value) (fs : List FV), e = .returned v ∧ w'.ownsRow B 41 5 v fs.length (fs.flatMap fvC) ∧ fs.map fvK = ks ∧ (∀ f ∈ fs, FvOwn B w' f) ∧ Below B w w'
end Go.Proofs.Ytefoccpgnijamaa
