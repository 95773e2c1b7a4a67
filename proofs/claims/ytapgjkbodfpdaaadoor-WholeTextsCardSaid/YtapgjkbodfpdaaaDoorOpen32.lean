/- Rows of runes that came in. -/
import Derived.Test.YtapgjkbodfpdaaaDoorFrame
import Derived.Test.YtapgjkbodfpdaaaDoorSame32
set_option linter.unusedVariables false
namespace Go.Proofs.YtapgjkbodfpdaaaDoor
open Go.ChangeShapes Go.WideShapes Go.ChangeAt Go.RowKit
theorem wf_i32 {n : Int} (h : (Lit.int .i32 n).wf = true) : -2147483648 ≤ n ∧ n ≤ 2147483647 := by simpa [Lit.wf, IntKind.min, IntKind.max, IntKind.signed, IntKind.bits] using h
section
variable {H : Type} {enc : TypeId × Value → H} {P : Program} {W : World} {base : Nat} {spare : Nat → Bool} {held : Bool} {t e : TypeId} {A : Option Addr} {len cap : Nat} {d : DataW H} {p : List MemPlace}
theorem runes_of (ht : P.underlying t = some (.slice e)) (he : P.underlying e = some (.int .i32)) (hc : P.cellsOf e = 1) (h : DataW.Trod enc P W base spare held t (.slice A len cap) d p) :
    ∃ ns : List Int, ns.length = len ∧ (∀ n ∈ ns, -2147483648 ≤ n ∧ n ≤ 2147483647) ∧ Sl W A cap (ns.map iv) := by
  obtain ⟨zs, hl, hw, hs⟩ := ints_of ht he hc h
  exact ⟨zs, hl, fun n hn => wf_i32 (hw n hn), hs⟩
end
end Go.Proofs.YtapgjkbodfpdaaaDoor
