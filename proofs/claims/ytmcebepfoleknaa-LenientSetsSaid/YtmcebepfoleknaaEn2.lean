/- encode.Field. · A field's bytes, in the document's words. -/
import Derived.Test.YtmcebepfoleknaaEn1
import Derived.Test.YtmcebepfoleknaaSk4
set_option linter.unusedVariables false
namespace Go.Proofs.Ytmcebepfoleknaa
open Go.RowKit
/-- Few texts, none long. -/
structure MvSm (m : MV) : Prop where
  l : m.l.length ≤ 100
  s : ∀ i, (m.text i).size ≤ 8000
  e : ∀ s ∈ m.l, s.size ≤ 8000
end Go.Proofs.Ytmcebepfoleknaa
set_option linter.unusedVariables false
namespace Go.Proofs.Ytmcebepfoleknaa
open Go.RowKit
end Go.Proofs.Ytmcebepfoleknaa
