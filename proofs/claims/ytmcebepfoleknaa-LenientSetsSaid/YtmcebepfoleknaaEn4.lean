/- The document's Bytes. · encode.Bytes and Size as plain contracts; the examples' messages. · What must be whatever is asked: layer 10; and of the theorem through the layers of stage 5. -/
import Derived.Test.YtmcebepfoleknaaEn3
import Derived.Test.YtmcebepfoleknaaEncRef
import Derived.Test.YtmcebepfoleknaaV4
import Derived.Test.YtmcebepfoleknaaLive9
set_option linter.unusedVariables false
namespace Go.Proofs.Ytmcebepfoleknaa
open Go.RowKit
theorem own_ne_blk {w : World} {B e sz n q : Nat} {v : Value} {xs : List Value} {t : TypeId} {cs : Array Value} (h : w.ownsRow B e sz v n xs) (hb : Blk w q t cs) (ht : t ≠ e) (g : Nat) (hg : v.ownBlock = some g) (hq : g = q) : False := by
  subst hq
  rcases h.2 with ⟨rfl, -⟩ | ⟨g1, cap, cur, rfl, -, hg1, -⟩
  · cases hg
  · have e1 : g1 = g := by simpa [Value.ownBlock] using hg
    subst e1
    have h2 := hg1.symm.trans hb
    injection h2 with h2
    injection h2 with _ h3
    exact ht h3.symm
end Go.Proofs.Ytmcebepfoleknaa
set_option linter.unusedVariables false
namespace Go.Proofs.Ytmcebepfoleknaa
open Go.RowKit
end Go.Proofs.Ytmcebepfoleknaa
namespace Go.Proofs.Ytmcebepfoleknaa
open Go.RowKit
end Go.Proofs.Ytmcebepfoleknaa
set_option linter.unusedVariables false
namespace Go.Proofs.Ytmcebepfoleknaa
open Go.RowKit
end Go.Proofs.Ytmcebepfoleknaa
