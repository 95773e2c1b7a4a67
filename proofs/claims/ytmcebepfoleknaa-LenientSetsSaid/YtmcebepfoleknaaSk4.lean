/- The document's Bytes, Bare and Put of fields. · The document's Put of fields. · The walk of SkipAgain. · The walk of SkipPuts. -/
import Derived.Test.YtmcebepfoleknaaSk2
import Derived.Test.YtmcebepfoleknaaM5
import Derived.Test.YtmcebepfoleknaaSk3
import Derived.Deep.QuietTactic
import Derived.BigQuiet
set_option linter.unusedVariables false
namespace Go.Proofs.Ytmcebepfoleknaa
open Go.RowKit
end Go.Proofs.Ytmcebepfoleknaa
set_option linter.unusedVariables false
namespace Go.Proofs.Ytmcebepfoleknaa
open Go.RowKit
end Go.Proofs.Ytmcebepfoleknaa
set_option linter.unusedVariables false
namespace Go.Proofs.Ytmcebepfoleknaa
open Go.RowKit
end Go.Proofs.Ytmcebepfoleknaa
set_option linter.unusedVariables false
namespace Go.Proofs.Ytmcebepfoleknaa
open Go.RowKit
end Go.Proofs.Ytmcebepfoleknaa
