/- The document's feeder's end. -/
import Derived.Test.YtabklpgimjmdlaaFdRef
import Derived.Test.YtabklpgimjmdlaaFdA
set_option linter.unusedVariables false
namespace Go.Proofs.Ytabklpgimjmdlaa
open Go.RowKit
/-- Rows whose places were moved. -/
theorem moved_row {B2 L : Nat} {Al : Option Addr} {cl K : Nat} {fs : List FdV} {w w' : World} (h2 : w.ownsRow B2 61 3 (.slice Al L cl) L (fs.flatMap fdC)) (hL : fs.length = L) (h3 : ∀ f ∈ fs, Pay B2 w f.A f.c f.f.pl) (ho : w'.ownsRow B2 61 3 (.slice Al L cl) L ((fs.map (FdV.shift K)).flatMap fdC)) (hch : Chg (fun q => (Value.slice Al L cl).ownBlock = some q) w w') : FdRow B2 w' (.slice Al L cl) ((fs.map FdV.f).map (Fnd.shift K)) := by
  refine ⟨fs.map (FdV.shift K), ?_, ?_, ?_⟩
  · rw [List.map_map, List.map_map]; rfl
  · rw [List.length_map, hL]; exact ho
  · intro f hf
    obtain ⟨f0, hf0, rfl⟩ := List.mem_map.1 hf
    refine Pay.chg (h3 f0 hf0) hch fun b cs k hb hbk hs => ?_
    rcases h2.2 with ⟨h4, -⟩ | ⟨g2, cap, cur, h4, -, hg2, -⟩
    · rw [h4] at hs; cases hs
    · rw [h4] at hs
      injection hs with hs
      simp only at hs
      subst hs
      rw [hg2] at hbk
      injection hbk with hbk
      injection hbk with _ h6
      exact absurd h6 (by decide)
end Go.Proofs.Ytabklpgimjmdlaa
