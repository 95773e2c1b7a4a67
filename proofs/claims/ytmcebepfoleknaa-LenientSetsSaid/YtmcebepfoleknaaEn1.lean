/- encode.parts of a text. · encode.parts of a number with a sign. · encode.parts of a list. · encode.parts of a list: the walk. -/
import Derived.Test.YtmcebepfoleknaaEncParts
import Derived.Laws.AppendOwn
set_option linter.unusedVariables false
namespace Go.Proofs.Ytmcebepfoleknaa
open Go.RowKit
end Go.Proofs.Ytmcebepfoleknaa
set_option linter.unusedVariables false
namespace Go.Proofs.Ytmcebepfoleknaa
open Go.RowKit
end Go.Proofs.Ytmcebepfoleknaa
set_option linter.unusedVariables false
namespace Go.Proofs.Ytmcebepfoleknaa
open Go.RowKit
/-- A row of bytes starts there. -/
def U8 (w : World) (A : Option Addr) : Prop := ∃ g cs k, A = some ⟨g, 0, none⟩ ∧ w.heap[g]? = some (.cells cs 5 k)
theorem U8.chg {S : Nat → Prop} {w w' : World} {A : Option Addr} (h : U8 w A) (hc : Chg S w w') (hn : ∀ g, A = some ⟨g, 0, none⟩ → ¬ S g) : U8 w' A := by
  obtain ⟨g, cs, k, rfl, hg⟩ := h
  exact ⟨g, cs, k, rfl, (hc.block g (Array.getElem?_eq_some_iff.1 hg).1 (hn g rfl)).trans hg⟩
theorem U8.ne_blk {w : World} {g : Nat} {t : TypeId} {cs : Array Value} {q : Nat} (h : U8 w (some ⟨g, 0, none⟩)) (hb : Blk w q t cs) (ht : t ≠ 5) : g ≠ q := by
  rintro rfl
  obtain ⟨g2, cs2, k2, e, h2⟩ := h
  injection e with e
  injection e with e
  subst e
  have h3 := h2.symm.trans hb
  injection h3 with h3
  injection h3 with h4 h5
  exact ht h5.symm
theorem FvOk.chg {S : Nat → Prop} {w w' : World} {f : FV} (h : FvOk w f) (hc : Chg S w w') (hu : U8 w f.s.A) (hn : ∀ g, f.s.A = some ⟨g, 0, none⟩ → ¬ S g) : FvOk w' f := by
  refine ⟨h.w0, h.w1, h.n, h.n1, h.n2, h.a1, h.a2, hc.sl h.s (fun _ b off e hb => ?_) rfl⟩
  obtain ⟨g, cs, k, e2, hg⟩ := hu
  rw [e2] at e
  injection e with e
  injection e with e
  subst e
  exact hn _ e2 hb
end Go.Proofs.Ytmcebepfoleknaa
set_option linter.unusedVariables false
namespace Go.Proofs.Ytmcebepfoleknaa
open Go.RowKit
end Go.Proofs.Ytmcebepfoleknaa
