/- Fields that came in. -/
import Derived.Test.YtmcebepfoleknaaSk2
import Derived.Test.YtmcebepfoleknaaSk1
set_option linter.unusedVariables false
namespace Go.Proofs.Ytmcebepfoleknaa
open Go.ChangeShapes Go.WideShapes Go.ChangeAt Go.RowKit
theorem openFv (W : World) : Opens Try.prog W 44 fvC (FvOk W) :=
  (opens_struct5 (e0 := fun n : Int => .int .i64 n) (e1 := fun n : Int => .int .u8 n) (e2 := fun n : Int => .int .u64 n) (e3 := fun s : SlV UInt8 => .slice s.A s.xs.length s.c) (e4 := fun n : Int => .int .i64 n)
    Try.underlying44 (by kernel_rfl) ⟨rfl, rfl, rfl, rfl, rfl⟩ ⟨by kernel_rfl, by kernel_rfl, by kernel_rfl, by kernel_rfl, by kernel_rfl⟩
    (opens_int Try.underlying3) (opens_int Try.underlying5) (opens_int Try.underlying24) (opens_bytes Try.underlying22 Try.underlying5 (by kernel_rfl)) (opens_int Try.underlying3)).map
    (fun p => ⟨p.1, p.2.1, p.2.2.1.toNat, p.2.2.2.1, p.2.2.2.2⟩) fun p hp => by
      have h0 := wf_i64 hp.1
      have h1 := wf_u8 hp.2.1
      have h2 := wf_u64 hp.2.2.1
      have h4 := wf_i64 hp.2.2.2.2
      refine ⟨by simp only [fvC]; rw [Int.toNat_of_nonneg h2.1], ?_⟩
      exact ⟨h1.1, by have := h1.2; show p.2.1 ≤ 255; omega, by show p.2.2.1.toNat ≤ _; omega, h0.1, h0.2, h4.1, h4.2, hp.2.2.2.1⟩
end Go.Proofs.Ytmcebepfoleknaa
