/- The walk of InletReads. -/
import Derived.Test.YtpicgemjfodlcaaProg
import Derived.Test.YtpicgemjfodlcaaBase
import Derived.Test.YtpicgemjfodlcaaOneAsk
import Derived.Test.YtpicgemjfodlcaaOpens
import Derived.Deep.RegionHeld3
import Derived.Test.YtpicgemjfodlcaaMidQuiet
set_option linter.unusedVariables false
namespace Go.Proofs.Ytpicgemjfodlcaa
open Go.RowKit
/-- An ask: what, and how many. -/
abbrev Ak := Nat × Int
def akv (a : Ak) : List Value := [.int .u8 (a.1 : Int), .int .i64 a.2]
def akOk (a : Ak) : Prop := a.1 ≤ 255 ∧ -9223372036854775808 ≤ a.2 ∧ a.2 ≤ 9223372036854775807
theorem openAk {P : Program} {W : World} {t : TypeId} {f0 f1 : Field} (ht : P.underlying t = some (.struct #[f0, f1])) (o0 : f0.offset = 0) (o1 : f1.offset = 1) (c0 : P.cellsOf f0.type = 1) (c1 : P.cellsOf f1.type = 1) (hC : P.cellsOf t = 1 + 1)
    (h0 : P.underlying f0.type = some (.int .u8)) (h1 : P.underlying f1.type = some (.int .i64)) : Opens P W t akv akOk :=
  (opens_struct2 (k0 := 1) (k1 := 1) ht o0 o1 c0 c1 hC (opens_int h0) (opens_int h1)).map (fun p => (p.1.toNat, p.2))
    fun p hp => ⟨by have := Go.Proofs.Ytpicgemjfodlcaa.wf_u8 hp.1; simp only [akv]; rw [Int.toNat_of_nonneg this.1]; rfl, by have := wf_u8 hp.1; show p.1.toNat ≤ 255; omega, (wf_i64 hp.2).1, (wf_i64 hp.2).2⟩
theorem openAsk (W : World) : Opens Try.prog W 32 akv akOk :=
  openAk Try.underlying32 rfl rfl (by kernel_rfl) (by kernel_rfl) (by kernel_rfl) Try.underlying5 Try.underlying3
end Go.Proofs.Ytpicgemjfodlcaa
