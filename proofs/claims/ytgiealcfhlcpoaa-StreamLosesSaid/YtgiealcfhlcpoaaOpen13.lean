/- Frames that came in. -/
import Derived.Test.YtgiealcfhlcpoaaSk1
import Derived.Test.YtgiealcfhlcpoaaM3
set_option linter.unusedVariables false
namespace Go.Proofs.Ytgiealcfhlcpoaa
open Go.ChangeShapes Go.WideShapes Go.ChangeAt Go.RowKit
structure FrV where
  t : Nat
  s : SlV UInt8
def frC (f : FrV) : List Value := [.int .u8 f.t, .slice f.s.A f.s.xs.length f.s.c]
def FrOk (W : World) (f : FrV) : Prop := f.t ≤ 255 ∧ Sl W f.s.A f.s.c (f.s.xs.map bv)
theorem openFrame (W : World) : Opens Try.prog W 29 frC (FrOk W) :=
  (opens_struct2 (k0 := 1) (k1 := 1) (enc0 := fun n : Int => [.int .u8 n]) (enc1 := fun s : SlV UInt8 => [.slice s.A s.xs.length s.c])
    Try.underlying29 rfl rfl (by kernel_rfl) (by kernel_rfl) (by kernel_rfl) (opens_int Try.underlying5) (opens_bytes Try.underlying25 Try.underlying5 (by kernel_rfl))).map
    (fun p => ⟨p.1.toNat, p.2⟩) fun p hp => by
      have h1 := wf_u8 hp.1
      exact ⟨by simp only [frC]; rw [Int.toNat_of_nonneg h1.1]; rfl, by show p.1.toNat ≤ 255; omega, hp.2⟩
end Go.Proofs.Ytgiealcfhlcpoaa
