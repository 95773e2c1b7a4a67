/- schema.Word. -/
import Derived.Test.YtehjibbjkadoiaaM6
import Derived.Test.YtehjibbjkadoiaaM2
set_option linter.unusedVariables false
namespace Go.Proofs.Ytehjibbjkadoiaa
open Go.RowKit
def wordA (k : Nat) : ByteArray := match k with
  | 1 => ⟨#[104, 101, 108, 108, 111]⟩ | 2 => ⟨#[97, 99, 107]⟩ | 3 => ⟨#[115, 117, 98, 109, 105, 116]⟩ | 4 => ⟨#[115, 116, 97, 114, 116]⟩ | 5 => ⟨#[99, 111, 109, 109, 97, 110, 100]⟩
  | 6 => ⟨#[114, 101, 112, 108, 121]⟩ | 7 => ⟨#[99, 97, 110, 99, 101, 108]⟩ | 8 => ⟨#[113, 117, 101, 114, 121]⟩ | 9 => ⟨#[115, 116, 97, 116, 117, 115]⟩ | 10 => ⟨#[101, 114, 114, 111, 114]⟩ | _ => ⟨#[]⟩
end Go.Proofs.Ytehjibbjkadoiaa
