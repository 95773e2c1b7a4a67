/- schema.Word. -/
import Derived.Test.YtefoccpgnijamaaM6
import Derived.Test.YtefoccpgnijamaaM2
set_option linter.unusedVariables false
namespace Go.Proofs.Ytefoccpgnijamaa
open Go.RowKit
def wordA (k : Nat) : ByteArray := match k with
  | 1 => ⟨#[104, 101, 108, 108, 111]⟩ | 2 => ⟨#[97, 99, 107]⟩ | 3 => ⟨#[115, 117, 98, 109, 105, 116]⟩ | 4 => ⟨#[115, 116, 97, 114, 116]⟩ | 5 => ⟨#[99, 111, 109, 109, 97, 110, 100]⟩
  | 6 => ⟨#[114, 101, 112, 108, 121]⟩ | 7 => ⟨#[99, 97, 110, 99, 101, 108]⟩ | 8 => ⟨#[113, 117, 101, 114, 121]⟩ | 9 => ⟨#[115, 116, 97, 116, 117, 115]⟩ | 10 => ⟨#[101, 114, 114, 111, 114]⟩ | _ => ⟨#[]⟩
set_option maxRecDepth 100000 in
set_option maxHeartbeats 8000000 in
theorem sword_any (k : Nat) (hk : k ≤ 255) (w : World) : Calls Try.prog 37 #[.int .u8 (k : Nat)] w fun e w' => e = .returned (.string (wordA k)) ∧ Below w.heap.size w w' := by
  by_cases hr : 11 ≤ k
  · have hS : wordA k = ⟨#[]⟩ := by unfold wordA; split <;> first | omega | rfl
    rw [hS]
    have hge : (11 : Int) ≤ (k : Int) := by omega
    clear hS
    go_enter Try.func37, Try.ntmps37
    go_wp2
    go_ret
    exact ⟨rfl, bw_a (Below.refl _ w) _⟩
  · have h : k = 0 ∨ k = 1 ∨ k = 2 ∨ k = 3 ∨ k = 4 ∨ k = 5 ∨ k = 6 ∨ k = 7 ∨ k = 8 ∨ k = 9 ∨ k = 10 := by omega
    clear hr hk
    rcases h with rfl | rfl | rfl | rfl | rfl | rfl | rfl | rfl | rfl | rfl | rfl <;>
    · go_enter Try.func37, Try.ntmps37
      go_wp2
      go_ret
      exact ⟨rfl, bw_a (Below.refl _ w) _⟩
end Go.Proofs.Ytefoccpgnijamaa
