/- What must be whatever is asked (schema). -/
import Derived.Test.YtehjibbjkadoiaaSchFind
import Derived.Test.YtehjibbjkadoiaaSchKinds
import Derived.Test.YtehjibbjkadoiaaSchPlain
import Derived.Test.YtehjibbjkadoiaaSchKind
set_option linter.unusedVariables false
namespace Go.Proofs.Ytehjibbjkadoiaa
open Go.RowKit
theorem row_slice {w : World} {base e size n : Nat} {v : Value} {xs : List Value} (h : w.ownsRow base e size v n xs) : ∃ A c, v = .slice A n c := by
  rcases h.2 with ⟨rfl, h2⟩ | ⟨g, cap, cur, rfl, _⟩
  · exact ⟨none, 0, by rw [h2]⟩
  · exact ⟨_, _, rfl⟩
theorem l8_of1 (W : World) : Calls Try.prog 28 #[.int .u8 6, .int .i64 3] W fun e w' => ∃ A c, e = .returned (.tuple #[.slice A 7 c, .bool true]) ∧ Below W.heap.size W w' :=
  ((callsIn_wide (n := 4)).1 (sof2_in 4 (by omega) 6 3 W (by omega) (by omega))).mono fun e w' ⟨vv, he, ho, hb⟩ => by
    have hl : (ofL 6 3).length = 7 := by decide
    rw [hl] at he ho
    obtain ⟨A, c, rfl⟩ := row_slice ho
    exact ⟨A, c, he, hb⟩
theorem l8_of2 (W : World) : Calls Try.prog 28 #[.int .u8 8, .int .i64 1] W fun e w' => ∃ A c, e = .returned (.tuple #[.slice A 0 c, .bool false]) ∧ Below W.heap.size W w' :=
  ((callsIn_wide (n := 4)).1 (sof2_in 4 (by omega) 8 1 W (by omega) (by omega))).mono fun e w' ⟨vv, he, ho, hb⟩ => by
    have hl : (ofL 8 1).length = 0 := by decide
    rw [hl] at he ho
    obtain ⟨A, c, rfl⟩ := row_slice ho
    exact ⟨A, c, he, hb⟩
theorem l8_find (W : World) : Calls Try.prog 25 #[.int .u8 6, .int .i64 3, .int .i64 7] W fun e w' => e = .returned (.tuple #[.agg #[.int .i64 7, .int .i64 3, .int .i64 5], .bool true]) ∧ Below W.heap.size W w' :=
  ((callsIn_wide (n := 4)).1 (sfind_in 4 (by omega) 6 3 7 W (by omega) (by omega))).mono fun e w' ⟨he, hb⟩ => by
    have hl : finS 6 3 7 = some ⟨6, 3, 7, 3, 5⟩ := by decide
    rw [hl] at he
    exact ⟨he, hb⟩
theorem l8_wire (W : World) : Calls Try.prog 26 #[.int .i64 5] W fun e w' => e = .returned (.tuple #[.int .u8 5, .bool true]) ∧ w' = W := swire_any 5 W
theorem l8_most (W : World) : Calls Try.prog 78 #[.int .i64 9] W fun e w' => e = .returned (.int .i64 7000) ∧ w' = W := smost_any 9 W
end Go.Proofs.Ytehjibbjkadoiaa
