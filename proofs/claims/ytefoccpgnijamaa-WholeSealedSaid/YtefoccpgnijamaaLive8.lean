/- What must be whatever is asked (schema). -/
import Derived.Test.YtefoccpgnijamaaSchFind
import Derived.Test.YtefoccpgnijamaaSchKinds
import Derived.Test.YtefoccpgnijamaaSchPlain
import Derived.Test.YtefoccpgnijamaaSchKind
set_option linter.unusedVariables false
namespace Go.Proofs.Ytefoccpgnijamaa
open Go.RowKit
theorem row_slice {w : World} {base e size n : Nat} {v : Value} {xs : List Value} (h : w.ownsRow base e size v n xs) : ∃ A c, v = .slice A n c := by
  rcases h.2 with ⟨rfl, h2⟩ | ⟨g, cap, cur, rfl, _⟩
  · exact ⟨none, 0, by rw [h2]⟩
  · exact ⟨_, _, rfl⟩
theorem l8_of1 (W : World) : Calls Try.prog 9 #[.int .u8 6, .int .i64 3] W fun e w' => ∃ A c, e = .returned (.tuple #[.slice A 7 c, .bool true]) ∧ Below W.heap.size W w' :=
  ((callsIn_wide (n := 4)).1 (sof2_in 4 (by omega) 6 3 W (by omega) (by omega))).mono fun e w' ⟨vv, he, ho, hb⟩ => by
    have hl : (ofL 6 3).length = 7 := by decide
    rw [hl] at he ho
    obtain ⟨A, c, rfl⟩ := row_slice ho
    exact ⟨A, c, he, hb⟩
theorem l8_of2 (W : World) : Calls Try.prog 9 #[.int .u8 8, .int .i64 1] W fun e w' => ∃ A c, e = .returned (.tuple #[.slice A 0 c, .bool false]) ∧ Below W.heap.size W w' :=
  ((callsIn_wide (n := 4)).1 (sof2_in 4 (by omega) 8 1 W (by omega) (by omega))).mono fun e w' ⟨vv, he, ho, hb⟩ => by
    have hl : (ofL 8 1).length = 0 := by decide
    rw [hl] at he ho
    obtain ⟨A, c, rfl⟩ := row_slice ho
    exact ⟨A, c, he, hb⟩
theorem l8_find (W : World) : Calls Try.prog 11 #[.int .u8 6, .int .i64 3, .int .i64 7] W fun e w' => e = .returned (.tuple #[.agg #[.int .i64 7, .int .i64 3, .int .i64 5], .bool true]) ∧ Below W.heap.size W w' :=
  ((callsIn_wide (n := 4)).1 (sfind_in 4 (by omega) 6 3 7 W (by omega) (by omega))).mono fun e w' ⟨he, hb⟩ => by
    have hl : finS 6 3 7 = some ⟨6, 3, 7, 3, 5⟩ := by decide
    rw [hl] at he
    exact ⟨he, hb⟩
theorem l8_kinds (W : World) : Calls Try.prog 14 #[.int .i64 1] W fun e w' => ∃ A c, e = .returned (.slice A 9 c) ∧ Below W.heap.size W w' :=
  ((callsIn_wide (n := 4)).1 (skinds_in 4 (by omega) 1 W (by omega) (by omega))).mono fun e w' ⟨vv, he, ho, hb⟩ => by
    have hl : (kinds 1).length = 9 := by decide
    rw [hl] at ho
    obtain ⟨A, c, rfl⟩ := row_slice ho
    exact ⟨A, c, he, hb⟩
theorem l8_wire (W : World) : Calls Try.prog 33 #[.int .i64 5] W fun e w' => e = .returned (.tuple #[.int .u8 5, .bool true]) ∧ w' = W := swire_any 5 W
theorem l8_most (W : World) : Calls Try.prog 34 #[.int .i64 9] W fun e w' => e = .returned (.int .i64 7000) ∧ w' = W := smost_any 9 W
theorem l8_word (W : World) : Calls Try.prog 37 #[.int .u8 1] W fun e w' => e = .returned (.string ⟨#[104, 101, 108, 108, 111]⟩) ∧ Below W.heap.size W w' := sword_any 1 (by omega) W
theorem l8_kind (W : World) : Calls Try.prog 36 #[.string ⟨#[115, 117, 98, 109, 105, 116]⟩] W fun e w' => e = .returned (.tuple #[.int .u8 3, .bool true]) ∧ Below W.heap.size W w' :=
  (skind_any ⟨#[115, 117, 98, 109, 105, 116]⟩ W).mono fun e w' ⟨he, hb⟩ => by
    have hl : kindN ⟨#[115, 117, 98, 109, 105, 116]⟩ = 3 := by decide
    rw [hl] at he
    exact ⟨he, hb⟩
set_option maxRecDepth 100000 in
set_option maxHeartbeats 2000000 in
theorem live8_any (w : World) : Calls Try.prog 8 #[] w fun e w' => e = .returned (.bool true) ∧ Below w.heap.size w w' := by
  go_enter Try.func8, Try.ntmps8
  go_wp2_with fail
  refine (l8_of1 _).mono ?_
  rintro e w1 ⟨A1, c1, rfl, hb1⟩
  go_wp2_with fail
  refine (l8_of2 _).mono ?_
  rintro e w2 ⟨A2, c2, rfl, hb2⟩
  have b2 := bw_t hb1 hb2
  go_wp2_with fail
  refine (l8_find _).mono ?_
  rintro e w3 ⟨rfl, hb3⟩
  have b3 := bw_t b2 hb3
  go_wp2_with fail
  have hk3 := Blk.new w3 28 #[.int .i64 7, .int .i64 3, .int .i64 5]
  have b4 := bw_a b3 (.cells #[.int .i64 7, .int .i64 3, .int .i64 5] 28)
  refine (l8_wire _).mono ?_
  rintro e w4 ⟨rfl, rfl⟩
  go_wp2_with fail
  refine (l8_kind _).mono ?_
  rintro e w5 ⟨rfl, hb5⟩
  have b5 := bw_t b4 hb5
  have hk5 := hk3.below hb5 hk3.lt
  have d0 := hk5.cell 0
  have d1 := hk5.cell 1
  have d2 := hk5.cell 2
  simp only [List.getElem?_toArray, List.getElem?_cons_zero, List.getElem?_cons_succ] at d0 d1 d2
  clear hk3 hk5 hb1 hb2 hb3 hb5 b2 b3 b4
  go_wp2_with (first | (go_at_call 37; refine (l8_word _).mono ?_; rintro e w6 ⟨rfl, hb6⟩) | (go_at_call 34; refine (l8_most _).mono ?_; rintro e w7 ⟨rfl, rfl⟩) | (go_at_call 14; refine (l8_kinds _).mono ?_; rintro e w8 ⟨A8, c8, rfl, hb8⟩))
  go_ret
  exact ⟨rfl, bw_t (bw_t b5 hb6) hb8⟩
end Go.Proofs.Ytefoccpgnijamaa
