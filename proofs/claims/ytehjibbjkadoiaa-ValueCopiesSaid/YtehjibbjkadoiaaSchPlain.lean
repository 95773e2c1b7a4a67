/- schema.Wire, schema.Most, and the document's. -/
import Derived.Test.YtehjibbjkadoiaaM6
import Derived.Test.YtehjibbjkadoiaaM2
set_option linter.unusedVariables false
namespace Go.Proofs.Ytehjibbjkadoiaa
open Go.RowKit
def wireN (t : Int) : Nat := if t = 5 then 5 else if t = 6 then 1 else if 7 ≤ t ∧ t ≤ 10 then 2 else 0
def wireK (t : Int) : Bool := decide (1 ≤ t ∧ t ≤ 10)
def mostN (t : Int) : Nat := if t = 7 ∨ t = 10 then 64 else if t = 8 then 4096 else if t = 9 then 7000 else 0
def wireD (t : Int) : Nat := if t ≤ 4 then 0 else if t = 5 then 5 else if t = 6 then 1 else 2
set_option maxRecDepth 100000 in
theorem swire_any (t : Int) (w : World) : Calls Try.prog 26 #[.int .i64 t] w fun e w' => e = .returned (.tuple #[.int .u8 (wireN t : Nat), .bool (wireK t)]) ∧ w' = w := by
  by_cases hr : 1 ≤ t ∧ t ≤ 10
  · have h : t = 1 ∨ t = 2 ∨ t = 3 ∨ t = 4 ∨ t = 5 ∨ t = 6 ∨ t = 7 ∨ t = 8 ∨ t = 9 ∨ t = 10 := by omega
    clear hr
    rcases h with rfl | rfl | rfl | rfl | rfl | rfl | rfl | rfl | rfl | rfl
    · go_enter Try.func26, Try.ntmps26
      go_wp2
      refine bodyPost_ret (v := .tuple #[.int .u8 (wireN 1 : Nat), .bool (wireK 1)]) (by simp [results, Try.results26, go_sem, wireN, wireK]) rfl ⟨rfl, rfl⟩
    · go_enter Try.func26, Try.ntmps26
      go_wp2
      refine bodyPost_ret (v := .tuple #[.int .u8 (wireN 2 : Nat), .bool (wireK 2)]) (by simp [results, Try.results26, go_sem, wireN, wireK]) rfl ⟨rfl, rfl⟩
    · go_enter Try.func26, Try.ntmps26
      go_wp2
      refine bodyPost_ret (v := .tuple #[.int .u8 (wireN 3 : Nat), .bool (wireK 3)]) (by simp [results, Try.results26, go_sem, wireN, wireK]) rfl ⟨rfl, rfl⟩
    · go_enter Try.func26, Try.ntmps26
      go_wp2
      refine bodyPost_ret (v := .tuple #[.int .u8 (wireN 4 : Nat), .bool (wireK 4)]) (by simp [results, Try.results26, go_sem, wireN, wireK]) rfl ⟨rfl, rfl⟩
    · go_enter Try.func26, Try.ntmps26
      go_wp2
      refine bodyPost_ret (v := .tuple #[.int .u8 (wireN 5 : Nat), .bool (wireK 5)]) (by simp [results, Try.results26, go_sem, wireN, wireK]) rfl ⟨rfl, rfl⟩
    · go_enter Try.func26, Try.ntmps26
      go_wp2
      refine bodyPost_ret (v := .tuple #[.int .u8 (wireN 6 : Nat), .bool (wireK 6)]) (by simp [results, Try.results26, go_sem, wireN, wireK]) rfl ⟨rfl, rfl⟩
    · go_enter Try.func26, Try.ntmps26
      go_wp2
      refine bodyPost_ret (v := .tuple #[.int .u8 (wireN 7 : Nat), .bool (wireK 7)]) (by simp [results, Try.results26, go_sem, wireN, wireK]) rfl ⟨rfl, rfl⟩
    · go_enter Try.func26, Try.ntmps26
      go_wp2
      refine bodyPost_ret (v := .tuple #[.int .u8 (wireN 8 : Nat), .bool (wireK 8)]) (by simp [results, Try.results26, go_sem, wireN, wireK]) rfl ⟨rfl, rfl⟩
    · go_enter Try.func26, Try.ntmps26
      go_wp2
      refine bodyPost_ret (v := .tuple #[.int .u8 (wireN 9 : Nat), .bool (wireK 9)]) (by simp [results, Try.results26, go_sem, wireN, wireK]) rfl ⟨rfl, rfl⟩
    · go_enter Try.func26, Try.ntmps26
      go_wp2
      refine bodyPost_ret (v := .tuple #[.int .u8 (wireN 10 : Nat), .bool (wireK 10)]) (by simp [results, Try.results26, go_sem, wireN, wireK]) rfl ⟨rfl, rfl⟩
  · have hB : wireK t = false := decide_eq_false hr
    have hN : wireN t = 0 := by unfold wireN; rw [if_neg (by omega), if_neg (by omega), if_neg (by omega)]
    rw [hB, hN]
    have b1 : (t == 1) = false := by simp; omega
    have b2 : (t == 2) = false := by simp; omega
    have b3 : (t == 3) = false := by simp; omega
    have b4 : (t == 4) = false := by simp; omega
    have b5 : (t == 5) = false := by simp; omega
    have b6 : (t == 6) = false := by simp; omega
    have b7 : (t == 7) = false := by simp; omega
    have b8 : (t == 8) = false := by simp; omega
    have b9 : (t == 9) = false := by simp; omega
    have b10 : (t == 10) = false := by simp; omega
    clear hB hN hr
    go_enter Try.func26, Try.ntmps26
    go_wp2
    refine bodyPost_ret (v := .tuple #[.int .u8 0, .bool false]) (by simp [results, Try.results26, go_sem]) rfl ⟨rfl, rfl⟩
set_option maxRecDepth 100000 in
theorem smost_any (t : Int) (w : World) : Calls Try.prog 78 #[.int .i64 t] w fun e w' => e = .returned (.int .i64 (mostN t : Nat)) ∧ w' = w := by
  by_cases hr : 7 ≤ t ∧ t ≤ 10
  · have h : t = 7 ∨ t = 8 ∨ t = 9 ∨ t = 10 := by omega
    clear hr
    rcases h with rfl | rfl | rfl | rfl <;>
    · go_enter Try.func78, Try.ntmps78
      go_wp2
      go_ret
      exact ⟨rfl, rfl⟩
  · have hN : mostN t = 0 := by unfold mostN; rw [if_neg (by omega), if_neg (by omega), if_neg (by omega)]
    rw [hN]
    have b7 : (t == 7) = false := by simp; omega
    have b8 : (t == 8) = false := by simp; omega
    have b9 : (t == 9) = false := by simp; omega
    have b10 : (t == 10) = false := by simp; omega
    clear hN hr
    go_enter Try.func78, Try.ntmps78
    go_wp2
    go_ret
    exact ⟨rfl, rfl⟩
set_option maxRecDepth 100000 in
theorem rmost_any (t : Int) (w : World) : Calls Try.prog 80 #[.int .i64 t] w fun e w' => e = .returned (.int .i64 (mostN t : Nat)) ∧ w' = w := by
  by_cases hr : 7 ≤ t ∧ t ≤ 10
  · have h : t = 7 ∨ t = 8 ∨ t = 9 ∨ t = 10 := by omega
    clear hr
    rcases h with rfl | rfl | rfl | rfl <;>
    · go_enter Try.func80, Try.ntmps80
      go_wp2
      go_ret
      exact ⟨rfl, rfl⟩
  · have hN : mostN t = 0 := by unfold mostN; rw [if_neg (by omega), if_neg (by omega), if_neg (by omega)]
    rw [hN]
    have b7 : (t == 7) = false := by simp; omega
    have b8 : (t == 8) = false := by simp; omega
    have b9 : (t == 9) = false := by simp; omega
    have b10 : (t == 10) = false := by simp; omega
    clear hN hr
    go_enter Try.func80, Try.ntmps80
    go_wp2
    go_ret
    exact ⟨rfl, rfl⟩
set_option maxRecDepth 100000 in
theorem rwire_any (t : Int) (w : World) : Calls Try.prog 45 #[.int .i64 t] w fun e w' => e = .returned (.int .u8 (wireD t : Nat)) ∧ w' = w := by
  by_cases h4 : t ≤ 4
  · have hN : wireD t = 0 := by unfold wireD; rw [if_pos h4]
    have h4n : ¬ 4 < t := by omega
    rw [hN]
    clear hN
    go_enter Try.func45, Try.ntmps45
    go_wp2
    go_ret
    exact ⟨rfl, rfl⟩
  · have h4n : 4 < t := by omega
    by_cases h5 : t = 5
    · subst h5
      go_enter Try.func45, Try.ntmps45
      go_wp2
      go_ret
      exact ⟨rfl, rfl⟩
    · by_cases h6 : t = 6
      · subst h6
        go_enter Try.func45, Try.ntmps45
        go_wp2
        go_ret
        exact ⟨rfl, rfl⟩
      · have hN : wireD t = 2 := by unfold wireD; rw [if_neg h4, if_neg h5, if_neg h6]
        rw [hN]
        have b5 : (t == 5) = false := by simpa using h5
        have b6 : (t == 6) = false := by simpa using h6
        clear hN h5 h6
        go_enter Try.func45, Try.ntmps45
        go_wp2
        go_ret
        exact ⟨rfl, rfl⟩
end Go.Proofs.Ytehjibbjkadoiaa
