/- tag.Make, Split, Width, and the document's. -/
import Derived.Test.YtfbmdeegcoocnaaProg
import Derived.Test.YtfbmdeegcoocnaaBase
set_option linter.unusedVariables false
namespace Go.Proofs.Ytfbmdeegcoocnaa
open Go.RowKit
def wireB (w : Int) : Bool := decide (w = 0 ∨ w = 1 ∨ w = 2 ∨ w = 5)
def widthN (w : Int) : Int := if w = 1 then 8 else if w = 5 then 4 else 0
/-- Make: the tag and the error. -/
def mk (num wire : Int) : Int × Int := if num < 1 ∨ 536870911 < num then (0, 1) else if wireB wire = false then (0, 7) else (8 * num + wire, 0)
def spl (n : Int) : Int × Int × Int := if n / 8 < 1 ∨ 536870911 < n / 8 then (0, 0, 1) else if wireB (n % 8) = false then (0, 0, 7) else (n / 8, n % 8, 0)
theorem mk_bad {n x : Int} (h : 1 ≤ n) (h' : n ≤ 536870911) (hw : wireB x = false) : mk n x = (0, 7) := by unfold mk; rw [if_neg (by omega), if_pos hw]
theorem mk_ok {n x : Int} (h : 1 ≤ n) (h' : n ≤ 536870911) (hw : wireB x = true) : mk n x = (8 * n + x, 0) := by unfold mk; rw [if_neg (by omega), if_neg (by simp [hw])]
theorem spl_bad {n : Int} (h : 1 ≤ n / 8) (h' : n / 8 ≤ 536870911) (hw : wireB (n % 8) = false) : spl n = (0, 0, 7) := by unfold spl; rw [if_neg (by omega), if_pos hw]
theorem spl_ok {n : Int} (h : 1 ≤ n / 8) (h' : n / 8 ≤ 536870911) (hw : wireB (n % 8) = true) : spl n = (n / 8, n % 8, 0) := by unfold spl; rw [if_neg (by omega), if_neg (by simp [hw])]
set_option maxRecDepth 100000 in
set_option maxHeartbeats 400000 in
theorem width_any (x : Int) (w : World) (h1 : 0 ≤ x) (h2 : x ≤ 255) :
    Calls Try.prog 90 #[.int .u8 x] w fun e w' => e = .returned (.tuple #[.int .i64 (widthN x), .bool (wireB x)]) ∧ w = w' := by
  by_cases a0 : x = 0
  · subst a0
    go_enter Try.func90, Try.ntmps90
    go_wp2
    go_ret2
    exact ⟨by simp [widthN, wireB], rfl⟩
  by_cases a1 : x = 1
  · subst a1
    go_enter Try.func90, Try.ntmps90
    go_wp2
    go_ret2
    exact ⟨by simp [widthN, wireB], rfl⟩
  by_cases a2 : x = 2
  · subst a2
    go_enter Try.func90, Try.ntmps90
    go_wp2
    go_ret2
    exact ⟨by simp [widthN, wireB], rfl⟩
  by_cases a5 : x = 5
  · subst a5
    go_enter Try.func90, Try.ntmps90
    go_wp2
    go_ret2
    exact ⟨by simp [widthN, wireB], rfl⟩
  · have e0 : (x == 0) = false := by simpa using a0
    have e1 : (x == 1) = false := by simpa using a1
    have e2 : (x == 2) = false := by simpa using a2
    have e5 : (x == 5) = false := by simpa using a5
    go_enter Try.func90, Try.ntmps90
    go_wp2
    go_ret2
    exact ⟨by simp [widthN, wireB, a0, a1, a2, a5], rfl⟩
set_option maxRecDepth 100000 in
set_option maxHeartbeats 400000 in
theorem wire_any (x : Int) (w : World) :
    Calls Try.prog 86 #[.int .u8 x] w fun e w' => e = .returned (.bool (wireB x)) ∧ w = w' := by
  by_cases a0 : x = 0
  · subst a0
    go_enter Try.func86, Try.ntmps86
    go_wp2
    go_ret
    exact ⟨by simp [wireB], rfl⟩
  have e0 : (x == 0) = false := by simpa using a0
  by_cases a1 : x = 1
  · subst a1
    go_enter Try.func86, Try.ntmps86
    go_wp2
    go_ret
    exact ⟨by simp [wireB], rfl⟩
  have e1 : (x == 1) = false := by simpa using a1
  by_cases a2 : x = 2
  · subst a2
    go_enter Try.func86, Try.ntmps86
    go_wp2
    go_ret
    exact ⟨by simp [wireB], rfl⟩
  have e2 : (x == 2) = false := by simpa using a2
  go_enter Try.func86, Try.ntmps86
  go_wp2
  go_ret
  exact ⟨ret_bool (by simp [wireB, a0, a1, a2]; by_cases h : x = 5 <;> simp [h]), rfl⟩
theorem wireB_lt {x : Int} (h : wireB x = true) : 0 ≤ x ∧ x ≤ 5 := by simp [wireB] at h; omega

set_option maxRecDepth 100000 in
set_option maxHeartbeats 400000 in
theorem make_any (n x : Int) (w : World) (h1 : 0 ≤ x) (h2 : x ≤ 255) :
    Calls Try.prog 63 #[.int .i64 n, .int .u8 x] w fun e w' => e = .returned (.tuple #[.int .u64 (mk n x).1, .int .i64 (mk n x).2]) ∧ w = w' := by
  by_cases a : n < 1
  · go_enter Try.func63, Try.ntmps63
    go_wp2
    go_ret2
    exact ⟨by simp [mk, a], rfl⟩
  by_cases b : 536870911 < n
  · go_enter Try.func63, Try.ntmps63
    go_wp2
    go_ret2
    exact ⟨by simp [mk, b], rfl⟩
  cases hw : wireB x
  all_goals
    go_enter Try.func63, Try.ntmps63
    go_wp2_with (go_at_call 90; refine (width_any _ _ h1 h2).mono ?_; rintro e w' ⟨rfl, rfl⟩)
    go_ret2
    first | rw [mk_bad (by omega) (by omega) hw] | rw [mk_ok (by omega) (by omega) hw]
    exact ⟨by simp; try omega, rfl⟩
set_option maxRecDepth 100000 in
set_option maxHeartbeats 400000 in
theorem rmake_any (n x : Int) (w : World) (h1 : 0 ≤ x) (h2 : x ≤ 255) :
    Calls Try.prog 53 #[.int .i64 n, .int .u8 x] w fun e w' => e = .returned (.tuple #[.int .u64 (mk n x).1, .int .i64 (mk n x).2]) ∧ w = w' := by
  by_cases a : n < 1
  · go_enter Try.func53, Try.ntmps53
    go_wp2
    go_ret2
    exact ⟨by simp [mk, a], rfl⟩
  by_cases b : 536870911 < n
  · go_enter Try.func53, Try.ntmps53
    go_wp2
    go_ret2
    exact ⟨by simp [mk, b], rfl⟩
  cases hw : wireB x
  all_goals
    go_enter Try.func53, Try.ntmps53
    go_wp2_with (go_at_call 86; refine (wire_any _ _).mono ?_; rintro e w' ⟨rfl, rfl⟩)
    go_ret2
    first | rw [mk_bad (by omega) (by omega) hw] | rw [mk_ok (by omega) (by omega) hw]
    exact ⟨by simp; try omega, rfl⟩
set_option maxRecDepth 100000 in
set_option maxHeartbeats 400000 in
theorem split_any (n : Int) (w : World) (h1 : 0 ≤ n) (h2 : n ≤ 18446744073709551615) :
    Calls Try.prog 112 #[.int .u64 n] w fun e w' => e = .returned (.tuple #[.int .i64 (spl n).1, .int .u8 (spl n).2.1, .int .i64 (spl n).2.2]) ∧ w = w' := by
  by_cases a : n / 8 < 1
  · go_enter Try.func112, Try.ntmps112
    go_wp2
    go_ret3
    exact ⟨by simp [spl, a], rfl⟩
  by_cases b : 536870911 < n / 8
  · go_enter Try.func112, Try.ntmps112
    go_wp2
    go_ret3
    exact ⟨by simp [spl, b], rfl⟩
  cases hw : wireB (n % 8)
  all_goals
    go_enter Try.func112, Try.ntmps112
    go_wp2_with (go_at_call 90; refine (width_any _ _ (by omega) (by omega)).mono ?_; rintro e w' ⟨rfl, rfl⟩)
    go_ret3
    first | rw [spl_bad (by omega) (by omega) hw] | rw [spl_ok (by omega) (by omega) hw]
    exact ⟨rfl, rfl⟩
set_option maxRecDepth 100000 in
set_option maxHeartbeats 400000 in
theorem rsplit_any (n : Int) (w : World) (h1 : 0 ≤ n) (h2 : n ≤ 18446744073709551615) :
    Calls Try.prog 83 #[.int .u64 n] w fun e w' => e = .returned (.tuple #[.int .i64 (spl n).1, .int .u8 (spl n).2.1, .int .i64 (spl n).2.2]) ∧ w = w' := by
  by_cases a : n / 8 < 1
  · go_enter Try.func83, Try.ntmps83
    go_wp2
    go_ret3
    exact ⟨by simp [spl, a], rfl⟩
  by_cases b : 536870911 < n / 8
  · go_enter Try.func83, Try.ntmps83
    go_wp2
    go_ret3
    exact ⟨by simp [spl, b], rfl⟩
  cases hw : wireB (n % 8)
  all_goals
    go_enter Try.func83, Try.ntmps83
    go_wp2_with (go_at_call 86; refine (wire_any _ _).mono ?_; rintro e w' ⟨rfl, rfl⟩)
    go_ret3
    first | rw [spl_bad (by omega) (by omega) hw] | rw [spl_ok (by omega) (by omega) hw]
    exact ⟨rfl, rfl⟩
end Go.Proofs.Ytfbmdeegcoocnaa
