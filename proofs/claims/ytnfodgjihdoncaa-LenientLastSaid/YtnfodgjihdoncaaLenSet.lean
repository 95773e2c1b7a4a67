/- Layer 11: what a field sets of a message; lenient's placed, number, text. -/
import Derived.Test.YtnfodgjihdoncaaApart
import Derived.Test.YtnfodgjihdoncaaEn4
set_option linter.unusedVariables false
namespace Go.Proofs.Ytnfodgjihdoncaa
open Go.RowKit
def zagU (n : Nat) : Nat := if n % 2 = 0 then n / 2 else 18446744073709551615 - n / 2
/-- What a field's number means in a type. -/
def numV (t : Int) (n : Nat) : Nat := if t = 1 then n % 4294967296 else if t = 4 then (if n = 0 then 0 else 1) else if t = 3 then zagU n else n
def MV.setN (m : MV) (i : Int) (x : Nat) : MV := { m with n0 := if i = 0 then x else m.n0, n1 := if i = 1 then x else m.n1, n2 := if i = 2 then x else m.n2, n3 := if i = 3 then x else m.n3, n4 := if i = 4 then x else m.n4, n5 := if i = 5 then x else m.n5 }
def MV.setS (m : MV) (i : Int) (s : ByteArray) : MV := { m with s0 := if i = 0 then s else m.s0, s1 := if i = 1 then s else m.s1 }
def ZM : MV := ⟨0, 0, 0, 0, 0, 0, 0, ⟨#[]⟩, ⟨#[]⟩, none, 0, []⟩
def plB (t i : Int) : Bool := decide ((1 ≤ t ∧ t ≤ 6) ∧ 0 ≤ i ∧ i < 6) || decide ((7 ≤ t ∧ t ≤ 9) ∧ 0 ≤ i ∧ i < 2) || decide (t = 10)
/-- What is wrong with a field that is to be set. -/
def setE (m : MV) (t i : Int) (s : ByteArray) : Int := if plB t i = false then 7 else if t ≤ 6 then 0 else if t ≤ 9 then chk s (mostN t : Nat) else if 64 ≤ m.l.length then 2 else chk s 64
/-- A message behind a field. -/
def setM (m : MV) (t i : Int) (n : Nat) (s : ByteArray) : MV := if setE m t i s ≠ 0 then ZM else if t ≤ 6 then m.setN i (numV t n) else if t ≤ 9 then m.setS i s else { m with l := m.l ++ [s] }
set_option maxRecDepth 100000 in
set_option maxHeartbeats 2000000 in
theorem placed_any (m : MV) (num t i : Int) (w : World) : Calls Try.prog 70 #[mvV m, .agg #[.int .i64 num, .int .i64 t, .int .i64 i]] w fun e w' => e = .returned (.bool (plB t i)) ∧ Below w.heap.size w w' := by
  obtain ⟨b, hb⟩ : ∃ b, plB t i = b := ⟨_, rfl⟩
  rw [hb]
  obtain ⟨k, n0, n1, n2, n3, n4, n5, s0, s1, A, c, l⟩ := m
  unfold mvV mvA
  simp only
  generalize l.length = len
  have hbb := bw_a (bw_a (Below.refl _ w) (.cells #[.int .u8 (k : Int), .int .u64 (n0 : Int), .int .u64 (n1 : Int), .int .u64 (n2 : Int), .int .u64 (n3 : Int), .int .u64 (n4 : Int), .int .u64 (n5 : Int), .string s0, .string s1, .slice A len c] 27)) (.cells #[.int .i64 num, .int .i64 t, .int .i64 i] 93)
  have HBB := hid hbb
  clear hbb
  have hcase : (t = 1 ∨ t = 2 ∨ t = 3 ∨ t = 4 ∨ t = 5 ∨ t = 6) ∨ (t = 7 ∨ t = 8 ∨ t = 9) ∨ t = 10 ∨ (t < 1 ∨ 10 < t) := by omega
  rcases hcase with h | h | rfl | h
  · have hv : b = decide (0 ≤ i ∧ i < 6) := by
      rw [← hb]; unfold plB
      rw [decide_eq_false (p := ((7 ≤ t ∧ t ≤ 9) ∧ 0 ≤ i ∧ i < 2)) (by omega), decide_eq_false (p := t = 10) (by omega)]
      simp only [Bool.or_false]
      exact decide_eq_decide.2 (by omega)
    subst hv
    clear hb
    rcases h with rfl | rfl | rfl | rfl | rfl | rfl
    all_goals
      by_cases h1 : 0 ≤ i
      · by_cases h2 : i < 6
        · rw [decide_eq_true (show 0 ≤ i ∧ i < 6 from ⟨h1, h2⟩)]
          go_enter Try.func70, Try.ntmps70
          go_wp2
          go_ret
          exact ⟨by first | rfl | exact ret_bool (by simp [h1, h2]), HBB.out⟩
        · rw [decide_eq_false (show ¬ (0 ≤ i ∧ i < 6) by omega)]
          go_enter Try.func70, Try.ntmps70
          go_wp2
          go_ret
          exact ⟨by first | rfl | exact ret_bool (by simp; omega), HBB.out⟩
      · rw [decide_eq_false (show ¬ (0 ≤ i ∧ i < 6) by omega)]
        go_enter Try.func70, Try.ntmps70
        go_wp2
        go_ret
        exact ⟨by first | rfl | exact ret_bool (by simp; omega), HBB.out⟩
  · have hv : b = decide (0 ≤ i ∧ i < 2) := by
      rw [← hb]; unfold plB
      rw [decide_eq_false (p := ((1 ≤ t ∧ t ≤ 6) ∧ 0 ≤ i ∧ i < 6)) (by omega), decide_eq_false (p := t = 10) (by omega)]
      simp only [Bool.or_false, Bool.false_or]
      exact decide_eq_decide.2 (by omega)
    subst hv
    clear hb
    rcases h with rfl | rfl | rfl
    all_goals
      by_cases h1 : 0 ≤ i
      · by_cases h2 : i < 2
        · rw [decide_eq_true (show 0 ≤ i ∧ i < 2 from ⟨h1, h2⟩)]
          go_enter Try.func70, Try.ntmps70
          go_wp2
          go_ret
          exact ⟨by first | rfl | exact ret_bool (by simp [h1, h2]), HBB.out⟩
        · rw [decide_eq_false (show ¬ (0 ≤ i ∧ i < 2) by omega)]
          go_enter Try.func70, Try.ntmps70
          go_wp2
          go_ret
          exact ⟨by first | rfl | exact ret_bool (by simp; omega), HBB.out⟩
      · rw [decide_eq_false (show ¬ (0 ≤ i ∧ i < 2) by omega)]
        go_enter Try.func70, Try.ntmps70
        go_wp2
        go_ret
        exact ⟨by first | rfl | exact ret_bool (by simp; omega), HBB.out⟩
  · have hv : b = true := by rw [← hb]; unfold plB; simp
    subst hv
    clear hb
    go_enter Try.func70, Try.ntmps70
    go_wp2
    go_ret
    exact ⟨by first | rfl | exact ret_bool (by simp), HBB.out⟩
  · have hv : b = false := by
      rw [← hb]; unfold plB
      rw [decide_eq_false (p := ((1 ≤ t ∧ t ≤ 6) ∧ 0 ≤ i ∧ i < 6)) (by omega), decide_eq_false (p := ((7 ≤ t ∧ t ≤ 9) ∧ 0 ≤ i ∧ i < 2)) (by omega), decide_eq_false (p := t = 10) (by omega)]
      rfl
    subst hv
    clear hb
    have g1 : (t == 1) = false := by simp; omega
    have g2 : (t == 2) = false := by simp; omega
    have g3 : (t == 3) = false := by simp; omega
    have g4 : (t == 4) = false := by simp; omega
    have g5 : (t == 5) = false := by simp; omega
    have g6 : (t == 6) = false := by simp; omega
    have g7 : (t == 7) = false := by simp; omega
    have g8 : (t == 8) = false := by simp; omega
    have g9 : (t == 9) = false := by simp; omega
    have g10 : (t == 10) = false := by simp; omega
    go_enter Try.func70, Try.ntmps70
    go_wp2
    go_ret
    exact ⟨by first | rfl | exact ret_bool (by simp; omega), HBB.out⟩
theorem zag_u (n : Nat) (h : n ≤ 18446744073709551615) : IntKind.u64.wrap (zag (n : Int)) = ((zagU n : Nat) : Int) := by
  unfold zag zagU
  by_cases h2 : n % 2 = 0
  · rw [if_pos (by omega), if_pos h2, IntWalk.u64_in _ (by omega)]; omega
  · rw [if_neg (by omega), if_neg h2]
    show (-((n : Int) / 2) - 1) % 18446744073709551616 = _
    omega
set_option maxRecDepth 100000 in
set_option maxHeartbeats 2000000 in
theorem lnum_any (t : Int) (n : Nat) (w : World) (hn : n ≤ 18446744073709551615) : Calls Try.prog 73 #[.int .i64 t, .int .u64 (n : Int)] w fun e w' => e = .returned (.int .u64 (numV t n : Nat)) ∧ w' = w := by
  by_cases c1 : t = 1
  · subst c1
    have hv : numV 1 n = n % 4294967296 := rfl
    rw [hv]
    go_enter Try.func73, Try.ntmps73
    go_wp2
    go_ret
    exact ⟨by first | rfl | exact ret_int (by first | rfl | omega), rfl⟩
  by_cases c4 : t = 4
  · subst c4
    obtain ⟨q, hq⟩ : ∃ q, numV 4 n = q := ⟨_, rfl⟩
    have hq2 : min (n : Int) 1 = (q : Int) := by
      rw [← hq]; show _ = (((if n = 0 then 0 else 1 : Nat)) : Int)
      split <;> omega
    rw [hq]
    have HQ := hid hq2
    clear hq hq2
    go_enter Try.func73, Try.ntmps73
    go_wp2
    go_ret
    exact ⟨ret_int HQ.out, rfl⟩
  by_cases c3 : t = 3
  · subst c3
    have hv : numV 3 n = zagU n := rfl
    rw [hv]
    have hz := fun W => zag_any (n : Int) W (by omega) (by omega)
    have HZ := hid hz
    have HU := hid (zag_u n hn)
    clear hz
    go_enter Try.func73, Try.ntmps73
    go_wp2_with fail
    refine (HZ.out _).mono ?_
    rintro e w1 ⟨rfl, rfl⟩
    go_wp2_with fail
    go_ret
    exact ⟨ret_int HU.out, rfl⟩
  · have hv : numV t n = n := by unfold numV; rw [if_neg c1, if_neg c4, if_neg c3]
    rw [hv]
    have g1 : (t == 1) = false := by simpa using c1
    have g4 : (t == 4) = false := by simpa using c4
    have g3 : (t == 3) = false := by simpa using c3
    go_enter Try.func73, Try.ntmps73
    go_wp2
    go_ret
    exact ⟨rfl, rfl⟩
end Go.Proofs.Ytnfodgjihdoncaa
