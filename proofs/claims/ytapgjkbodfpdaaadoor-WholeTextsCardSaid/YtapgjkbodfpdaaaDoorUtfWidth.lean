/- utf.width, utf.put: walks. -/
import Derived.Test.YtapgjkbodfpdaaaDoorProg
import Derived.Test.YtapgjkbodfpdaaaDoorBase
import Derived.Test.YtapgjkbodfpdaaaDoorScan
import Derived.WalkSmall
set_option linter.unusedVariables false
namespace Go.Proofs.YtapgjkbodfpdaaaDoor
open Go.RowKit
/-- The tables of the package utf lie as they are laid. -/
def Tab (w : World) : Prop :=
  Rd w (some ⟨0, 0, none⟩) [.int .i32 127, .int .i32 2047, .int .i32 65535, .int .i32 1114111] ∧
  Rd w (some ⟨1, 0, none⟩) [.int .u8 0, .int .u8 192, .int .u8 224, .int .u8 240]
theorem Tab.below {w w' : World} (h : Tab w) (hb : Below w.heap.size w w') : Tab w' := ⟨h.1.below hb, h.2.below hb⟩
theorem Rd.cell0 {w : World} {g : Nat} {xs : List Value} (h : Rd w (some ⟨g, 0, none⟩) xs) (j : Nat) {u : Value} (hj : xs[j]? = some u) : w.cell? ⟨g, j, none⟩ = some u := by
  obtain ⟨b, off, he, _, hc⟩ := h j u hj
  injection he with he; injection he with h1 h2; subst h1; subst h2
  rwa [Nat.zero_add] at hc
theorem Rd.lt0 {w : World} {g : Nat} {xs : List Value} {u : Value} (h : Rd w (some ⟨g, 0, none⟩) (u :: xs)) : g < w.heap.size := by
  obtain ⟨b, off, he, hl, hc⟩ := h 0 u rfl
  injection he with he; injection he with h1 h2; subst h1; exact hl
/-- How many bytes a rune has; 0 of what is none. -/
def widN (n : Int) : Nat := if runeI n = true then (runeB n.toNat).length else 0
set_option maxRecDepth 100000 in
set_option maxHeartbeats 1000000 in
theorem uwidth_any (n : Int) (w : World) (h1 : -2147483648 ≤ n) (h2 : n ≤ 2147483647) (hT : Tab w) :
    Calls Tryd.prog 13 #[.int .i32 n] w fun e w' => e = .returned (.int .i64 (widN n)) ∧ w = w' := by
  have i0 : ∀ w : World, (Instr.index 55 (.agg #[.int .i32 127, .int .i32 2047, .int .i32 65535, .int .i32 1114111]) (.int .i64 0)).run Tryd.prog w = .ok (.int .i32 127) w := fun _ => by kernel_rfl
  have i1 : ∀ w : World, (Instr.index 55 (.agg #[.int .i32 127, .int .i32 2047, .int .i32 65535, .int .i32 1114111]) (.int .i64 1)).run Tryd.prog w = .ok (.int .i32 2047) w := fun _ => by kernel_rfl
  have i2 : ∀ w : World, (Instr.index 55 (.agg #[.int .i32 127, .int .i32 2047, .int .i32 65535, .int .i32 1114111]) (.int .i64 2)).run Tryd.prog w = .ok (.int .i32 65535) w := fun _ => by kernel_rfl
  have i3 : ∀ w : World, (Instr.index 55 (.agg #[.int .i32 127, .int .i32 2047, .int .i32 65535, .int .i32 1114111]) (.int .i64 3)).run Tryd.prog w = .ok (.int .i32 1114111) w := fun _ => by kernel_rfl
  have c0 := hT.1.cell0 0 rfl
  have c1 := hT.1.cell0 1 rfl
  have c2 := hT.1.cell0 2 rfl
  have c3 := hT.1.cell0 3 rfl
  clear hT
  by_cases a1 : n < 0
  · go_enter Tryd.func13, Tryd.ntmps13
    go_wp2
    go_ret
    exact ⟨ret_int (by rw [widN, if_neg (by simp [runeI]; omega)]; rfl), rfl⟩
  have q0 : decide (n < 0) = false := by simp; omega
  by_cases a2 : 55296 ≤ n ∧ n ≤ 57343
  · have q1 : decide (55296 ≤ n) = true := by simp; omega
    have q2 : decide (n ≤ 57343) = true := by simp; omega
    have hw : widN n = 0 := by rw [widN, if_neg (by simp [runeI]; omega)]
    have HW := hid hw
    clear hw a2 a1
    go_enter Tryd.func13, Tryd.ntmps13
    go_wp2
    go_ret
    exact ⟨ret_int (by rw [HW.out]; rfl), rfl⟩
  have hw : widN n = if n ≤ 127 then 1 else if n ≤ 2047 then 2 else if n ≤ 65535 then 3 else if n ≤ 1114111 then 4 else 0 := by
    unfold widN
    by_cases b : n ≤ 1114111
    · rw [if_pos (by simp [runeI]; omega), runeB]
      by_cases b1 : n ≤ 127
      · rw [if_pos b1, if_pos (by omega)]; rfl
      rw [if_neg b1, if_neg (by omega)]
      by_cases b2 : n ≤ 2047
      · rw [if_pos b2, if_pos (by omega)]; rfl
      rw [if_neg b2, if_neg (by omega)]
      by_cases b3 : n ≤ 65535
      · rw [if_pos b3, if_pos (by omega)]; rfl
      · rw [if_neg b3, if_neg (by omega), if_pos b]; rfl
    · rw [if_neg (by simp [runeI]; omega), if_neg (by omega), if_neg (by omega), if_neg (by omega), if_neg b]
  have HW := hid hw
  clear hw
  have A1 := hid a1
  have A2 := hid a2
  have hq : decide (55296 ≤ n) = false ∨ decide (55296 ≤ n) = true ∧ decide (n ≤ 57343) = false := by simp; omega
  clear a1 a2
  rcases hq with q1 | ⟨q1, q2⟩
  all_goals
    go_enter Tryd.func13, Tryd.ntmps13
    go_wp2
    go_loop [16] (fun i => ∃ k : Nat, k ≤ 4 ∧ i = .int .i64 (k : Int) ∧ (0 < k → 127 < n) ∧ (1 < k → 2047 < n) ∧ (2 < k → 65535 < n) ∧ (3 < k → 1114111 < n)) (fun i => 4 - (intOf i).toNat)
    case atStart => exact ⟨0, by omega, rfl, by omega, by omega, by omega, by omega⟩
    case round =>
      obtain ⟨k, hk, rfl, g1, g2, g3, g4⟩ := hrel
      have G1 := hid g1
      have G2 := hid g2
      have G3 := hid g3
      have G4 := hid g4
      clear g1 g2 g3 g4
      rcases (by omega : k = 0 ∨ k = 1 ∨ k = 2 ∨ k = 3 ∨ k = 4) with rfl | rfl | rfl | rfl | rfl
      · by_cases b : n ≤ 127
        · have hb : decide (n ≤ 127) = true := by simpa using b
          have B := hid b
          clear b
          go_wp2
          go_ret
          exact ⟨ret_int (by rw [HW.out, if_pos B.out]; rfl), rfl⟩
        · have hb : decide (n ≤ 127) = false := by simpa using b
          have B := hid b
          clear b
          go_wp2
          go_round
          case rel => exact ⟨1, by omega, rfl, fun _ => by have := B.out; omega, by omega, by omega, by omega⟩
          case measure => simp [intOf]
      · by_cases b : n ≤ 2047
        · have hb : decide (n ≤ 2047) = true := by simpa using b
          have B := hid b
          clear b
          go_wp2
          go_ret
          exact ⟨ret_int (by rw [HW.out, if_neg (by have := G1.out (by omega); omega), if_pos B.out]; rfl), rfl⟩
        · have hb : decide (n ≤ 2047) = false := by simpa using b
          have B := hid b
          clear b
          go_wp2
          go_round
          case rel => exact ⟨2, by omega, rfl, fun _ => by have := B.out; omega, fun _ => by have := B.out; omega, by omega, by omega⟩
          case measure => simp [intOf]
      · by_cases b : n ≤ 65535
        · have hb : decide (n ≤ 65535) = true := by simpa using b
          have B := hid b
          clear b
          go_wp2
          go_ret
          exact ⟨ret_int (by rw [HW.out, if_neg (by have := G1.out (by omega); omega), if_neg (by have := G2.out (by omega); omega), if_pos B.out]; rfl), rfl⟩
        · have hb : decide (n ≤ 65535) = false := by simpa using b
          have B := hid b
          clear b
          go_wp2
          go_round
          case rel => exact ⟨3, by omega, rfl, fun _ => by have := B.out; omega, fun _ => by have := B.out; omega, fun _ => by have := B.out; omega, by omega⟩
          case measure => simp [intOf]
      · by_cases b : n ≤ 1114111
        · have hb : decide (n ≤ 1114111) = true := by simpa using b
          have B := hid b
          clear b
          go_wp2
          go_ret
          exact ⟨ret_int (by rw [HW.out, if_neg (by have := G1.out (by omega); omega), if_neg (by have := G2.out (by omega); omega), if_neg (by have := G3.out (by omega); omega), if_pos B.out]; rfl), rfl⟩
        · have hb : decide (n ≤ 1114111) = false := by simpa using b
          have B := hid b
          clear b
          go_wp2
          go_round
          case rel => exact ⟨4, by omega, rfl, fun _ => by have := B.out; omega, fun _ => by have := B.out; omega, fun _ => by have := B.out; omega, fun _ => by have := B.out; omega⟩
          case measure => simp [intOf]
      · go_wp2
        go_ret
        exact ⟨ret_int (by rw [HW.out, if_neg (by have := G1.out (by omega); omega), if_neg (by have := G2.out (by omega); omega), if_neg (by have := G3.out (by omega); omega), if_neg (by have := G4.out (by omega); omega)]; rfl), rfl⟩
end Go.Proofs.YtapgjkbodfpdaaaDoor
