/- The document's One and Rune (layer 3). -/
import Derived.Test.YtehjibbjkadoiaaProg
import Derived.Test.YtehjibbjkadoiaaM1
set_option linter.unusedVariables false
namespace Go.Proofs.Ytehjibbjkadoiaa
open Go.RowKit
/-- Is it a rune? -/
def runeI (n : Int) : Bool := decide (0 ≤ n ∧ n ≤ 1114111 ∧ (n < 55296 ∨ 57343 < n))
/-- The bytes behind the first one of a rune. -/
def conts : Nat → Nat → List UInt8 → Option Nat
  | 0, n, _ => some n
  | _ + 1, _, [] => none
  | k + 1, n, d :: r => if d.toNat < 128 ∨ 192 ≤ d.toNat then none else conts k (n * 64 + d.toNat - 128) r
def tl (k n least : Nat) (r : List UInt8) : Nat × Nat :=
  if r.length < k then (0, 0) else
  match conts k n r with
  | none => (0, 0)
  | some m => if m < least ∨ ¬ runeI m then (0, 0) else (k + 1, m)
/-- How many bytes the rune with which the bytes begin has, and it. -/
def oneL : List UInt8 → Nat × Nat
  | [] => (0, 0)
  | c :: r =>
    if c.toNat < 128 then (1, c.toNat) else
    if c.toNat < 192 then (0, 0) else
    if c.toNat < 224 then tl 1 (c.toNat - 192) 128 r else
    if c.toNat < 240 then tl 2 (c.toNat - 224) 2048 r else
    if c.toNat < 248 then tl 3 (c.toNat - 240) 65536 r else (0, 0)

set_option maxRecDepth 100000 in
set_option maxHeartbeats 400000 in
theorem rune_any (n : Int) (w : World) (h1 : -2147483648 ≤ n) (h2 : n ≤ 2147483647) :
    Calls Try.prog 118 #[.int .i32 n] w fun e w' => e = .returned (.bool (runeI n)) ∧ w = w' := by
  by_cases a1 : 0 ≤ n
  · by_cases a2 : n ≤ 1114111
    · by_cases a3 : n < 55296
      · go_enter Try.func118, Try.ntmps118
        go_wp2
        go_ret
        simp [runeI, a1, a2, a3]
      · go_enter Try.func118, Try.ntmps118
        go_wp2
        go_ret
        simp [runeI, a1, a2]; intro h; omega
    · go_enter Try.func118, Try.ntmps118
      go_wp2
      go_ret
      simp [runeI]; omega
  · go_enter Try.func118, Try.ntmps118
    go_wp2
    go_ret
    simp [runeI]; omega

theorem conts_lt {k n m : Nat} {r : List UInt8} (h : conts k n r = some m) : m < (n + 1) * 64 ^ k := by
  induction k generalizing n r with
  | zero => simp [conts] at h; subst h; simp
  | succ k ih =>
    cases r with
    | nil => simp [conts] at h
    | cons d r =>
      simp only [conts] at h
      split at h
      · cases h
      · have := ih h
        have hd : n * 64 + d.toNat - 128 + 1 ≤ (n + 1) * 64 := by omega
        calc m < _ := this
          _ ≤ ((n + 1) * 64) * 64 ^ k := Nat.mul_le_mul_right _ hd
          _ = (n + 1) * 64 ^ (k + 1) := by rw [Nat.pow_succ, Nat.mul_assoc, Nat.mul_comm (64 ^ k) 64]
end Go.Proofs.Ytehjibbjkadoiaa
