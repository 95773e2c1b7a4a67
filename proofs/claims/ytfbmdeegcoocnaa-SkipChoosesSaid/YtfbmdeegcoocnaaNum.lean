/- The functions of layers 1 and 2 that only compute with numbers, and the document's. -/
import Derived.Test.YtfbmdeegcoocnaaProg
import Derived.Test.YtfbmdeegcoocnaaBase
import Derived.Lib.Strings
import Derived.Lib.Slices
import Derived.Lib.Small
import Derived.Lib.Walk
import Derived.Lib.BitFns
set_option linter.unusedVariables false
namespace Go.Proofs.Ytfbmdeegcoocnaa
open Go.RowKit
def zig (n : Int) : Int := if 0 ≤ n then 2 * n else 2 * (-(n + 1)) + 1
def zag (n : Int) : Int := if n % 2 = 0 then n / 2 else -(n / 2) - 1
theorem zag_zig (n : Int) : zag (zig n) = n := by unfold zig zag; split <;> split <;> omega
theorem zig_zag (n : Int) (h : 0 ≤ n) : zig (zag n) = n := by unfold zig zag; split <;> split <;> omega
theorem zig_range (n : Int) (h1 : -9223372036854775808 ≤ n) (h2 : n ≤ 9223372036854775807) : 0 ≤ zig n ∧ zig n ≤ 18446744073709551615 := by unfold zig; split <;> omega
theorem zag_range (n : Int) (h1 : 0 ≤ n) (h2 : n ≤ 18446744073709551615) : -9223372036854775808 ≤ zag n ∧ zag n ≤ 9223372036854775807 := by unfold zag; split <;> omega
/-- How many bytes a number has. -/
def sizeN (n : Nat) : Nat := if n < 128 then 1 else 1 + sizeN (n / 128)
  termination_by n
  decreasing_by omega
theorem bitLenAux_le (f : Nat) : ∀ x k, x < 2 ^ f → (Lib.bitLenAux f x ≤ k ↔ x < 2 ^ k) := by
  induction f with
  | zero => intro x k h; have : 0 < 2 ^ k := Nat.pow_pos (by omega); simp [Lib.bitLenAux]; omega
  | succ f ih =>
    intro x k h
    rw [Lib.bitLenAux]
    split
    · have : 0 < 2 ^ k := Nat.pow_pos (by omega)
      constructor <;> intros <;> omega
    · cases k with
      | zero => simp; omega
      | succ k => have := ih (x / 2) k (by rw [Nat.pow_succ] at h; omega); rw [Nat.pow_succ]; omega
theorem sizeN_pos (n : Nat) : 1 ≤ sizeN n := by rw [sizeN]; split <;> omega
theorem sizeN_le (k : Nat) : ∀ n, sizeN n ≤ k + 1 ↔ n < 128 ^ (k + 1) := by
  induction k with
  | zero => intro n; rw [sizeN]; have := sizeN_pos (n / 128); split <;> simp <;> omega
  | succ k ih =>
    intro n
    have := ih (n / 128)
    rw [sizeN, Nat.pow_succ]
    have hp : 0 < 128 ^ (k + 1) := Nat.pow_pos (by omega)
    split <;> omega
theorem bitLen_size {n : Nat} (h : n ≤ 18446744073709551615) : (max (Lib.bitLen n) 1 + 6) / 7 = sizeN n := by
  have h0 := sizeN_pos n
  have hb : ∀ k, Lib.bitLen n ≤ 7 * (k + 1) ↔ sizeN n ≤ k + 1 := fun k => by
    rw [sizeN_le, show (128 : Nat) ^ (k + 1) = 2 ^ (7 * (k + 1)) from by rw [Nat.pow_mul]]
    exact bitLenAux_le 64 n _ (by omega)
  have h1 := hb (sizeN n - 1)
  by_cases h2 : sizeN n = 1
  · omega
  · have h3 := hb (sizeN n - 2)
    omega
theorem bitLen_shift (n s : Nat) (hn : n ≤ 18446744073709551615) (h : 0 < n / 2 ^ s) : Lib.bitLen n = s + Lib.bitLen (n / 2 ^ s) := by
  have hp : 0 < 2 ^ s := Nat.pow_pos (by omega)
  have hle : n / 2 ^ s ≤ n := Nat.div_le_self _ _
  have key : ∀ k, Lib.bitLen n ≤ s + k ↔ Lib.bitLen (n / 2 ^ s) ≤ k := fun k => by
    unfold Lib.bitLen
    rw [bitLenAux_le 64 n _ (by omega), bitLenAux_le 64 _ _ (by omega), Nat.div_lt_iff_lt_mul hp, Nat.pow_add, Nat.mul_comm]
  have h1 := key (Lib.bitLen (n / 2 ^ s))
  have h2 := key (Lib.bitLen n - s)
  have h3 : ¬ Lib.bitLen n ≤ s := fun hle' => by
    have := (bitLenAux_le 64 n s (by omega)).1 hle'
    rw [Nat.div_eq_of_lt this] at h
    omega
  omega
theorem len8_shift (x i : Int) (s : Nat) (h0 : 0 ≤ x) (h1 : x ≤ 18446744073709551615) (hi : i.toNat = x.toNat / 2 ^ s) (h2 : 0 ≤ i) (h3 : i ≤ 255) (h4 : s = 0 ∨ 1 ≤ i) :
    (s : Int) + Lib.len8 i = (Lib.bitLen x.toNat : Int) := by
  have e := Lib.len8_eq ⟨i.toNat, by omega⟩
  simp only [Int.toNat_of_nonneg h2] at e
  rw [e, hi]
  rcases h4 with rfl | h4
  · simp
  · rw [bitLen_shift x.toNat s (by omega) (by omega)]
    omega
theorem len8_range (i : Int) (h2 : 0 ≤ i) (h3 : i ≤ 255) : 0 ≤ Lib.len8 i ∧ Lib.len8 i ≤ 8 := by
  have e := Lib.len8_eq ⟨i.toNat, by omega⟩
  have e2 := Lib.bitLen_le8 ⟨i.toNat, by omega⟩
  simp only [Int.toNat_of_nonneg h2] at e
  simp only at e2
  omega
end Go.Proofs.Ytfbmdeegcoocnaa
