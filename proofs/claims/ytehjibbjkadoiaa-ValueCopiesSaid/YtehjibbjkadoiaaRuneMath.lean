/- Runes and their bytes: back and forth (no code). -/
import Derived.Test.YtehjibbjkadoiaaProg
import Derived.Test.YtehjibbjkadoiaaM1
import Derived.Test.YtehjibbjkadoiaaFirst
import Derived.Test.YtehjibbjkadoiaaRuneBytes
set_option linter.unusedVariables false
namespace Go.Proofs.Ytehjibbjkadoiaa
open Go.RowKit
theorem runeI_nat {n : Nat} : runeI (n : Int) = true ↔ n ≤ 1114111 ∧ (n < 55296 ∨ 57343 < n) := by simp [runeI]; omega
theorem one_back {n : Nat} (h : runeI (n : Int) = true) (rest : List UInt8) : oneL (runeB n ++ rest) = ((runeB n).length, n) := by
  have hr := runeI_nat.1 h
  unfold runeB
  by_cases a1 : n < 128
  · rw [if_pos a1]; simp [oneL, b8_toNat (show n < 256 by omega), a1]
  rw [if_neg a1]
  by_cases a2 : n < 2048
  · rw [if_pos a2]
    have e1 := b8_toNat (show 192 + n / 64 < 256 by omega)
    have e2 := b8_toNat (show 128 + n % 64 < 256 by omega)
    simp only [List.cons_append, List.nil_append, oneL, e1]
    rw [if_neg (by omega), if_neg (by omega), if_pos (by omega), tl, if_neg (by simp)]
    simp only [conts, e2]
    rw [if_neg (by omega), show (192 + n / 64 - 192) * 64 + (128 + n % 64) - 128 = n from by omega]
    simp [h]; omega
  rw [if_neg a2]
  by_cases a3 : n < 65536
  · rw [if_pos a3]
    have e1 := b8_toNat (show 224 + n / 4096 < 256 by omega)
    have e2 := b8_toNat (show 128 + n / 64 % 64 < 256 by omega)
    have e3 := b8_toNat (show 128 + n % 64 < 256 by omega)
    simp only [List.cons_append, List.nil_append, oneL, e1]
    rw [if_neg (by omega), if_neg (by omega), if_neg (by omega), if_pos (by omega), tl, if_neg (by simp)]
    simp only [conts, e2, e3]
    rw [if_neg (by omega), if_neg (by omega), show ((224 + n / 4096 - 224) * 64 + (128 + n / 64 % 64) - 128) * 64 + (128 + n % 64) - 128 = n from by omega]
    simp [h]; omega
  · rw [if_neg a3]
    have e1 := b8_toNat (show 240 + n / 262144 < 256 by omega)
    have e2 := b8_toNat (show 128 + n / 4096 % 64 < 256 by omega)
    have e3 := b8_toNat (show 128 + n / 64 % 64 < 256 by omega)
    have e4 := b8_toNat (show 128 + n % 64 < 256 by omega)
    simp only [List.cons_append, List.nil_append, oneL, e1]
    rw [if_neg (by omega), if_neg (by omega), if_neg (by omega), if_neg (by omega), if_pos (by omega), tl, if_neg (by simp)]
    simp only [conts, e2, e3, e4]
    rw [if_neg (by omega), if_neg (by omega), if_neg (by omega), show (((240 + n / 262144 - 240) * 64 + (128 + n / 4096 % 64) - 128) * 64 + (128 + n / 64 % 64) - 128) * 64 + (128 + n % 64) - 128 = n from by omega]
    dsimp only
    rw [if_neg (by simp [h]; omega)]
    simp
theorem b8_eq {n : Nat} {c : UInt8} (h : n = c.toNat) : b8 n = c := by rw [h, b8_self]
theorem tl_some {k n l : Nat} {r : List UInt8} (h : (tl k n l r).1 ≠ 0) : k ≤ r.length ∧ ∃ m, conts k n r = some m ∧ l ≤ m ∧ runeI (m : Int) = true ∧ tl k n l r = (k + 1, m) := by
  unfold tl at h ⊢
  split at h
  · simp at h
  rename_i hk
  cases hc : conts k n r with
  | none => rw [hc] at h; simp at h
  | some m =>
    rw [hc] at h
    dsimp only at h
    split at h
    · simp at h
    rename_i hm
    refine ⟨by omega, m, rfl, by omega, ?_, ?_⟩
    · by_cases q : runeI (m : Int) = true
      · exact q
      · exact absurd (Or.inr q) hm
    · rw [if_neg hk]; dsimp only; rw [if_neg hm]
theorem conts1 {n m : Nat} {k : Nat} {d : UInt8} {r : List UInt8} (h : conts (k + 1) n (d :: r) = some m) : 128 ≤ d.toNat ∧ d.toNat < 192 ∧ conts k (n * 64 + d.toNat - 128) r = some m := by
  rw [conts] at h
  split at h
  · cases h
  · exact ⟨by omega, by omega, h⟩
/-- What is read as a rune has that rune's bytes. -/
theorem one_forth {bs : List UInt8} (h : (oneL bs).1 ≠ 0) : runeI ((oneL bs).2 : Int) = true ∧ bs.take (oneL bs).1 = runeB (oneL bs).2 := by
  cases bs with
  | nil => simp [oneL] at h
  | cons c r =>
    have hx := c.toNat_lt
    by_cases a1 : c.toNat < 128
    · have e : oneL (c :: r) = (1, c.toNat) := by simp only [oneL]; rw [if_pos a1]
      rw [e]
      exact ⟨runeI_nat.2 (by omega), by simp [runeB, a1, b8_self]⟩
    by_cases a2 : c.toNat < 192
    · have e : oneL (c :: r) = (0, 0) := by simp only [oneL]; rw [if_neg a1, if_pos a2]
      rw [e] at h; simp at h
    by_cases a3 : c.toNat < 224
    · have e : oneL (c :: r) = tl 1 (c.toNat - 192) 128 r := by simp only [oneL]; rw [if_neg a1, if_neg a2, if_pos a3]
      rw [e] at h ⊢
      obtain ⟨hk, m, hc, hl, hr, ht⟩ := tl_some h
      rw [ht]
      match r, hk, hc with
      | d :: r, _, hc =>
        obtain ⟨d1, d2, hc⟩ := conts1 hc
        simp only [conts, Option.some.injEq] at hc
        refine ⟨hr, ?_⟩
        rw [runeB, if_neg (by omega), if_pos (by omega)]
        simp [b8_eq (show 192 + m / 64 = c.toNat by omega), b8_eq (show 128 + m % 64 = d.toNat by omega)]
    by_cases a4 : c.toNat < 240
    · have e : oneL (c :: r) = tl 2 (c.toNat - 224) 2048 r := by simp only [oneL]; rw [if_neg a1, if_neg a2, if_neg a3, if_pos a4]
      rw [e] at h ⊢
      obtain ⟨hk, m, hc, hl, hr, ht⟩ := tl_some h
      rw [ht]
      match r, hk, hc with
      | d :: d' :: r, _, hc =>
        obtain ⟨d1, d2, hc⟩ := conts1 hc
        obtain ⟨d3, d4, hc⟩ := conts1 hc
        simp only [conts, Option.some.injEq] at hc
        refine ⟨hr, ?_⟩
        rw [runeB, if_neg (by omega), if_neg (by omega), if_pos (by omega)]
        simp [b8_eq (show 224 + m / 4096 = c.toNat by omega), b8_eq (show 128 + m / 64 % 64 = d.toNat by omega), b8_eq (show 128 + m % 64 = d'.toNat by omega)]
    by_cases a5 : c.toNat < 248
    · have e : oneL (c :: r) = tl 3 (c.toNat - 240) 65536 r := by simp only [oneL]; rw [if_neg a1, if_neg a2, if_neg a3, if_neg a4, if_pos a5]
      rw [e] at h ⊢
      obtain ⟨hk, m, hc, hl, hr, ht⟩ := tl_some h
      rw [ht]
      match r, hk, hc with
      | d :: d' :: d'' :: r, _, hc =>
        obtain ⟨d1, d2, hc⟩ := conts1 hc
        obtain ⟨d3, d4, hc⟩ := conts1 hc
        obtain ⟨d5, d6, hc⟩ := conts1 hc
        simp only [conts, Option.some.injEq] at hc
        refine ⟨hr, ?_⟩
        rw [runeB, if_neg (by omega), if_neg (by omega), if_neg (by omega)]
        simp [b8_eq (show 240 + m / 262144 = c.toNat by omega), b8_eq (show 128 + m / 4096 % 64 = d.toNat by omega), b8_eq (show 128 + m / 64 % 64 = d'.toNat by omega), b8_eq (show 128 + m % 64 = d''.toNat by omega)]
    · have e : oneL (c :: r) = (0, 0) := by simp only [oneL]; rw [if_neg a1, if_neg a2, if_neg a3, if_neg a4, if_neg a5]
      rw [e] at h; simp at h
end Go.Proofs.Ytehjibbjkadoiaa
