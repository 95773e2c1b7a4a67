/- What a range over a text decodes at a place is what the document's One reads there, or a rune that stands for none (no code). -/
import Derived.Test.YtehjibbjkadoiaaProg
import Derived.Test.YtehjibbjkadoiaaM1
import Derived.Test.YtehjibbjkadoiaaRuneMath
import Derived.Lib.OthersKept
set_option linter.unusedVariables false
namespace Go.Proofs.Ytehjibbjkadoiaa
open Go.RowKit
def atL (l : List UInt8) (k : Nat) : Nat := (l.getD k 0).toNat
def contL (l : List UInt8) (k : Nat) : Bool := decide (k < l.length) && atL l k / 64 == 2
def decL (l : List UInt8) : Nat × Nat :=
  if atL l 0 < 128 then (atL l 0, 1)
  else if atL l 0 / 32 == 6 && contL l 1 then
    if (atL l 0 % 32) * 64 + atL l 1 % 64 ≥ 128 then ((atL l 0 % 32) * 64 + atL l 1 % 64, 2) else (65533, 1)
  else if atL l 0 / 16 == 14 && contL l 1 && contL l 2 then
    if (atL l 0 % 16) * 4096 + (atL l 1 % 64) * 64 + atL l 2 % 64 ≥ 2048 && Utf8.valid ((atL l 0 % 16) * 4096 + (atL l 1 % 64) * 64 + atL l 2 % 64 : Nat) then ((atL l 0 % 16) * 4096 + (atL l 1 % 64) * 64 + atL l 2 % 64, 3) else (65533, 1)
  else if atL l 0 / 8 == 30 && contL l 1 && contL l 2 && contL l 3 then
    if (atL l 0 % 8) * 262144 + (atL l 1 % 64) * 4096 + (atL l 2 % 64) * 64 + atL l 3 % 64 ≥ 65536 && Utf8.valid ((atL l 0 % 8) * 262144 + (atL l 1 % 64) * 4096 + (atL l 2 % 64) * 64 + atL l 3 % 64 : Nat) then ((atL l 0 % 8) * 262144 + (atL l 1 % 64) * 4096 + (atL l 2 % 64) * 64 + atL l 3 % 64, 4) else (65533, 1)
  else (65533, 1)
theorem get_drop (s : ByteArray) (bs : List UInt8) (p k : Nat) (hs : s.data.toList = bs) : (s.get! (p + k)).toNat = atL (bs.drop p) k := by
  subst hs
  unfold atL
  congr 1
  rw [List.getD_eq_getElem?_getD, List.getElem?_drop, Array.getElem?_toList]
  show s.data[p + k]! = _
  rw [getElem!_def]
  cases s.data[p + k]? <;> rfl
theorem decode_decL (s : ByteArray) (bs : List UInt8) (p : Nat) (hs : s.data.toList = bs) : Utf8.decode s p = decL (bs.drop p) := by
  have h := fun k => get_drop s bs p k hs
  have hsz : s.size = bs.length := by rw [← hs]; simp
  have hc : ∀ k, 1 ≤ k → decide (p + k < s.size) = decide (k < (bs.drop p).length) := by
    intro k hk
    rw [List.length_drop, hsz, decide_eq_decide]; omega
  simp only [Utf8.decode, h, decL, contL, Utf8.runeError, hc 1 (by omega), hc 2 (by omega), hc 3 (by omega)]
  rfl
theorem valid_runeI (n : Nat) : Utf8.valid (n : Int) = runeI (n : Int) := by
  unfold Utf8.valid runeI
  rw [Bool.eq_iff_iff]; simp; omega
theorem tl_one {n l : Nat} {d : UInt8} {r : List UInt8} (h : ¬ (d.toNat < 128 ∨ 192 ≤ d.toNat)) : tl 1 n l (d :: r) = if n * 64 + d.toNat - 128 < l ∨ ¬ runeI (n * 64 + d.toNat - 128 : Nat) then (0, 0) else (2, n * 64 + d.toNat - 128) := by
  rw [tl, if_neg (by simp), show conts 1 n (d :: r) = some (n * 64 + d.toNat - 128) from by rw [conts, if_neg h, conts]]
theorem tl_step {k n l : Nat} {d : UInt8} {r : List UInt8} (h : ¬ (d.toNat < 128 ∨ 192 ≤ d.toNat)) : (tl (k + 1) n l (d :: r)) = if (tl k (n * 64 + d.toNat - 128) l r).1 = 0 then (0, 0) else ((tl k (n * 64 + d.toNat - 128) l r).1 + 1, (tl k (n * 64 + d.toNat - 128) l r).2) := by
  have hc : conts (k + 1) n (d :: r) = conts k (n * 64 + d.toNat - 128) r := by rw [conts, if_neg h]
  unfold tl
  rw [hc]
  by_cases hk : r.length < k
  · rw [if_pos (by simpa using hk), if_pos hk]; rfl
  · rw [if_neg (by simpa using hk), if_neg hk]
    cases conts k (n * 64 + d.toNat - 128) r with
    | none => rfl
    | some m =>
      dsimp only
      by_cases hm : m < l ∨ ¬ runeI (m : Int) = true
      · simp only [hm, if_true]
      · simp only [hm, if_false]; simp
theorem tl_bad {k n l : Nat} {d : UInt8} {r : List UInt8} (h : d.toNat < 128 ∨ 192 ≤ d.toNat) : tl (k + 1) n l (d :: r) = (0, 0) := by
  rw [tl]
  split
  · rfl
  · rw [show conts (k + 1) n (d :: r) = none from by rw [conts, if_pos h]]
theorem contL_of {l : List UInt8} {k : Nat} {d : UInt8} (h : l[k]? = some d) : contL l k = decide (128 ≤ d.toNat ∧ d.toNat < 192) := by
  have hk := (List.getElem?_eq_some_iff.1 h).1
  have e : atL l k = d.toNat := by rw [atL, List.getD_eq_getElem?_getD, h]; rfl
  have hd := d.toNat_lt
  rw [contL, e, Bool.eq_iff_iff]; simp [hk]; omega
theorem atL_of {l : List UInt8} {k : Nat} {d : UInt8} (h : l[k]? = some d) : atL l k = d.toNat := by rw [atL, List.getD_eq_getElem?_getD, h]; rfl
theorem contL_no {l : List UInt8} {k : Nat} (h : l.length ≤ k) : contL l k = false := by simp [contL]; omega
theorem tl_short {k n l : Nat} {r : List UInt8} (h : r.length < k) : tl k n l r = (0, 0) := by rw [tl, if_pos h]
theorem dec_pair (m l k : Nat) (b : Bool) (hb : b = decide (l ≤ m ∧ runeI (m : Int) = true)) (hk : k ≠ 0) : (if b = true then (m, k) else (65533, 1)) = if (if m < l ∨ ¬ runeI (m : Int) = true then (0, 0) else (k, m)).1 = 0 then (65533, 1) else ((if m < l ∨ ¬ runeI (m : Int) = true then (0, 0) else (k, m)).2, (if m < l ∨ ¬ runeI (m : Int) = true then (0, 0) else (k, m)).1) := by
  subst hb
  by_cases h : m < l ∨ ¬ runeI (m : Int) = true
  · rw [if_pos h, if_neg (by rw [decide_eq_true_eq]; rintro ⟨h1, h2⟩; rcases h with h | h; omega; exact h h2)]; rfl
  · have h1 : l ≤ m := by omega
    have h2 : runeI (m : Int) = true := by
      cases hr : runeI (m : Int)
      · exact absurd (Or.inr (by simp [hr])) h
      · rfl
    rw [if_neg h, if_pos (by simp [h1, h2])]; simp [hk]
theorem dec_one (c : UInt8) (r : List UInt8) : decL (c :: r) = if (oneL (c :: r)).1 = 0 then (65533, 1) else ((oneL (c :: r)).2, (oneL (c :: r)).1) := by
  have hx := c.toNat_lt
  have e0 : atL (c :: r) 0 = c.toNat := rfl
  by_cases a1 : c.toNat < 128
  · have e : oneL (c :: r) = (1, c.toNat) := by simp only [oneL]; rw [if_pos a1]
    rw [e, decL, e0, if_pos a1]; rfl
  by_cases a2 : c.toNat < 192
  · have e : oneL (c :: r) = (0, 0) := by simp only [oneL]; rw [if_neg a1, if_pos a2]
    have b1 : (c.toNat / 32 == 6) = false := by simp; omega
    have b2 : (c.toNat / 16 == 14) = false := by simp; omega
    have b3 : (c.toNat / 8 == 30) = false := by simp; omega
    rw [e, decL, e0, if_neg a1, b1, b2, b3]; rfl
  by_cases a3 : c.toNat < 224
  · have e : oneL (c :: r) = tl 1 (c.toNat - 192) 128 r := by simp only [oneL]; rw [if_neg a1, if_neg a2, if_pos a3]
    have b1 : (c.toNat / 32 == 6) = true := by simp; omega
    have b2 : (c.toNat / 16 == 14) = false := by simp; omega
    have b3 : (c.toNat / 8 == 30) = false := by simp; omega
    rw [e, decL, e0, if_neg a1, b1, b2, b3]
    simp only [Bool.false_and, Bool.true_and, Bool.false_eq_true, if_false]
    match r with
    | [] => rw [tl_short (by simp), contL_no (by simp)]; rfl
    | d :: r =>
      have hd := d.toNat_lt
      rw [contL_of (k := 1) (d := d) rfl, atL_of (k := 1) (d := d) rfl]
      by_cases h1 : d.toNat < 128 ∨ 192 ≤ d.toNat
      · rw [tl_bad h1, if_neg (by simp; omega)]; rfl
      rw [if_pos (by simp; omega), tl_one h1, show c.toNat % 32 * 64 + d.toNat % 64 = (c.toNat - 192) * 64 + d.toNat - 128 from by omega]
      have hm : (c.toNat - 192) * 64 + d.toNat - 128 ≤ 2047 := by omega
      generalize (c.toNat - 192) * 64 + d.toNat - 128 = m at *
      have hr : runeI (m : Int) = true := runeI_nat.2 (by omega)
      rw [← dec_pair m 128 2 (decide (128 ≤ m)) (by rw [decide_eq_decide]; simp [hr]) (by omega)]
      simp
  by_cases a4 : c.toNat < 240
  · have e : oneL (c :: r) = tl 2 (c.toNat - 224) 2048 r := by simp only [oneL]; rw [if_neg a1, if_neg a2, if_neg a3, if_pos a4]
    have b1 : (c.toNat / 32 == 6) = false := by simp; omega
    have b2 : (c.toNat / 16 == 14) = true := by simp; omega
    have b3 : (c.toNat / 8 == 30) = false := by simp; omega
    rw [e, decL, e0, if_neg a1, b1, b2, b3]
    simp only [Bool.false_and, Bool.true_and, Bool.false_eq_true, if_false]
    match r with
    | [] => rw [tl_short (by simp), contL_no (by simp)]; rfl
    | [d] => rw [tl_short (by simp), contL_no (k := 2) (by simp), Bool.and_false]; rfl
    | d :: d' :: r =>
      have hd := d.toNat_lt
      have hd' := d'.toNat_lt
      rw [contL_of (k := 1) (d := d) rfl, atL_of (k := 1) (d := d) rfl, contL_of (k := 2) (d := d') rfl, atL_of (k := 2) (d := d') rfl]
      by_cases h1 : d.toNat < 128 ∨ 192 ≤ d.toNat
      · rw [tl_bad h1, if_neg (by simp; omega)]; rfl
      rw [tl_step h1]
      by_cases h2 : d'.toNat < 128 ∨ 192 ≤ d'.toNat
      · rw [tl_bad h2, if_neg (by simp; omega)]; rfl
      rw [if_pos (by simp; omega), tl_one h2, show c.toNat % 16 * 4096 + d.toNat % 64 * 64 + d'.toNat % 64 = ((c.toNat - 224) * 64 + d.toNat - 128) * 64 + d'.toNat - 128 from by omega]
      generalize ((c.toNat - 224) * 64 + d.toNat - 128) * 64 + d'.toNat - 128 = m at *
      rw [valid_runeI, dec_pair m 2048 3 _ (by rw [Bool.eq_iff_iff]; simp) (by omega)]
      by_cases hb : m < 2048 ∨ ¬ runeI (m : Int) = true
      · rw [if_pos hb, if_pos hb]; rfl
      · rw [if_neg hb, if_neg hb]; rfl
  by_cases a5 : c.toNat < 248
  · have e : oneL (c :: r) = tl 3 (c.toNat - 240) 65536 r := by simp only [oneL]; rw [if_neg a1, if_neg a2, if_neg a3, if_neg a4, if_pos a5]
    have b1 : (c.toNat / 32 == 6) = false := by simp; omega
    have b2 : (c.toNat / 16 == 14) = false := by simp; omega
    have b3 : (c.toNat / 8 == 30) = true := by simp; omega
    rw [e, decL, e0, if_neg a1, b1, b2, b3]
    simp only [Bool.false_and, Bool.true_and, Bool.false_eq_true, if_false]
    match r with
    | [] => rw [tl_short (by simp), contL_no (by simp)]; rfl
    | [d] => rw [tl_short (by simp), contL_no (k := 2) (by simp), Bool.and_false]; rfl
    | [d, d'] => rw [tl_short (by simp), contL_no (k := 3) (by simp), Bool.and_false]; rfl
    | d :: d' :: d'' :: r =>
      have hd := d.toNat_lt
      have hd' := d'.toNat_lt
      have hd'' := d''.toNat_lt
      rw [contL_of (k := 1) (d := d) rfl, atL_of (k := 1) (d := d) rfl, contL_of (k := 2) (d := d') rfl, atL_of (k := 2) (d := d') rfl, contL_of (k := 3) (d := d'') rfl, atL_of (k := 3) (d := d'') rfl]
      by_cases h1 : d.toNat < 128 ∨ 192 ≤ d.toNat
      · rw [tl_bad h1, if_neg (by simp; omega)]; rfl
      rw [tl_step h1]
      by_cases h2 : d'.toNat < 128 ∨ 192 ≤ d'.toNat
      · rw [tl_bad h2, if_neg (by simp; omega)]; rfl
      rw [tl_step h2]
      by_cases h3 : d''.toNat < 128 ∨ 192 ≤ d''.toNat
      · rw [tl_bad h3, if_neg (by simp; omega)]; rfl
      rw [if_pos (by simp; omega), tl_one h3, show c.toNat % 8 * 262144 + d.toNat % 64 * 4096 + d'.toNat % 64 * 64 + d''.toNat % 64 = (((c.toNat - 240) * 64 + d.toNat - 128) * 64 + d'.toNat - 128) * 64 + d''.toNat - 128 from by omega]
      generalize (((c.toNat - 240) * 64 + d.toNat - 128) * 64 + d'.toNat - 128) * 64 + d''.toNat - 128 = m at *
      rw [valid_runeI, dec_pair m 65536 4 _ (by rw [Bool.eq_iff_iff]; simp) (by omega)]
      by_cases hb : m < 65536 ∨ ¬ runeI (m : Int) = true
      · rw [if_pos hb, if_pos hb]; rfl
      · rw [if_neg hb, if_neg hb]; rfl
  · have e : oneL (c :: r) = (0, 0) := by simp only [oneL]; rw [if_neg a1, if_neg a2, if_neg a3, if_neg a4, if_neg a5]
    have b1 : (c.toNat / 32 == 6) = false := by simp; omega
    have b2 : (c.toNat / 16 == 14) = false := by simp; omega
    have b3 : (c.toNat / 8 == 30) = false := by simp; omega
    rw [e, decL, e0, if_neg a1, b1, b2, b3]; rfl
/-- What a range over a text gives at a place. -/
theorem decode_at (s : ByteArray) (bs : List UInt8) (p : Nat) (c : UInt8) (r : List UInt8) (hs : s.data.toList = bs) (hd : bs.drop p = c :: r) :
    Utf8.decode s p = if (oneL (c :: r)).1 = 0 then (65533, 1) else ((oneL (c :: r)).2, (oneL (c :: r)).1) := by
  rw [decode_decL s bs p hs, hd, dec_one]
/-- A rune's bytes, as the model encodes them. -/
theorem encode_rune {n : Nat} (h : runeI (n : Int) = true) : (Utf8.encode (n : Int)).data.toList = runeB n := by
  have hv : Utf8.valid (n : Int) = true := by rw [valid_runeI]; exact h
  unfold Utf8.encode
  simp only [hv, if_true, Int.toNat_natCast]
  by_cases a1 : n < 128
  · rw [if_pos a1, runeB, if_pos a1]; simp only [b8]
  by_cases a2 : n < 2048
  · rw [if_neg a1, if_pos a2, runeB, if_neg a1, if_pos a2]; simp only [b8]
  by_cases a3 : n < 65536
  · rw [if_neg a1, if_neg a2, if_pos a3, runeB, if_neg a1, if_neg a2, if_pos a3]; simp only [b8]
  · rw [if_neg a1, if_neg a2, if_neg a3, runeB, if_neg a1, if_neg a2, if_neg a3]; simp only [b8]
end Go.Proofs.Ytehjibbjkadoiaa
