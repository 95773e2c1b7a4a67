/- The document's One and Rune (layer 3). · The document's One (layer 3): a walk. · The document's First and Check (layer 3). · The document's Bytes (layer 3). · Runes and their bytes: back and forth (no code). · Rows of runes and their text (no code). · strings.HasPrefix: is the one the beginning of the other? · What a range over a text decodes at a place is what the document's One reads there, or a rune that stands for none (no code). · utf.First: a walk. · utf.Count, utf.Check, utf.Plain: walks. -/
import Derived.Test.YtejdlhjbakndaaaProg
import Derived.Test.YtejdlhjbakndaaaM1
import Derived.Lib.Strings
import Derived.Lib.Slices
import Derived.Lib.Walk
import Derived.Lib.OthersKept
import Derived.WalkSmall
set_option linter.unusedVariables false
namespace Go.Proofs.Ytejdlhjbakndaaa
open Go.RowKit
/-- Is it a rune? -/
def runeI (n : Int) : Bool := decide (0 ≤ n ∧ n ≤ 1114111 ∧ (n < 55296 ∨ 57343 < n))
/-- The bytes behind the first one of a rune. -/
def conts : Nat → Nat → List UInt8 → Option Nat
  | 0, n, _ => some n
  | _ + 1, _, [] => none
  | k + 1, n, d :: r => if d.toNat < 128 ∨ 192 ≤ d.toNat then none else conts k (n * 64 + d.toNat - 128) r
def tl (k n least : Nat) (r : List UInt8) : Nat × Nat :=
  if r.length < k then (0, 0) else
  match conts k n r with
  | none => (0, 0)
  | some m => if m < least ∨ ¬ runeI m then (0, 0) else (k + 1, m)
/-- How many bytes the rune with which the bytes begin has, and it. -/
def oneL : List UInt8 → Nat × Nat
  | [] => (0, 0)
  | c :: r =>
    if c.toNat < 128 then (1, c.toNat) else
    if c.toNat < 192 then (0, 0) else
    if c.toNat < 224 then tl 1 (c.toNat - 192) 128 r else
    if c.toNat < 240 then tl 2 (c.toNat - 224) 2048 r else
    if c.toNat < 248 then tl 3 (c.toNat - 240) 65536 r else (0, 0)

theorem conts_lt {k n m : Nat} {r : List UInt8} (h : conts k n r = some m) : m < (n + 1) * 64 ^ k := by
  induction k generalizing n r with
  | zero => simp [conts] at h; subst h; simp
  | succ k ih =>
    cases r with
    | nil => simp [conts] at h
    | cons d r =>
      simp only [conts] at h
      split at h
      · cases h
      · have := ih h
        have hd : n * 64 + d.toNat - 128 + 1 ≤ (n + 1) * 64 := by omega
        calc m < _ := this
          _ ≤ ((n + 1) * 64) * 64 ^ k := Nat.mul_le_mul_right _ hd
          _ = (n + 1) * 64 ^ (k + 1) := by rw [Nat.pow_succ, Nat.mul_assoc, Nat.mul_comm (64 ^ k) 64]
end Go.Proofs.Ytejdlhjbakndaaa
set_option linter.unusedVariables false
namespace Go.Proofs.Ytejdlhjbakndaaa
open Go.RowKit
theorem conts_at {r : List UInt8} {k k' m j : Nat} (hk : k = k' + 1) (hj : 1 ≤ j) (hr : j - 1 < r.length) :
    conts k m (r.drop (j - 1)) = if r[j - 1].toNat < 128 ∨ 192 ≤ r[j - 1].toNat then none else conts k' (m * 64 + r[j - 1].toNat - 128) (r.drop (j + 1 - 1)) := by
  subst hk
  rw [List.drop_eq_getElem_cons hr, conts, show j - 1 + 1 = j + 1 - 1 from by omega]
end Go.Proofs.Ytejdlhjbakndaaa
set_option linter.unusedVariables false
namespace Go.Proofs.Ytejdlhjbakndaaa
open Go.RowKit
theorem tl_le {k n l : Nat} {r : List UInt8} : (tl k n l r).1 ≤ r.length + 1 := by
  unfold tl
  split
  · simp
  · split
    · simp
    · split <;> simp; omega
theorem oneL_le (bs : List UInt8) : (oneL bs).1 ≤ bs.length := by
  cases bs with
  | nil => simp [oneL]
  | cons c r =>
    have h1 := @tl_le 1 (c.toNat - 192) 128 r
    have h2 := @tl_le 2 (c.toNat - 224) 2048 r
    have h3 := @tl_le 3 (c.toNat - 240) 65536 r
    simp only [oneL, List.length_cons]
    (repeat' split) <;> simp <;> omega
/-- The runes ahead of the first bytes that are none's, and where those begin. -/
def scan (bs : List UInt8) (at' : Nat) : List Nat × Option Nat :=
  match bs with
  | [] => ([], none)
  | c :: r =>
    if _h : (oneL (c :: r)).1 = 0 then ([], some at') else
    let q := scan ((c :: r).drop (oneL (c :: r)).1) (at' + (oneL (c :: r)).1)
    ((oneL (c :: r)).2 :: q.1, q.2)
  termination_by bs.length
  decreasing_by simp; omega
theorem scan_nil (a : Nat) : scan [] a = ([], none) := by rw [scan]
theorem scan_bad {c : UInt8} {r : List UInt8} {a : Nat} (h : (oneL (c :: r)).1 = 0) : scan (c :: r) a = ([], some a) := by rw [scan, dif_pos h]
theorem scan_more {c : UInt8} {r : List UInt8} {a : Nat} (h : (oneL (c :: r)).1 ≠ 0) : scan (c :: r) a = ((oneL (c :: r)).2 :: (scan ((c :: r).drop (oneL (c :: r)).1) (a + (oneL (c :: r)).1)).1, (scan ((c :: r).drop (oneL (c :: r)).1) (a + (oneL (c :: r)).1)).2) := by rw [scan, dif_neg h]
def placeI : Option Nat → Int
  | none => -1
  | some n => n

def checkI (n : Nat) (bad : Option Nat) (most : Int) : Int := if most < n then 2 else if bad.isSome then 9 else 0
end Go.Proofs.Ytejdlhjbakndaaa
set_option linter.unusedVariables false
namespace Go.Proofs.Ytejdlhjbakndaaa
open Go.RowKit
/-- A rune's bytes. -/
def runeB (n : Nat) : List UInt8 :=
  if n < 128 then [b8 n] else
  if n < 2048 then [b8 (192 + n / 64), b8 (128 + n % 64)] else
  if n < 65536 then [b8 (224 + n / 4096), b8 (128 + n / 64 % 64), b8 (128 + n % 64)] else
  [b8 (240 + n / 262144), b8 (128 + n / 4096 % 64), b8 (128 + n / 64 % 64), b8 (128 + n % 64)]

/-- 'string(b)' of a row that was just made. -/
theorem conv_new {P : Program} (w : World) (t src dst e : TypeId) (vs : List UInt8) (hs : P.underlying src = some (.slice e)) (he : P.underlying e = some (.int .u8)) (hd : P.underlying dst = some .string) :
    (convert src dst (.slice (some ⟨w.heap.size, 0, none⟩) vs.length vs.length)).run P (w.alloc (.cells (vs.map bv).toArray t)) = .ok (.string ⟨vs.toArray⟩) (w.alloc (.cells (vs.map bv).toArray t)) := by
  refine run_convert_bytes_back _ src dst e _ _ vs hs he hd fun j hj => ?_
  rw [addr_add, (Blk.new w t _).cell]
  simp [hj, bv]

end Go.Proofs.Ytejdlhjbakndaaa
set_option linter.unusedVariables false
namespace Go.Proofs.Ytejdlhjbakndaaa
open Go.RowKit
theorem runeI_nat {n : Nat} : runeI (n : Int) = true ↔ n ≤ 1114111 ∧ (n < 55296 ∨ 57343 < n) := by simp [runeI]; omega
theorem one_back {n : Nat} (h : runeI (n : Int) = true) (rest : List UInt8) : oneL (runeB n ++ rest) = ((runeB n).length, n) := by
  have hr := runeI_nat.1 h
  unfold runeB
  by_cases a1 : n < 128
  · rw [if_pos a1]; simp [oneL, b8_toNat (show n < 256 by omega), a1]
  rw [if_neg a1]
  by_cases a2 : n < 2048
  · rw [if_pos a2]
    have e1 := b8_toNat (show 192 + n / 64 < 256 by omega)
    have e2 := b8_toNat (show 128 + n % 64 < 256 by omega)
    simp only [List.cons_append, List.nil_append, oneL, e1]
    rw [if_neg (by omega), if_neg (by omega), if_pos (by omega), tl, if_neg (by simp)]
    simp only [conts, e2]
    rw [if_neg (by omega), show (192 + n / 64 - 192) * 64 + (128 + n % 64) - 128 = n from by omega]
    simp [h]; omega
  rw [if_neg a2]
  by_cases a3 : n < 65536
  · rw [if_pos a3]
    have e1 := b8_toNat (show 224 + n / 4096 < 256 by omega)
    have e2 := b8_toNat (show 128 + n / 64 % 64 < 256 by omega)
    have e3 := b8_toNat (show 128 + n % 64 < 256 by omega)
    simp only [List.cons_append, List.nil_append, oneL, e1]
    rw [if_neg (by omega), if_neg (by omega), if_neg (by omega), if_pos (by omega), tl, if_neg (by simp)]
    simp only [conts, e2, e3]
    rw [if_neg (by omega), if_neg (by omega), show ((224 + n / 4096 - 224) * 64 + (128 + n / 64 % 64) - 128) * 64 + (128 + n % 64) - 128 = n from by omega]
    simp [h]; omega
  · rw [if_neg a3]
    have e1 := b8_toNat (show 240 + n / 262144 < 256 by omega)
    have e2 := b8_toNat (show 128 + n / 4096 % 64 < 256 by omega)
    have e3 := b8_toNat (show 128 + n / 64 % 64 < 256 by omega)
    have e4 := b8_toNat (show 128 + n % 64 < 256 by omega)
    simp only [List.cons_append, List.nil_append, oneL, e1]
    rw [if_neg (by omega), if_neg (by omega), if_neg (by omega), if_neg (by omega), if_pos (by omega), tl, if_neg (by simp)]
    simp only [conts, e2, e3, e4]
    rw [if_neg (by omega), if_neg (by omega), if_neg (by omega), show (((240 + n / 262144 - 240) * 64 + (128 + n / 4096 % 64) - 128) * 64 + (128 + n / 64 % 64) - 128) * 64 + (128 + n % 64) - 128 = n from by omega]
    dsimp only
    rw [if_neg (by simp [h]; omega)]
    simp
theorem b8_eq {n : Nat} {c : UInt8} (h : n = c.toNat) : b8 n = c := by rw [h, b8_self]
theorem tl_some {k n l : Nat} {r : List UInt8} (h : (tl k n l r).1 ≠ 0) : k ≤ r.length ∧ ∃ m, conts k n r = some m ∧ l ≤ m ∧ runeI (m : Int) = true ∧ tl k n l r = (k + 1, m) := by
  unfold tl at h ⊢
  split at h
  · simp at h
  rename_i hk
  cases hc : conts k n r with
  | none => rw [hc] at h; simp at h
  | some m =>
    rw [hc] at h
    dsimp only at h
    split at h
    · simp at h
    rename_i hm
    refine ⟨by omega, m, rfl, by omega, ?_, ?_⟩
    · by_cases q : runeI (m : Int) = true
      · exact q
      · exact absurd (Or.inr q) hm
    · rw [if_neg hk]; dsimp only; rw [if_neg hm]
theorem conts1 {n m : Nat} {k : Nat} {d : UInt8} {r : List UInt8} (h : conts (k + 1) n (d :: r) = some m) : 128 ≤ d.toNat ∧ d.toNat < 192 ∧ conts k (n * 64 + d.toNat - 128) r = some m := by
  rw [conts] at h
  split at h
  · cases h
  · exact ⟨by omega, by omega, h⟩
/-- What is read as a rune has that rune's bytes. -/
theorem one_forth {bs : List UInt8} (h : (oneL bs).1 ≠ 0) : runeI ((oneL bs).2 : Int) = true ∧ bs.take (oneL bs).1 = runeB (oneL bs).2 := by
  cases bs with
  | nil => simp [oneL] at h
  | cons c r =>
    have hx := c.toNat_lt
    by_cases a1 : c.toNat < 128
    · have e : oneL (c :: r) = (1, c.toNat) := by simp only [oneL]; rw [if_pos a1]
      rw [e]
      exact ⟨runeI_nat.2 (by omega), by simp [runeB, a1, b8_self]⟩
    by_cases a2 : c.toNat < 192
    · have e : oneL (c :: r) = (0, 0) := by simp only [oneL]; rw [if_neg a1, if_pos a2]
      rw [e] at h; simp at h
    by_cases a3 : c.toNat < 224
    · have e : oneL (c :: r) = tl 1 (c.toNat - 192) 128 r := by simp only [oneL]; rw [if_neg a1, if_neg a2, if_pos a3]
      rw [e] at h ⊢
      obtain ⟨hk, m, hc, hl, hr, ht⟩ := tl_some h
      rw [ht]
      match r, hk, hc with
      | d :: r, _, hc =>
        obtain ⟨d1, d2, hc⟩ := conts1 hc
        simp only [conts, Option.some.injEq] at hc
        refine ⟨hr, ?_⟩
        rw [runeB, if_neg (by omega), if_pos (by omega)]
        simp [b8_eq (show 192 + m / 64 = c.toNat by omega), b8_eq (show 128 + m % 64 = d.toNat by omega)]
    by_cases a4 : c.toNat < 240
    · have e : oneL (c :: r) = tl 2 (c.toNat - 224) 2048 r := by simp only [oneL]; rw [if_neg a1, if_neg a2, if_neg a3, if_pos a4]
      rw [e] at h ⊢
      obtain ⟨hk, m, hc, hl, hr, ht⟩ := tl_some h
      rw [ht]
      match r, hk, hc with
      | d :: d' :: r, _, hc =>
        obtain ⟨d1, d2, hc⟩ := conts1 hc
        obtain ⟨d3, d4, hc⟩ := conts1 hc
        simp only [conts, Option.some.injEq] at hc
        refine ⟨hr, ?_⟩
        rw [runeB, if_neg (by omega), if_neg (by omega), if_pos (by omega)]
        simp [b8_eq (show 224 + m / 4096 = c.toNat by omega), b8_eq (show 128 + m / 64 % 64 = d.toNat by omega), b8_eq (show 128 + m % 64 = d'.toNat by omega)]
    by_cases a5 : c.toNat < 248
    · have e : oneL (c :: r) = tl 3 (c.toNat - 240) 65536 r := by simp only [oneL]; rw [if_neg a1, if_neg a2, if_neg a3, if_neg a4, if_pos a5]
      rw [e] at h ⊢
      obtain ⟨hk, m, hc, hl, hr, ht⟩ := tl_some h
      rw [ht]
      match r, hk, hc with
      | d :: d' :: d'' :: r, _, hc =>
        obtain ⟨d1, d2, hc⟩ := conts1 hc
        obtain ⟨d3, d4, hc⟩ := conts1 hc
        obtain ⟨d5, d6, hc⟩ := conts1 hc
        simp only [conts, Option.some.injEq] at hc
        refine ⟨hr, ?_⟩
        rw [runeB, if_neg (by omega), if_neg (by omega), if_neg (by omega)]
        simp [b8_eq (show 240 + m / 262144 = c.toNat by omega), b8_eq (show 128 + m / 4096 % 64 = d.toNat by omega), b8_eq (show 128 + m / 64 % 64 = d'.toNat by omega), b8_eq (show 128 + m % 64 = d''.toNat by omega)]
    · have e : oneL (c :: r) = (0, 0) := by simp only [oneL]; rw [if_neg a1, if_neg a2, if_neg a3, if_neg a4, if_neg a5]
      rw [e] at h; simp at h
end Go.Proofs.Ytejdlhjbakndaaa
set_option linter.unusedVariables false
namespace Go.Proofs.Ytejdlhjbakndaaa
open Go.RowKit
/-- The text of runes. -/
def textB : List Nat → List UInt8
  | [] => []
  | n :: l => runeB n ++ textB l
theorem runeB_pos (n : Nat) : 0 < (runeB n).length := by
  unfold runeB; (repeat' split) <;> simp
theorem runeB_le (n : Nat) : (runeB n).length ≤ 4 := by
  unfold runeB; (repeat' split) <;> simp
theorem textB_append (l m : List Nat) : textB (l ++ m) = textB l ++ textB m := by
  induction l with
  | nil => rfl
  | cons n l ih => simp [textB, ih]
theorem textB_le (l : List Nat) : (textB l).length ≤ 4 * l.length := by
  induction l with
  | nil => simp [textB]
  | cons n l ih => have := runeB_le n; simp [textB]; omega
/-- A text of runes is read as they were, and what is behind it as it is. -/
theorem scan_text (l : List Nat) (h : ∀ n ∈ l, runeI (n : Int) = true) (rest : List UInt8) (a : Nat) :
    scan (textB l ++ rest) a = (l ++ (scan rest (a + (textB l).length)).1, (scan rest (a + (textB l).length)).2) := by
  induction l generalizing a with
  | nil => simp [textB]
  | cons n l ih =>
    have hb := one_back (h n (by simp)) (textB l ++ rest)
    have hp := runeB_pos n
    have e : textB (n :: l) ++ rest = runeB n ++ (textB l ++ rest) := by simp [textB]
    rw [e]
    cases hq : runeB n ++ (textB l ++ rest) with
    | nil => have := congrArg List.length hq; rw [List.length_append, List.length_nil] at this; omega
    | cons c r =>
      rw [hq] at hb
      rw [scan_more (by rw [hb]; exact Nat.ne_of_gt hp), hb, ← hq]
      dsimp only
      rw [List.drop_left', ih (fun m hm => h m (by simp [hm]))]
      · simp [textB, Nat.add_assoc]
      · rfl
/-- The runes that are read ahead of a fault have the bytes ahead of it. -/
theorem scan_forth (k : Nat) (bs : List UInt8) (a : Nat) (hk : bs.length ≤ k) :
    (∀ n ∈ (scan bs a).1, runeI (n : Int) = true) ∧
    (match (scan bs a).2 with | none => bs = textB (scan bs a).1 | some p => a ≤ p ∧ p < a + bs.length ∧ bs.take (p - a) = textB (scan bs a).1) := by
  induction k generalizing bs a with
  | zero =>
    obtain rfl : bs = [] := List.eq_nil_of_length_eq_zero (by omega)
    rw [scan_nil]; simp [textB]
  | succ k ih =>
    cases bs with
    | nil => rw [scan_nil]; simp [textB]
    | cons c r =>
      by_cases ho : (oneL (c :: r)).1 = 0
      · rw [scan_bad ho]; simp [textB]
      · have hle := oneL_le (c :: r)
        obtain ⟨hr, ht⟩ := one_forth ho
        obtain ⟨i1, i2⟩ := ih ((c :: r).drop (oneL (c :: r)).1) (a + (oneL (c :: r)).1) (by simp at hk ⊢; omega)
        rw [scan_more ho]
        generalize hs : scan ((c :: r).drop (oneL (c :: r)).1) (a + (oneL (c :: r)).1) = q at *
        obtain ⟨l, p⟩ := q
        generalize hq : c :: r = bs at *
        generalize ho' : oneL bs = o at *
        obtain ⟨o, v⟩ := o
        dsimp only at *
        refine ⟨fun n hn => by rcases List.mem_cons.1 hn with rfl | hn; exact hr; exact i1 n hn, ?_⟩
        cases p with
        | none =>
          dsimp only at i2 ⊢
          rw [textB, ← ht, ← i2, List.take_append_drop]
        | some p =>
          dsimp only at i2 ⊢
          obtain ⟨j1, j2, j3⟩ := i2
          rw [List.length_drop] at j2
          refine ⟨by omega, by omega, ?_⟩
          rw [textB, ← ht, ← j3, show p - a = o + (p - (a + o)) from by omega, List.take_add]
theorem scan_none {bs : List UInt8} {a : Nat} (h : (scan bs a).2 = none) : textB (scan bs a).1 = bs := by
  have := (scan_forth bs.length bs a (Nat.le_refl _)).2
  rw [h] at this; exact this.symm
theorem scan_runes (bs : List UInt8) (a : Nat) : ∀ n ∈ (scan bs a).1, runeI (n : Int) = true := (scan_forth bs.length bs a (Nat.le_refl _)).1
/-- Where the fault lies goes with the start. -/
theorem scan_shift (k : Nat) (bs : List UInt8) (a d : Nat) (hk : bs.length ≤ k) : (scan bs (a + d)).1 = (scan bs a).1 ∧ (scan bs (a + d)).2 = (scan bs a).2.map (· + d) := by
  induction k generalizing bs a with
  | zero =>
    obtain rfl : bs = [] := List.eq_nil_of_length_eq_zero (by omega)
    rw [scan_nil, scan_nil]; simp
  | succ k ih =>
    cases bs with
    | nil => rw [scan_nil, scan_nil]; simp
    | cons c r =>
      by_cases ho : (oneL (c :: r)).1 = 0
      · rw [scan_bad ho, scan_bad ho]; simp
      · have := ih ((c :: r).drop (oneL (c :: r)).1) (a + (oneL (c :: r)).1) (by simp at hk ⊢; omega)
        rw [scan_more ho, scan_more ho, show a + d + (oneL (c :: r)).1 = a + (oneL (c :: r)).1 + d from by omega]
        exact ⟨by rw [this.1], this.2⟩
/-- One text behind another one. -/
theorem scan_both {bs : List UInt8} (h : (scan bs 0).2 = none) (more : List UInt8) : (scan (bs ++ more) 0).2 = (scan more 0).2.map (· + bs.length) := by
  have ht := scan_none h
  have := scan_text (scan bs 0).1 (scan_runes bs 0) more 0
  rw [ht] at this
  rw [this]
  exact (scan_shift more.length more 0 bs.length (Nat.le_refl _)).2
end Go.Proofs.Ytejdlhjbakndaaa
set_option linter.unusedVariables false
namespace Go.Proofs.Ytejdlhjbakndaaa
open Go.RowKit
end Go.Proofs.Ytejdlhjbakndaaa
set_option linter.unusedVariables false
namespace Go.Proofs.Ytejdlhjbakndaaa
open Go.RowKit
def atL (l : List UInt8) (k : Nat) : Nat := (l.getD k 0).toNat
def contL (l : List UInt8) (k : Nat) : Bool := decide (k < l.length) && atL l k / 64 == 2
def decL (l : List UInt8) : Nat × Nat :=
  if atL l 0 < 128 then (atL l 0, 1)
  else if atL l 0 / 32 == 6 && contL l 1 then
    if (atL l 0 % 32) * 64 + atL l 1 % 64 ≥ 128 then ((atL l 0 % 32) * 64 + atL l 1 % 64, 2) else (65533, 1)
  else if atL l 0 / 16 == 14 && contL l 1 && contL l 2 then
    if (atL l 0 % 16) * 4096 + (atL l 1 % 64) * 64 + atL l 2 % 64 ≥ 2048 && Utf8.valid ((atL l 0 % 16) * 4096 + (atL l 1 % 64) * 64 + atL l 2 % 64 : Nat) then ((atL l 0 % 16) * 4096 + (atL l 1 % 64) * 64 + atL l 2 % 64, 3) else (65533, 1)
  else if atL l 0 / 8 == 30 && contL l 1 && contL l 2 && contL l 3 then
    if (atL l 0 % 8) * 262144 + (atL l 1 % 64) * 4096 + (atL l 2 % 64) * 64 + atL l 3 % 64 ≥ 65536 && Utf8.valid ((atL l 0 % 8) * 262144 + (atL l 1 % 64) * 4096 + (atL l 2 % 64) * 64 + atL l 3 % 64 : Nat) then ((atL l 0 % 8) * 262144 + (atL l 1 % 64) * 4096 + (atL l 2 % 64) * 64 + atL l 3 % 64, 4) else (65533, 1)
  else (65533, 1)
theorem get_drop (s : ByteArray) (bs : List UInt8) (p k : Nat) (hs : s.data.toList = bs) : (s.get! (p + k)).toNat = atL (bs.drop p) k := by
  subst hs
  unfold atL
  congr 1
  rw [List.getD_eq_getElem?_getD, List.getElem?_drop, Array.getElem?_toList]
  show s.data[p + k]! = _
  rw [getElem!_def]
  cases s.data[p + k]? <;> rfl
theorem decode_decL (s : ByteArray) (bs : List UInt8) (p : Nat) (hs : s.data.toList = bs) : Utf8.decode s p = decL (bs.drop p) := by
  have h := fun k => get_drop s bs p k hs
  have hsz : s.size = bs.length := by rw [← hs]; simp
  have hc : ∀ k, 1 ≤ k → decide (p + k < s.size) = decide (k < (bs.drop p).length) := by
    intro k hk
    rw [List.length_drop, hsz, decide_eq_decide]; omega
  simp only [Utf8.decode, h, decL, contL, Utf8.runeError, hc 1 (by omega), hc 2 (by omega), hc 3 (by omega)]
  rfl
theorem valid_runeI (n : Nat) : Utf8.valid (n : Int) = runeI (n : Int) := by
  unfold Utf8.valid runeI
  rw [Bool.eq_iff_iff]; simp; omega
theorem tl_one {n l : Nat} {d : UInt8} {r : List UInt8} (h : ¬ (d.toNat < 128 ∨ 192 ≤ d.toNat)) : tl 1 n l (d :: r) = if n * 64 + d.toNat - 128 < l ∨ ¬ runeI (n * 64 + d.toNat - 128 : Nat) then (0, 0) else (2, n * 64 + d.toNat - 128) := by
  rw [tl, if_neg (by simp), show conts 1 n (d :: r) = some (n * 64 + d.toNat - 128) from by rw [conts, if_neg h, conts]]
theorem tl_step {k n l : Nat} {d : UInt8} {r : List UInt8} (h : ¬ (d.toNat < 128 ∨ 192 ≤ d.toNat)) : (tl (k + 1) n l (d :: r)) = if (tl k (n * 64 + d.toNat - 128) l r).1 = 0 then (0, 0) else ((tl k (n * 64 + d.toNat - 128) l r).1 + 1, (tl k (n * 64 + d.toNat - 128) l r).2) := by
  have hc : conts (k + 1) n (d :: r) = conts k (n * 64 + d.toNat - 128) r := by rw [conts, if_neg h]
  unfold tl
  rw [hc]
  by_cases hk : r.length < k
  · rw [if_pos (by simpa using hk), if_pos hk]; rfl
  · rw [if_neg (by simpa using hk), if_neg hk]
    cases conts k (n * 64 + d.toNat - 128) r with
    | none => rfl
    | some m =>
      dsimp only
      by_cases hm : m < l ∨ ¬ runeI (m : Int) = true
      · simp only [hm, if_true]
      · simp only [hm, if_false]; simp
theorem tl_bad {k n l : Nat} {d : UInt8} {r : List UInt8} (h : d.toNat < 128 ∨ 192 ≤ d.toNat) : tl (k + 1) n l (d :: r) = (0, 0) := by
  rw [tl]
  split
  · rfl
  · rw [show conts (k + 1) n (d :: r) = none from by rw [conts, if_pos h]]
theorem contL_of {l : List UInt8} {k : Nat} {d : UInt8} (h : l[k]? = some d) : contL l k = decide (128 ≤ d.toNat ∧ d.toNat < 192) := by
  have hk := (List.getElem?_eq_some_iff.1 h).1
  have e : atL l k = d.toNat := by rw [atL, List.getD_eq_getElem?_getD, h]; rfl
  have hd := d.toNat_lt
  rw [contL, e, Bool.eq_iff_iff]; simp [hk]; omega
theorem atL_of {l : List UInt8} {k : Nat} {d : UInt8} (h : l[k]? = some d) : atL l k = d.toNat := by rw [atL, List.getD_eq_getElem?_getD, h]; rfl
theorem contL_no {l : List UInt8} {k : Nat} (h : l.length ≤ k) : contL l k = false := by simp [contL]; omega
theorem tl_short {k n l : Nat} {r : List UInt8} (h : r.length < k) : tl k n l r = (0, 0) := by rw [tl, if_pos h]
theorem dec_pair (m l k : Nat) (b : Bool) (hb : b = decide (l ≤ m ∧ runeI (m : Int) = true)) (hk : k ≠ 0) : (if b = true then (m, k) else (65533, 1)) = if (if m < l ∨ ¬ runeI (m : Int) = true then (0, 0) else (k, m)).1 = 0 then (65533, 1) else ((if m < l ∨ ¬ runeI (m : Int) = true then (0, 0) else (k, m)).2, (if m < l ∨ ¬ runeI (m : Int) = true then (0, 0) else (k, m)).1) := by
  subst hb
  by_cases h : m < l ∨ ¬ runeI (m : Int) = true
  · rw [if_pos h, if_neg (by rw [decide_eq_true_eq]; rintro ⟨h1, h2⟩; rcases h with h | h; omega; exact h h2)]; rfl
  · have h1 : l ≤ m := by omega
    have h2 : runeI (m : Int) = true := by
      cases hr : runeI (m : Int)
      · exact absurd (Or.inr (by simp [hr])) h
      · rfl
    rw [if_neg h, if_pos (by simp [h1, h2])]; simp [hk]
theorem dec_one (c : UInt8) (r : List UInt8) : decL (c :: r) = if (oneL (c :: r)).1 = 0 then (65533, 1) else ((oneL (c :: r)).2, (oneL (c :: r)).1) := by
  have hx := c.toNat_lt
  have e0 : atL (c :: r) 0 = c.toNat := rfl
  by_cases a1 : c.toNat < 128
  · have e : oneL (c :: r) = (1, c.toNat) := by simp only [oneL]; rw [if_pos a1]
    rw [e, decL, e0, if_pos a1]; rfl
  by_cases a2 : c.toNat < 192
  · have e : oneL (c :: r) = (0, 0) := by simp only [oneL]; rw [if_neg a1, if_pos a2]
    have b1 : (c.toNat / 32 == 6) = false := by simp; omega
    have b2 : (c.toNat / 16 == 14) = false := by simp; omega
    have b3 : (c.toNat / 8 == 30) = false := by simp; omega
    rw [e, decL, e0, if_neg a1, b1, b2, b3]; rfl
  by_cases a3 : c.toNat < 224
  · have e : oneL (c :: r) = tl 1 (c.toNat - 192) 128 r := by simp only [oneL]; rw [if_neg a1, if_neg a2, if_pos a3]
    have b1 : (c.toNat / 32 == 6) = true := by simp; omega
    have b2 : (c.toNat / 16 == 14) = false := by simp; omega
    have b3 : (c.toNat / 8 == 30) = false := by simp; omega
    rw [e, decL, e0, if_neg a1, b1, b2, b3]
    simp only [Bool.false_and, Bool.true_and, Bool.false_eq_true, if_false]
    match r with
    | [] => rw [tl_short (by simp), contL_no (by simp)]; rfl
    | d :: r =>
      have hd := d.toNat_lt
      rw [contL_of (k := 1) (d := d) rfl, atL_of (k := 1) (d := d) rfl]
      by_cases h1 : d.toNat < 128 ∨ 192 ≤ d.toNat
      · rw [tl_bad h1, if_neg (by simp; omega)]; rfl
      rw [if_pos (by simp; omega), tl_one h1, show c.toNat % 32 * 64 + d.toNat % 64 = (c.toNat - 192) * 64 + d.toNat - 128 from by omega]
      have hm : (c.toNat - 192) * 64 + d.toNat - 128 ≤ 2047 := by omega
      generalize (c.toNat - 192) * 64 + d.toNat - 128 = m at *
      have hr : runeI (m : Int) = true := runeI_nat.2 (by omega)
      rw [← dec_pair m 128 2 (decide (128 ≤ m)) (by rw [decide_eq_decide]; simp [hr]) (by omega)]
      simp
  by_cases a4 : c.toNat < 240
  · have e : oneL (c :: r) = tl 2 (c.toNat - 224) 2048 r := by simp only [oneL]; rw [if_neg a1, if_neg a2, if_neg a3, if_pos a4]
    have b1 : (c.toNat / 32 == 6) = false := by simp; omega
    have b2 : (c.toNat / 16 == 14) = true := by simp; omega
    have b3 : (c.toNat / 8 == 30) = false := by simp; omega
    rw [e, decL, e0, if_neg a1, b1, b2, b3]
    simp only [Bool.false_and, Bool.true_and, Bool.false_eq_true, if_false]
    match r with
    | [] => rw [tl_short (by simp), contL_no (by simp)]; rfl
    | [d] => rw [tl_short (by simp), contL_no (k := 2) (by simp), Bool.and_false]; rfl
    | d :: d' :: r =>
      have hd := d.toNat_lt
      have hd' := d'.toNat_lt
      rw [contL_of (k := 1) (d := d) rfl, atL_of (k := 1) (d := d) rfl, contL_of (k := 2) (d := d') rfl, atL_of (k := 2) (d := d') rfl]
      by_cases h1 : d.toNat < 128 ∨ 192 ≤ d.toNat
      · rw [tl_bad h1, if_neg (by simp; omega)]; rfl
      rw [tl_step h1]
      by_cases h2 : d'.toNat < 128 ∨ 192 ≤ d'.toNat
      · rw [tl_bad h2, if_neg (by simp; omega)]; rfl
      rw [if_pos (by simp; omega), tl_one h2, show c.toNat % 16 * 4096 + d.toNat % 64 * 64 + d'.toNat % 64 = ((c.toNat - 224) * 64 + d.toNat - 128) * 64 + d'.toNat - 128 from by omega]
      generalize ((c.toNat - 224) * 64 + d.toNat - 128) * 64 + d'.toNat - 128 = m at *
      rw [valid_runeI, dec_pair m 2048 3 _ (by rw [Bool.eq_iff_iff]; simp) (by omega)]
      by_cases hb : m < 2048 ∨ ¬ runeI (m : Int) = true
      · rw [if_pos hb, if_pos hb]; rfl
      · rw [if_neg hb, if_neg hb]; rfl
  by_cases a5 : c.toNat < 248
  · have e : oneL (c :: r) = tl 3 (c.toNat - 240) 65536 r := by simp only [oneL]; rw [if_neg a1, if_neg a2, if_neg a3, if_neg a4, if_pos a5]
    have b1 : (c.toNat / 32 == 6) = false := by simp; omega
    have b2 : (c.toNat / 16 == 14) = false := by simp; omega
    have b3 : (c.toNat / 8 == 30) = true := by simp; omega
    rw [e, decL, e0, if_neg a1, b1, b2, b3]
    simp only [Bool.false_and, Bool.true_and, Bool.false_eq_true, if_false]
    match r with
    | [] => rw [tl_short (by simp), contL_no (by simp)]; rfl
    | [d] => rw [tl_short (by simp), contL_no (k := 2) (by simp), Bool.and_false]; rfl
    | [d, d'] => rw [tl_short (by simp), contL_no (k := 3) (by simp), Bool.and_false]; rfl
    | d :: d' :: d'' :: r =>
      have hd := d.toNat_lt
      have hd' := d'.toNat_lt
      have hd'' := d''.toNat_lt
      rw [contL_of (k := 1) (d := d) rfl, atL_of (k := 1) (d := d) rfl, contL_of (k := 2) (d := d') rfl, atL_of (k := 2) (d := d') rfl, contL_of (k := 3) (d := d'') rfl, atL_of (k := 3) (d := d'') rfl]
      by_cases h1 : d.toNat < 128 ∨ 192 ≤ d.toNat
      · rw [tl_bad h1, if_neg (by simp; omega)]; rfl
      rw [tl_step h1]
      by_cases h2 : d'.toNat < 128 ∨ 192 ≤ d'.toNat
      · rw [tl_bad h2, if_neg (by simp; omega)]; rfl
      rw [tl_step h2]
      by_cases h3 : d''.toNat < 128 ∨ 192 ≤ d''.toNat
      · rw [tl_bad h3, if_neg (by simp; omega)]; rfl
      rw [if_pos (by simp; omega), tl_one h3, show c.toNat % 8 * 262144 + d.toNat % 64 * 4096 + d'.toNat % 64 * 64 + d''.toNat % 64 = (((c.toNat - 240) * 64 + d.toNat - 128) * 64 + d'.toNat - 128) * 64 + d''.toNat - 128 from by omega]
      generalize (((c.toNat - 240) * 64 + d.toNat - 128) * 64 + d'.toNat - 128) * 64 + d''.toNat - 128 = m at *
      rw [valid_runeI, dec_pair m 65536 4 _ (by rw [Bool.eq_iff_iff]; simp) (by omega)]
      by_cases hb : m < 65536 ∨ ¬ runeI (m : Int) = true
      · rw [if_pos hb, if_pos hb]; rfl
      · rw [if_neg hb, if_neg hb]; rfl
  · have e : oneL (c :: r) = (0, 0) := by simp only [oneL]; rw [if_neg a1, if_neg a2, if_neg a3, if_neg a4, if_neg a5]
    have b1 : (c.toNat / 32 == 6) = false := by simp; omega
    have b2 : (c.toNat / 16 == 14) = false := by simp; omega
    have b3 : (c.toNat / 8 == 30) = false := by simp; omega
    rw [e, decL, e0, if_neg a1, b1, b2, b3]; rfl
/-- What a range over a text gives at a place. -/
theorem decode_at (s : ByteArray) (bs : List UInt8) (p : Nat) (c : UInt8) (r : List UInt8) (hs : s.data.toList = bs) (hd : bs.drop p = c :: r) :
    Utf8.decode s p = if (oneL (c :: r)).1 = 0 then (65533, 1) else ((oneL (c :: r)).2, (oneL (c :: r)).1) := by
  rw [decode_decL s bs p hs, hd, dec_one]
/-- A rune's bytes, as the model encodes them. -/
theorem encode_rune {n : Nat} (h : runeI (n : Int) = true) : (Utf8.encode (n : Int)).data.toList = runeB n := by
  have hv : Utf8.valid (n : Int) = true := by rw [valid_runeI]; exact h
  unfold Utf8.encode
  simp only [hv, if_true, Int.toNat_natCast]
  by_cases a1 : n < 128
  · rw [if_pos a1, runeB, if_pos a1]; simp only [b8]
  by_cases a2 : n < 2048
  · rw [if_neg a1, if_pos a2, runeB, if_neg a1, if_pos a2]; simp only [b8]
  by_cases a3 : n < 65536
  · rw [if_neg a1, if_neg a2, if_pos a3, runeB, if_neg a1, if_neg a2, if_pos a3]; simp only [b8]
  · rw [if_neg a1, if_neg a2, if_neg a3, runeB, if_neg a1, if_neg a2, if_neg a3]; simp only [b8]
end Go.Proofs.Ytejdlhjbakndaaa
set_option linter.unusedVariables false
namespace Go.Proofs.Ytejdlhjbakndaaa
open Go.RowKit
theorem ext_drop (s : ByteArray) (bs : List UInt8) (p e : Nat) (hs : s.data.toList = bs) (he : bs.length ≤ e) : (s.extract p e).data.toList = bs.drop p := by
  subst hs
  simp only [ByteArray.data_extract, Array.toList_extract, List.extract_eq_take_drop]
  exact List.take_of_length_le (by rw [List.length_drop]; omega)
theorem below_iter (w : World) (s : ByteArray) (p : Nat) : Below w.heap.size w (w.iter s p) := (Below.refl _ w).alloc (Nat.le_refl _) _
theorem prefix_good {c : UInt8} {r : List UInt8} (h : (oneL (c :: r)).1 ≠ 0) : (Utf8.encode ((oneL (c :: r)).2 : Int)).data.toList.isPrefixOf (c :: r) = true := by
  obtain ⟨h1, h2⟩ := one_forth h
  rw [encode_rune h1, ← h2]
  simp [List.isPrefixOf_iff_prefix, List.take_prefix]
theorem prefix_bad {c : UInt8} {r : List UInt8} (h : (oneL (c :: r)).1 = 0) : (Utf8.encode 65533).data.toList.isPrefixOf (c :: r) = false := by
  have hr : runeI ((65533 : Nat) : Int) = true := by decide
  have he := encode_rune hr
  rw [show ((65533 : Nat) : Int) = 65533 from rfl] at he
  rw [he]
  cases hp : (runeB 65533).isPrefixOf (c :: r)
  · rfl
  · obtain ⟨t, ht⟩ := List.isPrefixOf_iff_prefix.1 hp
    have := one_back hr t
    rw [ht] at this
    rw [this] at h
    have hpos := runeB_pos 65533
    simp only at h
    omega
end Go.Proofs.Ytejdlhjbakndaaa
set_option linter.unusedVariables false
namespace Go.Proofs.Ytejdlhjbakndaaa
open Go.RowKit
def countI (bs : List UInt8) : Int := if (scan bs 0).2 = none then ((scan bs 0).1.length : Int) else -1
theorem drop_cons {bs : List UInt8} {p n : Nat} (hn : bs.length = n) (hp : p < n) : ∃ c r, bs.drop p = c :: r := by
  cases hq : bs.drop p with
  | nil => have := congrArg List.length hq; simp at this; omega
  | cons c r => exact ⟨c, r, rfl⟩
theorem scan_len (k : Nat) (bs : List UInt8) (a : Nat) (hk : bs.length ≤ k) : (scan bs a).1.length ≤ bs.length := by
  induction k generalizing bs a with
  | zero =>
    obtain rfl : bs = [] := List.eq_nil_of_length_eq_zero (by omega)
    simp [scan_nil]
  | succ k ih =>
    cases bs with
    | nil => simp [scan_nil]
    | cons c r =>
      by_cases ho : (oneL (c :: r)).1 = 0
      · rw [scan_bad ho]; simp
      · have := ih ((c :: r).drop (oneL (c :: r)).1) (a + (oneL (c :: r)).1) (by simp at hk ⊢; omega)
        rw [scan_more ho]
        simp only [List.length_cons, List.length_drop] at this ⊢
        omega
def plainB (bs : List UInt8) : Bool := bs.all fun c => decide (32 ≤ c.toNat ∧ c.toNat ≤ 126)
theorem decode_low (s : ByteArray) (bs : List UInt8) (p : Nat) (c : UInt8) (r : List UInt8) (hs : s.data.toList = bs) (hd : bs.drop p = c :: r) (h : c.toNat < 128) : Utf8.decode s p = (c.toNat, 1) := by
  rw [decode_at s bs p c r hs hd]
  have e : oneL (c :: r) = (1, c.toNat) := by simp only [oneL]; rw [if_pos h]
  rw [e]; rfl
theorem decode_hi (s : ByteArray) (bs : List UInt8) (p : Nat) (c : UInt8) (r : List UInt8) (hs : s.data.toList = bs) (hd : bs.drop p = c :: r) (h : ¬ c.toNat < 128) : 128 ≤ (Utf8.decode s p).1 ∧ (Utf8.decode s p).1 ≤ 2147483647 := by
  have hp : p < s.size := by
    have h1 : s.size = bs.length := by rw [← hs]; simp
    have h2 := congrArg List.length hd
    simp at h2; omega
  refine ⟨(decode_high s p hp ?_).1, decode_le s p⟩
  have hg : (bs.drop p)[0]? = some (s[p]'hp) := by
    rw [List.getElem?_drop, ← hs, Array.getElem?_toList]; exact Array.getElem?_eq_getElem _
  rw [hd] at hg
  simp at hg
  rw [← hg]; omega
theorem plain_take {bs : List UInt8} {p : Nat} {c : UInt8} {r : List UInt8} (hd : bs.drop p = c :: r) : plainB (bs.take (p + 1)) = (plainB (bs.take p) && decide (32 ≤ c.toNat ∧ c.toNat ≤ 126)) := by
  have hp : p < bs.length := by have h2 := congrArg List.length hd; simp at h2; omega
  have hc : bs[p] = c := by
    have := List.drop_eq_getElem_cons hp
    rw [hd] at this; injection this with h _; exact h.symm
  rw [List.take_succ_eq_append_getElem hp, plainB, List.all_append, hc]
  simp [plainB]
theorem plain_not {bs : List UInt8} {p : Nat} {c : UInt8} {r : List UInt8} (hd : bs.drop p = c :: r) (h : ¬ (32 ≤ c.toNat ∧ c.toNat ≤ 126)) : plainB bs = false := by
  have e : bs = bs.take p ++ c :: r := by rw [← hd, List.take_append_drop]
  rw [e, plainB, List.all_append, List.all_cons]
  simp [h]
end Go.Proofs.Ytejdlhjbakndaaa
