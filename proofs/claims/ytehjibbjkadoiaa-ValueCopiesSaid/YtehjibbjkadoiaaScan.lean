/- Rows of runes and their text (no code). -/
import Derived.Test.YtehjibbjkadoiaaProg
import Derived.Test.YtehjibbjkadoiaaM1
import Derived.Test.YtehjibbjkadoiaaRuneMath
set_option linter.unusedVariables false
namespace Go.Proofs.Ytehjibbjkadoiaa
open Go.RowKit
/-- The text of runes. -/
def textB : List Nat → List UInt8
  | [] => []
  | n :: l => runeB n ++ textB l
theorem runeB_pos (n : Nat) : 0 < (runeB n).length := by
  unfold runeB; (repeat' split) <;> simp
theorem runeB_le (n : Nat) : (runeB n).length ≤ 4 := by
  unfold runeB; (repeat' split) <;> simp
theorem textB_append (l m : List Nat) : textB (l ++ m) = textB l ++ textB m := by
  induction l with
  | nil => rfl
  | cons n l ih => simp [textB, ih]
theorem textB_le (l : List Nat) : (textB l).length ≤ 4 * l.length := by
  induction l with
  | nil => simp [textB]
  | cons n l ih => have := runeB_le n; simp [textB]; omega
/-- A text of runes is read as they were, and what is behind it as it is. -/
theorem scan_text (l : List Nat) (h : ∀ n ∈ l, runeI (n : Int) = true) (rest : List UInt8) (a : Nat) :
    scan (textB l ++ rest) a = (l ++ (scan rest (a + (textB l).length)).1, (scan rest (a + (textB l).length)).2) := by
  induction l generalizing a with
  | nil => simp [textB]
  | cons n l ih =>
    have hb := one_back (h n (by simp)) (textB l ++ rest)
    have hp := runeB_pos n
    have e : textB (n :: l) ++ rest = runeB n ++ (textB l ++ rest) := by simp [textB]
    rw [e]
    cases hq : runeB n ++ (textB l ++ rest) with
    | nil => have := congrArg List.length hq; rw [List.length_append, List.length_nil] at this; omega
    | cons c r =>
      rw [hq] at hb
      rw [scan_more (by rw [hb]; exact Nat.ne_of_gt hp), hb, ← hq]
      dsimp only
      rw [List.drop_left', ih (fun m hm => h m (by simp [hm]))]
      · simp [textB, Nat.add_assoc]
      · rfl
/-- The runes that are read ahead of a fault have the bytes ahead of it. -/
theorem scan_forth (k : Nat) (bs : List UInt8) (a : Nat) (hk : bs.length ≤ k) :
    (∀ n ∈ (scan bs a).1, runeI (n : Int) = true) ∧
    (match (scan bs a).2 with | none => bs = textB (scan bs a).1 | some p => a ≤ p ∧ p < a + bs.length ∧ bs.take (p - a) = textB (scan bs a).1) := by
  induction k generalizing bs a with
  | zero =>
    obtain rfl : bs = [] := List.eq_nil_of_length_eq_zero (by omega)
    rw [scan_nil]; simp [textB]
  | succ k ih =>
    cases bs with
    | nil => rw [scan_nil]; simp [textB]
    | cons c r =>
      by_cases ho : (oneL (c :: r)).1 = 0
      · rw [scan_bad ho]; simp [textB]
      · have hle := oneL_le (c :: r)
        obtain ⟨hr, ht⟩ := one_forth ho
        obtain ⟨i1, i2⟩ := ih ((c :: r).drop (oneL (c :: r)).1) (a + (oneL (c :: r)).1) (by simp at hk ⊢; omega)
        rw [scan_more ho]
        generalize hs : scan ((c :: r).drop (oneL (c :: r)).1) (a + (oneL (c :: r)).1) = q at *
        obtain ⟨l, p⟩ := q
        generalize hq : c :: r = bs at *
        generalize ho' : oneL bs = o at *
        obtain ⟨o, v⟩ := o
        dsimp only at *
        refine ⟨fun n hn => by rcases List.mem_cons.1 hn with rfl | hn; exact hr; exact i1 n hn, ?_⟩
        cases p with
        | none =>
          dsimp only at i2 ⊢
          rw [textB, ← ht, ← i2, List.take_append_drop]
        | some p =>
          dsimp only at i2 ⊢
          obtain ⟨j1, j2, j3⟩ := i2
          rw [List.length_drop] at j2
          refine ⟨by omega, by omega, ?_⟩
          rw [textB, ← ht, ← j3, show p - a = o + (p - (a + o)) from by omega, List.take_add]
theorem scan_none {bs : List UInt8} {a : Nat} (h : (scan bs a).2 = none) : textB (scan bs a).1 = bs := by
  have := (scan_forth bs.length bs a (Nat.le_refl _)).2
  rw [h] at this; exact this.symm
theorem scan_runes (bs : List UInt8) (a : Nat) : ∀ n ∈ (scan bs a).1, runeI (n : Int) = true := (scan_forth bs.length bs a (Nat.le_refl _)).1
/-- Where the fault lies goes with the start. -/
theorem scan_shift (k : Nat) (bs : List UInt8) (a d : Nat) (hk : bs.length ≤ k) : (scan bs (a + d)).1 = (scan bs a).1 ∧ (scan bs (a + d)).2 = (scan bs a).2.map (· + d) := by
  induction k generalizing bs a with
  | zero =>
    obtain rfl : bs = [] := List.eq_nil_of_length_eq_zero (by omega)
    rw [scan_nil, scan_nil]; simp
  | succ k ih =>
    cases bs with
    | nil => rw [scan_nil, scan_nil]; simp
    | cons c r =>
      by_cases ho : (oneL (c :: r)).1 = 0
      · rw [scan_bad ho, scan_bad ho]; simp
      · have := ih ((c :: r).drop (oneL (c :: r)).1) (a + (oneL (c :: r)).1) (by simp at hk ⊢; omega)
        rw [scan_more ho, scan_more ho, show a + d + (oneL (c :: r)).1 = a + (oneL (c :: r)).1 + d from by omega]
        exact ⟨by rw [this.1], this.2⟩
/-- One text behind another one. -/
theorem scan_both {bs : List UInt8} (h : (scan bs 0).2 = none) (more : List UInt8) : (scan (bs ++ more) 0).2 = (scan more 0).2.map (· + bs.length) := by
  have ht := scan_none h
  have := scan_text (scan bs 0).1 (scan_runes bs 0) more 0
  rw [ht] at this
  rw [this]
  exact (scan_shift more.length more 0 bs.length (Nat.le_refl _)).2
end Go.Proofs.Ytehjibbjkadoiaa
