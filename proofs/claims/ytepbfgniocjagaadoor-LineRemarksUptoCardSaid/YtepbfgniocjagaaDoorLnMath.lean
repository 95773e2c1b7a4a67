/- Plain mathematics of layer 17 (line). -/
import Derived.Test.YtepbfgniocjagaaDoorM1
set_option linter.unusedVariables false
namespace Go.Proofs.YtepbfgniocjagaaDoor
open Go.RowKit
/-- Without the blanks ahead. -/
def tlB : List UInt8 → List UInt8
  | [] => []
  | c :: r => if c.toNat = 32 then tlB r else c :: r
/-- Without the blanks behind. -/
def trB (l : List UInt8) : List UInt8 := (tlB l.reverse).reverse
theorem trB_nil : trB [] = [] := rfl
theorem trB_snoc (a : List UInt8) (c : UInt8) : trB (a ++ [c]) = if c.toNat = 32 then trB a else a ++ [c] := by
  unfold trB
  rw [List.reverse_append, List.reverse_singleton, List.singleton_append, tlB]
  split
  · rfl
  · simp
theorem tlB_le (l : List UInt8) : (tlB l).length ≤ l.length := by
  induction l with
  | nil => simp [tlB]
  | cons c r ih => rw [tlB]; split <;> simp <;> omega
theorem trB_le (l : List UInt8) : (trB l).length ≤ l.length := by
  unfold trB; have := tlB_le l.reverse; simp at this ⊢; exact this
/-- Where the first remark begins. -/
def stE (i ah : Nat) (q t : Bool) : List UInt8 → Option Nat
  | [] => none
  | c :: r => if t = true then stE (i + 1) c.toNat q false r else if c.toNat = 34 then stE (i + 1) c.toNat (!q) false r else
    if q = true then stE (i + 1) c.toNat q (decide (c.toNat = 92)) r else if c.toNat = 35 ∧ ah = 32 then some i else stE (i + 1) c.toNat q false r
theorem stE_lt {i ah : Nat} {q t : Bool} {l : List UInt8} {k : Nat} (h : stE i ah q t l = some k) : i ≤ k ∧ k < i + l.length := by
  induction l generalizing i ah q t with
  | nil => simp [stE] at h
  | cons c r ih =>
    rw [stE] at h
    simp only [List.length_cons]
    split at h
    · have := ih h; omega
    · split at h
      · have := ih h; omega
      · split at h
        · have := ih h; omega
        · split at h
          · injection h with h; omega
          · have := ih h; omega
def stN (bs : List UInt8) : Nat := (stE 0 32 false false bs).getD bs.length
def stripL (bs : List UInt8) : List UInt8 := trB (bs.take (stN bs))
theorem stN_le (bs : List UInt8) : stN bs ≤ bs.length := by
  unfold stN
  cases h : stE 0 32 false false bs with
  | none => simp
  | some k => have := stE_lt h; simp; omega
theorem stripL_le (bs : List UInt8) : (stripL bs).length ≤ bs.length := by
  unfold stripL; have := trB_le (bs.take (stN bs)); simp at this; omega
/-- The byte ahead of a place. -/
def ahd (bs : List UInt8) (k : Nat) : Nat := if k = 0 then 32 else (bs.getD (k - 1) 0).toNat
theorem ahd_next {bs : List UInt8} {k : Nat} {c : UInt8} {r : List UInt8} (hd : bs.drop k = c :: r) : ahd bs (k + 1) = c.toNat := by
  have hk : k < bs.length := by have := congrArg List.length hd; simp at this; omega
  have hc : bs[k] = c := by
    have := List.drop_eq_getElem_cons hk
    rw [hd] at this; injection this with h _; exact h.symm
  rw [ahd, if_neg (by omega), Nat.add_sub_cancel, List.getD_eq_getElem?_getD, List.getElem?_eq_getElem hk, hc]; rfl
/-- Lines: what is ahead of a line feed, and what is behind it. -/
def lnA : List UInt8 → List UInt8
  | [] => []
  | c :: r => if c.toNat = 10 then [] else c :: lnA r
def lnB : List UInt8 → List UInt8
  | [] => []
  | c :: r => if c.toNat = 10 then r else lnB r
theorem lnB_lt (c : UInt8) (r : List UInt8) : (lnB (c :: r)).length ≤ r.length := by
  have h : ∀ l : List UInt8, (lnB l).length ≤ l.length := by
    intro l; induction l with
    | nil => simp [lnB]
    | cons d q ih => rw [lnB]; split <;> simp <;> omega
  rw [lnB]; split
  · exact Nat.le_refl _
  · exact h r
theorem lnB_le (l : List UInt8) : (lnB l).length ≤ l.length := by
  cases l with
  | nil => simp [lnB]
  | cons c r => have := lnB_lt c r; simp; omega
theorem lnA_le (l : List UInt8) : (lnA l).length ≤ l.length := by
  induction l with
  | nil => simp [lnA]
  | cons d q ih => rw [lnA]; split <;> simp <;> omega
/-- A text's lines. -/
def lnsL (bs : List UInt8) : List (List UInt8) :=
  match bs with
  | [] => []
  | c :: r => lnA (c :: r) :: lnsL (lnB (c :: r))
termination_by bs.length
decreasing_by have := lnB_lt c r; simp; omega
theorem spl_nil : lnsL [] = [] := by rw [lnsL]
theorem spl_cons (c : UInt8) (r : List UInt8) : lnsL (c :: r) = lnA (c :: r) :: lnsL (lnB (c :: r)) := by rw [lnsL]
/-- How many lines there are. -/
def cntL (bs : List UInt8) : Nat := bs.countP (fun c => c.toNat == 10) + if bs ≠ [] ∧ bs.getLast? ≠ some 10 then 1 else 0
/-- Lines, as they are put together byte by byte. -/
def spG (now : List UInt8) : List UInt8 → List (List UInt8)
  | [] => if now = [] then [] else [now]
  | c :: r => if c.toNat = 10 then now :: spG [] r else spG (now ++ [c]) r
theorem spG_ab (now bs : List UInt8) (h : now ≠ [] ∨ bs ≠ []) : spG now bs = (now ++ lnA bs) :: spG [] (lnB bs) := by
  induction bs generalizing now with
  | nil =>
    have : now ≠ [] := by rcases h with h | h; exact h; exact absurd rfl h
    simp [spG, this, lnA, lnB]
  | cons c r ih =>
    rw [spG, lnA, lnB]
    split
    · simp
    · rw [ih _ (.inl (by simp))]; simp
theorem spG_spl (n : Nat) (bs : List UInt8) (hn : bs.length ≤ n) : spG [] bs = lnsL bs := by
  induction n generalizing bs with
  | zero =>
    have : bs = [] := List.eq_nil_of_length_eq_zero (by omega)
    subst this; rw [spl_nil]; rfl
  | succ n ih =>
    cases bs with
    | nil => rw [spl_nil]; rfl
    | cons c r =>
      rw [spG_ab [] (c :: r) (.inr (by simp)), spl_cons, List.nil_append]
      have := lnB_lt c r
      rw [ih _ (by simp at hn; omega)]
theorem getLast_cons {c : UInt8} {r : List UInt8} (h : r ≠ []) : (c :: r).getLast? = r.getLast? := by
  cases r with
  | nil => exact absurd rfl h
  | cons d q => simp
theorem cntL_ab (bs : List UInt8) (h : bs ≠ []) : cntL bs = 1 + cntL (lnB bs) := by
  induction bs with
  | nil => exact absurd rfl h
  | cons c r ih =>
    rw [lnB]
    by_cases hc : c.toNat = 10
    · rw [if_pos hc]
      unfold cntL
      rw [List.countP_cons_of_pos (by simp [hc])]
      by_cases hr : r = []
      · subst hr
        have : c = 10 := by rw [← b8_self c, hc]; rfl
        subst this; rfl
      · rw [getLast_cons hr]; simp [hr]; omega
    · rw [if_neg hc]
      by_cases hr : r = []
      · subst hr
        have : c ≠ 10 := fun e => hc (by rw [e]; rfl)
        simp [cntL, lnB, hc, this]
      · rw [← ih hr]
        unfold cntL
        rw [List.countP_cons_of_neg (by simp [hc]), getLast_cons hr]; simp [hr]
theorem cntL_spl (n : Nat) (bs : List UInt8) (hn : bs.length ≤ n) : (lnsL bs).length = cntL bs := by
  induction n generalizing bs with
  | zero =>
    have : bs = [] := List.eq_nil_of_length_eq_zero (by omega)
    subst this; rw [spl_nil]; rfl
  | succ n ih =>
    cases bs with
    | nil => rw [spl_nil]; rfl
    | cons c r =>
      have := lnB_lt c r
      rw [spl_cons, List.length_cons, ih _ (by simp at hn; omega), cntL_ab (c :: r) (by simp)]; omega
/-- What is left behind so many lines. -/
def lft (bs : List UInt8) : Nat → List UInt8
  | 0 => bs
  | j + 1 => lnB (lft bs j)
theorem lft_spl (bs : List UInt8) (j : Nat) : lnsL (lft bs j) = (lnsL bs).drop j := by
  induction j with
  | zero => simp [lft]
  | succ j ih =>
    rw [lft, ← List.drop_drop (i := 1) (j := j), ← ih]
    cases h : lft bs j with
    | nil => simp [lnB, spl_nil]
    | cons c r => rw [spl_cons]; rfl
theorem lft_le (bs : List UInt8) (j : Nat) : (lft bs j).length ≤ bs.length := by
  induction j with
  | zero => exact Nat.le_refl _
  | succ j ih => rw [lft]; have := lnB_le (lft bs j); omega
theorem lft_at (bs : List UInt8) (j : Nat) (hj : j < (lnsL bs).length) : lnA (lft bs j) = (lnsL bs)[j] := by
  have h := lft_spl bs j
  rw [List.drop_eq_getElem_cons hj] at h
  cases hl : lft bs j with
  | nil => rw [hl, spl_nil] at h; cases h
  | cons c r => rw [hl, spl_cons] at h; injection h
end Go.Proofs.YtepbfgniocjagaaDoor
