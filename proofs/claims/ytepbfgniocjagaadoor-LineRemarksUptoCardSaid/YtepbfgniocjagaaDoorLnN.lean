/- What is wrong in a text, and where: plain mathematics of layer 17. -/
import Derived.Test.YtepbfgniocjagaaDoorLnP
import Derived.Test.YtepbfgniocjagaaDoorLnI
set_option linter.unusedVariables false
namespace Go.Proofs.YtepbfgniocjagaaDoor
open Go.RowKit
/-- A line with a byte that may stand in none. -/
def dirtyL (l : List UInt8) : Bool := l.any fun c => hidN c.toNat
/-- What a line has, if it has anything: its number, how far it is moved in, and what it has. -/
def lnOne (n : Nat) (l : List UInt8) : List (Nat × Nat × List UInt8) := if stripL l = [] then [] else [(n, (stripL l).length - (tlB (stripL l)).length, tlB (stripL l))]
def atLn (bs : List UInt8) (j : Nat) : List UInt8 := (lnsL bs).getD j []
/-- What the first lines have. -/
def acR (bs : List UInt8) : Nat → List (Nat × Nat × List UInt8)
  | 0 => []
  | j + 1 => acR bs j ++ lnOne (j + 1) (atLn bs j)
def lcC (r : Nat × Nat × List UInt8) : List Value := [.int .i64 (r.1 : Int), .int .i64 (r.2.1 : Int), .string ⟨r.2.2.toArray⟩]
theorem acR_len (bs : List UInt8) (j : Nat) : (acR bs j).length ≤ j := by
  induction j with
  | zero => exact Nat.le_refl _
  | succ j ih => rw [acR, List.length_append, lnOne]; split <;> simp <;> omega
theorem lnOne_none {n : Nat} {l : List UInt8} (h : stripL l = []) : lnOne n l = [] := if_pos h
theorem lnOne_some {n : Nat} {l : List UInt8} (h : stripL l ≠ []) : lnOne n l = [(n, (stripL l).length - (tlB (stripL l)).length, tlB (stripL l))] := if_neg h
/-- The first such line. -/
def dtF : List (List UInt8) → Option Nat
  | [] => none
  | l :: r => if dirtyL l = true then some 0 else (dtF r).map (· + 1)
theorem dtF_at {X : List (List UInt8)} {j : Nat} (hj : j < X.length) (hd : dirtyL (X.getD j []) = true) (hn : ∀ i, i < j → dirtyL (X.getD i []) = false) : dtF X = some j := by
  induction X generalizing j with
  | nil => simp at hj
  | cons l r ih =>
    cases j with
    | zero => rw [dtF, if_pos (by simpa using hd)]
    | succ j =>
      have h0 : dirtyL l = false := by simpa using hn 0 (by omega)
      rw [dtF, if_neg (by rw [h0]; simp), ih (by simpa using hj) (by simpa using hd) (fun i hi => by simpa using hn (i + 1) (by omega))]; rfl
theorem dtF_no {X : List (List UInt8)} (hn : ∀ i, i < X.length → dirtyL (X.getD i []) = false) : dtF X = none := by
  induction X with
  | nil => rfl
  | cons l r ih =>
    have h0 : dirtyL l = false := by simpa using hn 0 (by simp)
    rw [dtF, if_neg (by rw [h0]; simp), ih (fun i hi => by simpa using hn (i + 1) (by simpa using hi))]; rfl
/-- What the chapter asks of a text. -/
def allL (bs : List UInt8) : List (Nat × Nat × List UInt8) × Int × Int :=
  match (scan bs 0).2 with
  | some k => ([], 9, ((cntL (bs.take (k + 1)) : Nat) : Int))
  | none => match dtF (lnsL bs) with
    | some j => ([], 3, ((j + 1 : Nat) : Int))
    | none => (acR bs (lnsL bs).length, 0, 0)
theorem allL_utf {bs : List UInt8} {k : Nat} (h : (scan bs 0).2 = some k) : allL bs = ([], 9, ((cntL (bs.take (k + 1)) : Nat) : Int)) := by unfold allL; rw [h]
theorem allL_dirt {bs : List UInt8} {j : Nat} (h : (scan bs 0).2 = none) (hj : j < (lnsL bs).length) (hd : dirtyL (atLn bs j) = true) (hn : ∀ i, i < j → dirtyL (atLn bs i) = false) : allL bs = ([], 3, ((j + 1 : Nat) : Int)) := by
  unfold allL; rw [h, dtF_at hj hd hn]
theorem allL_ok {bs : List UInt8} (h : (scan bs 0).2 = none) (hn : ∀ i, i < (lnsL bs).length → dirtyL (atLn bs i) = false) : allL bs = (acR bs (lnsL bs).length, 0, 0) := by
  unfold allL; rw [h, dtF_no hn]
/-- Where a text is no text, no line ends. -/
theorem scan_spot (n : Nat) (bs : List UInt8) (a k : Nat) (hn : bs.length ≤ n) (h : (scan bs a).2 = some k) : a ≤ k ∧ k < a + bs.length ∧ (oneL (bs.drop (k - a))).1 = 0 := by
  induction n generalizing bs a with
  | zero =>
    obtain rfl : bs = [] := List.eq_nil_of_length_eq_zero (by omega)
    rw [scan_nil] at h; cases h
  | succ n ih =>
    cases bs with
    | nil => rw [scan_nil] at h; cases h
    | cons c r =>
      by_cases ho : (oneL (c :: r)).1 = 0
      · rw [scan_bad ho] at h
        injection h with h
        subst h
        exact ⟨Nat.le_refl _, by simp, by simpa using ho⟩
      · have hle := oneL_le (c :: r)
        rw [scan_more ho] at h
        simp only at h
        generalize (oneL (c :: r)).1 = d at *
        obtain ⟨h1, h2, h3⟩ := ih ((c :: r).drop d) (a + d) (by simp at hn ⊢; omega) h
        rw [List.length_drop] at h2
        refine ⟨by omega, by omega, ?_⟩
        rw [List.drop_drop, show d + (k - (a + d)) = k - a by omega] at h3
        exact h3
theorem spot_no10 {bs : List UInt8} {k : Nat} (h : (scan bs 0).2 = some k) : ∃ a c r, bs = a ++ c :: r ∧ a.length = k ∧ c.toNat ≠ 10 := by
  obtain ⟨h1, h2, h3⟩ := scan_spot bs.length bs 0 k (Nat.le_refl _) h
  rw [Nat.zero_add] at h2
  refine ⟨bs.take k, bs[k], bs.drop (k + 1), ?_, by rw [List.length_take]; omega, ?_⟩
  · rw [← List.drop_eq_getElem_cons h2, List.take_append_drop]
  · intro hc
    rw [Nat.sub_zero, List.drop_eq_getElem_cons h2] at h3
    have e : bs[k] = 10 := by rw [← b8_self bs[k], hc]; rfl
    rw [e] at h3
    simp [oneL] at h3
theorem cnt_spot {bs : List UInt8} {k : Nat} (h : (scan bs 0).2 = some k) : cntL (bs.take (k + 1)) = cntL (bs.take k ++ [120]) := by
  obtain ⟨a, c, r, rfl, rfl, hc⟩ := spot_no10 h
  have hc10 : c ≠ 10 := fun e => hc (by rw [e]; rfl)
  have e1 : (a ++ c :: r).take (a.length + 1) = a ++ [c] := by rw [List.take_append, List.take_of_length_le (by omega)]; simp
  have e2 : (a ++ c :: r).take a.length = a := by simp
  rw [e1, e2]
  unfold cntL
  rw [List.countP_append, List.countP_append, List.getLast?_append, List.getLast?_append]
  simp [hc, hc10]
theorem spot_lt {bs : List UInt8} {k : Nat} (h : (scan bs 0).2 = some k) : k < bs.length := by
  have := (scan_spot bs.length bs 0 k (Nat.le_refl _) h).2.1; omega
/-- Blanks alone, or something. -/
theorem tlB_hd (l : List UInt8) : tlB l = [] ∨ ∃ c r, tlB l = c :: r ∧ c.toNat ≠ 32 := by
  induction l with
  | nil => left; rfl
  | cons c r ih =>
    rw [tlB]
    by_cases h : c.toNat = 32
    · rw [if_pos h]; exact ih
    · rw [if_neg h]; right; exact ⟨c, r, rfl, h⟩
theorem tlB_nil {l : List UInt8} (h : tlB l = []) : ∀ c ∈ l, c.toNat = 32 := by
  induction l with
  | nil => simp
  | cons c r ih =>
    rw [tlB] at h
    split at h
    · rename_i hc
      intro d hd
      rcases List.mem_cons.1 hd with rfl | hd
      · exact hc
      · exact ih h d hd
    · cases h
theorem tl_tr {l : List UInt8} (h : tlB (trB l) = []) : trB l = [] := by
  unfold trB at h ⊢
  rcases tlB_hd l.reverse with h0 | ⟨c, r, h0, hc⟩
  · rw [h0]; rfl
  · rw [h0] at h
    exact absurd (tlB_nil h c (by simp)) hc
theorem strip_tl {l : List UInt8} (h : tlB (stripL l) = []) : stripL l = [] := tl_tr h
end Go.Proofs.YtepbfgniocjagaaDoor
