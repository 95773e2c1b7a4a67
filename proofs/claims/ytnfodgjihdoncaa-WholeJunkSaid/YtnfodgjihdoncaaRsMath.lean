/- What is found of a stream, as lists. -/
import Derived.Test.YtnfodgjihdoncaaFrMath
set_option linter.unusedVariables false
namespace Go.Proofs.Ytnfodgjihdoncaa
open Go.RowKit
/-- A frame that was found: where, of which type, with which payload. -/
structure Fnd where
  at_ : Nat
  ty : UInt8
  pl : List UInt8
def Fnd.size (f : Fnd) : Nat := f.pl.length + 9
def Rs.wkF (fin : Bool) : Nat → Nat → List UInt8 → List Fnd × Nat
  | _, p, [] => ([], p)
  | 0, p, _ :: _ => ([], p)
  | f + 1, p, x :: r =>
    if Fr.rE (x :: r) = 0 then (⟨p, Fr.ty (x :: r), Fr.pl (x :: r)⟩ :: (Rs.wkF fin f (p + (Fr.ln (x :: r) + 9)) ((x :: r).drop (Fr.ln (x :: r) + 9))).1, (Rs.wkF fin f (p + (Fr.ln (x :: r) + 9)) ((x :: r).drop (Fr.ln (x :: r) + 9))).2)
    else if Fr.rE (x :: r) = 4 ∧ fin = false then ([], p)
    else Rs.wkF fin f (p + 1) r
theorem Rs.wkF_nil (fin : Bool) (f p : Nat) : Rs.wkF fin f p [] = ([], p) := by cases f <;> rfl
theorem Rs.wkF_fuel (fin : Bool) (f : Nat) : ∀ (g p : Nat) (b : List UInt8), b.length ≤ f → b.length ≤ g → Rs.wkF fin f p b = Rs.wkF fin g p b := by
  induction f with
  | zero => intro g p b hf hg; cases b with | nil => rw [Rs.wkF_nil, Rs.wkF_nil] | cons x r => simp at hf
  | succ f ih =>
    intro g p b hf hg
    cases b with
    | nil => rw [Rs.wkF_nil, Rs.wkF_nil]
    | cons x r =>
      cases g with
      | zero => simp at hg
      | succ g =>
        simp only [List.length_cons] at hf hg
        have h1 := ih g (p + (Fr.ln (x :: r) + 9)) ((x :: r).drop (Fr.ln (x :: r) + 9)) (by rw [List.length_drop, List.length_cons]; omega) (by rw [List.length_drop, List.length_cons]; omega)
        have h2 := ih g (p + 1) r (by omega) (by omega)
        simp only [Rs.wkF, h1, h2]
/-- What is found from a place on, and from where on it isn't known. -/
def Rs.wk (fin : Bool) (bs : List UInt8) (p : Nat) : List Fnd × Nat := Rs.wkF fin (bs.length - p) p (bs.drop p)
theorem Rs.wk_end (fin : Bool) (bs : List UInt8) (p : Nat) (h : bs.length ≤ p) : Rs.wk fin bs p = ([], p) := by
  unfold Rs.wk
  rw [List.drop_eq_nil_of_le h, Rs.wkF_nil]
theorem Rs.wk_ok {fin : Bool} {bs : List UInt8} {p : Nat} (h : p < bs.length) (h0 : Fr.rE (bs.drop p) = 0) :
    Rs.wk fin bs p = (⟨p, Fr.ty (bs.drop p), Fr.pl (bs.drop p)⟩ :: (Rs.wk fin bs (p + (Fr.ln (bs.drop p) + 9))).1, (Rs.wk fin bs (p + (Fr.ln (bs.drop p) + 9))).2) := by
  obtain ⟨k, hk⟩ : ∃ k, bs.length - p = k + 1 := ⟨bs.length - p - 1, by omega⟩
  have hc := List.drop_eq_getElem_cons h
  have e : Rs.wk fin bs (p + (Fr.ln (bs.drop p) + 9)) = Rs.wkF fin k (p + (Fr.ln (bs.drop p) + 9)) ((bs.drop p).drop (Fr.ln (bs.drop p) + 9)) := by
    unfold Rs.wk
    rw [List.drop_drop]
    exact Rs.wkF_fuel fin _ _ _ _ (by rw [List.length_drop]; omega) (by rw [List.length_drop]; omega)
  rw [e]
  unfold Rs.wk
  rw [hk]
  rw [hc] at h0 ⊢
  simp only [Rs.wkF]
  rw [if_pos h0]
theorem Rs.wk_short {bs : List UInt8} {p : Nat} (h : p < bs.length) (h0 : Fr.rE (bs.drop p) = 4) : Rs.wk false bs p = ([], p) := by
  obtain ⟨k, hk⟩ : ∃ k, bs.length - p = k + 1 := ⟨bs.length - p - 1, by omega⟩
  have hc := List.drop_eq_getElem_cons h
  unfold Rs.wk
  rw [hk]
  rw [hc] at h0 ⊢
  simp only [Rs.wkF]
  rw [if_neg (by omega), if_pos ⟨h0, trivial⟩]
theorem Rs.wk_no {fin : Bool} {bs : List UInt8} {p : Nat} (h : p < bs.length) (h0 : Fr.rE (bs.drop p) ≠ 0) (h4 : ¬ (Fr.rE (bs.drop p) = 4 ∧ fin = false)) : Rs.wk fin bs p = Rs.wk fin bs (p + 1) := by
  obtain ⟨k, hk⟩ : ∃ k, bs.length - p = k + 1 := ⟨bs.length - p - 1, by omega⟩
  have hc := List.drop_eq_getElem_cons h
  unfold Rs.wk
  rw [hk, show bs.length - (p + 1) = k from by omega]
  rw [hc] at h0 h4 ⊢
  simp only [Rs.wkF]
  rw [if_neg h0, if_neg h4]
theorem Rs.wkF_len (fin : Bool) (f : Nat) : ∀ (p : Nat) (b : List UInt8), (Rs.wkF fin f p b).1.length ≤ b.length := by
  induction f with
  | zero => intro p b; cases b with | nil => rw [Rs.wkF_nil]; simp | cons x r => simp [Rs.wkF]
  | succ f ih =>
    intro p b
    cases b with
    | nil => rw [Rs.wkF_nil]; simp
    | cons x r =>
      simp only [Rs.wkF]
      by_cases h0 : Fr.rE (x :: r) = 0
      · rw [if_pos h0]
        have h1 := ih (p + (Fr.ln (x :: r) + 9)) ((x :: r).drop (Fr.ln (x :: r) + 9))
        have h2 := (Fr.rE_ok h0).2.2.2
        rw [List.length_drop] at h1
        simp only [List.length_cons] at h1 h2 ⊢
        omega
      · rw [if_neg h0]
        split
        · simp
        · have := ih (p + 1) r
          simp only [List.length_cons]; omega
theorem Rs.wk_len (fin : Bool) (bs : List UInt8) (p : Nat) : (Rs.wk fin bs p).1.length ≤ bs.length - p := by
  have := Rs.wkF_len fin (bs.length - p) p (bs.drop p)
  rw [List.length_drop] at this
  exact this
end Go.Proofs.Ytnfodgjihdoncaa
