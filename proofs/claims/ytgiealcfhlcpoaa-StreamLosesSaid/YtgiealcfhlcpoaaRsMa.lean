/- What is found of a stream, as lists. · What is found of a stream: by induction over its places. · What is found of a stream that goes on. -/
import Derived.Test.YtgiealcfhlcpoaaFrMath
set_option linter.unusedVariables false
namespace Go.Proofs.Ytgiealcfhlcpoaa
open Go.RowKit
/-- A frame that was found: where, of which type, with which payload. -/
structure Fnd where
  at_ : Nat
  ty : UInt8
  pl : List UInt8
def Fnd.size (f : Fnd) : Nat := f.pl.length + 9
def Rs.wkF (fin : Bool) : Nat → Nat → List UInt8 → List Fnd × Nat
  | _, p, [] => ([], p)
  | 0, p, _ :: _ => ([], p)
  | f + 1, p, x :: r =>
    if Fr.rE (x :: r) = 0 then (⟨p, Fr.ty (x :: r), Fr.pl (x :: r)⟩ :: (Rs.wkF fin f (p + (Fr.ln (x :: r) + 9)) ((x :: r).drop (Fr.ln (x :: r) + 9))).1, (Rs.wkF fin f (p + (Fr.ln (x :: r) + 9)) ((x :: r).drop (Fr.ln (x :: r) + 9))).2)
    else if Fr.rE (x :: r) = 4 ∧ fin = false then ([], p)
    else Rs.wkF fin f (p + 1) r
theorem Rs.wkF_nil (fin : Bool) (f p : Nat) : Rs.wkF fin f p [] = ([], p) := by cases f <;> rfl
theorem Rs.wkF_fuel (fin : Bool) (f : Nat) : ∀ (g p : Nat) (b : List UInt8), b.length ≤ f → b.length ≤ g → Rs.wkF fin f p b = Rs.wkF fin g p b := by
  induction f with
  | zero => intro g p b hf hg; cases b with | nil => rw [Rs.wkF_nil, Rs.wkF_nil] | cons x r => simp at hf
  | succ f ih =>
    intro g p b hf hg
    cases b with
    | nil => rw [Rs.wkF_nil, Rs.wkF_nil]
    | cons x r =>
      cases g with
      | zero => simp at hg
      | succ g =>
        simp only [List.length_cons] at hf hg
        have h1 := ih g (p + (Fr.ln (x :: r) + 9)) ((x :: r).drop (Fr.ln (x :: r) + 9)) (by rw [List.length_drop, List.length_cons]; omega) (by rw [List.length_drop, List.length_cons]; omega)
        have h2 := ih g (p + 1) r (by omega) (by omega)
        simp only [Rs.wkF, h1, h2]
/-- What is found from a place on, and from where on it isn't known. -/
def Rs.wk (fin : Bool) (bs : List UInt8) (p : Nat) : List Fnd × Nat := Rs.wkF fin (bs.length - p) p (bs.drop p)
theorem Rs.wk_end (fin : Bool) (bs : List UInt8) (p : Nat) (h : bs.length ≤ p) : Rs.wk fin bs p = ([], p) := by
  unfold Rs.wk
  rw [List.drop_eq_nil_of_le h, Rs.wkF_nil]
theorem Rs.wk_ok {fin : Bool} {bs : List UInt8} {p : Nat} (h : p < bs.length) (h0 : Fr.rE (bs.drop p) = 0) :
    Rs.wk fin bs p = (⟨p, Fr.ty (bs.drop p), Fr.pl (bs.drop p)⟩ :: (Rs.wk fin bs (p + (Fr.ln (bs.drop p) + 9))).1, (Rs.wk fin bs (p + (Fr.ln (bs.drop p) + 9))).2) := by
  obtain ⟨k, hk⟩ : ∃ k, bs.length - p = k + 1 := ⟨bs.length - p - 1, by omega⟩
  have hc := List.drop_eq_getElem_cons h
  have e : Rs.wk fin bs (p + (Fr.ln (bs.drop p) + 9)) = Rs.wkF fin k (p + (Fr.ln (bs.drop p) + 9)) ((bs.drop p).drop (Fr.ln (bs.drop p) + 9)) := by
    unfold Rs.wk
    rw [List.drop_drop]
    exact Rs.wkF_fuel fin _ _ _ _ (by rw [List.length_drop]; omega) (by rw [List.length_drop]; omega)
  rw [e]
  unfold Rs.wk
  rw [hk]
  rw [hc] at h0 ⊢
  simp only [Rs.wkF]
  rw [if_pos h0]
theorem Rs.wk_short {bs : List UInt8} {p : Nat} (h : p < bs.length) (h0 : Fr.rE (bs.drop p) = 4) : Rs.wk false bs p = ([], p) := by
  obtain ⟨k, hk⟩ : ∃ k, bs.length - p = k + 1 := ⟨bs.length - p - 1, by omega⟩
  have hc := List.drop_eq_getElem_cons h
  unfold Rs.wk
  rw [hk]
  rw [hc] at h0 ⊢
  simp only [Rs.wkF]
  rw [if_neg (by omega), if_pos ⟨h0, trivial⟩]
theorem Rs.wk_no {fin : Bool} {bs : List UInt8} {p : Nat} (h : p < bs.length) (h0 : Fr.rE (bs.drop p) ≠ 0) (h4 : ¬ (Fr.rE (bs.drop p) = 4 ∧ fin = false)) : Rs.wk fin bs p = Rs.wk fin bs (p + 1) := by
  obtain ⟨k, hk⟩ : ∃ k, bs.length - p = k + 1 := ⟨bs.length - p - 1, by omega⟩
  have hc := List.drop_eq_getElem_cons h
  unfold Rs.wk
  rw [hk, show bs.length - (p + 1) = k from by omega]
  rw [hc] at h0 h4 ⊢
  simp only [Rs.wkF]
  rw [if_neg h0, if_neg h4]
theorem Rs.wkF_len (fin : Bool) (f : Nat) : ∀ (p : Nat) (b : List UInt8), (Rs.wkF fin f p b).1.length ≤ b.length := by
  induction f with
  | zero => intro p b; cases b with | nil => rw [Rs.wkF_nil]; simp | cons x r => simp [Rs.wkF]
  | succ f ih =>
    intro p b
    cases b with
    | nil => rw [Rs.wkF_nil]; simp
    | cons x r =>
      simp only [Rs.wkF]
      by_cases h0 : Fr.rE (x :: r) = 0
      · rw [if_pos h0]
        have h1 := ih (p + (Fr.ln (x :: r) + 9)) ((x :: r).drop (Fr.ln (x :: r) + 9))
        have h2 := (Fr.rE_ok h0).2.2.2
        rw [List.length_drop] at h1
        simp only [List.length_cons] at h1 h2 ⊢
        omega
      · rw [if_neg h0]
        split
        · simp
        · have := ih (p + 1) r
          simp only [List.length_cons]; omega
theorem Rs.wk_len (fin : Bool) (bs : List UInt8) (p : Nat) : (Rs.wk fin bs p).1.length ≤ bs.length - p := by
  have := Rs.wkF_len fin (bs.length - p) p (bs.drop p)
  rw [List.length_drop] at this
  exact this
end Go.Proofs.Ytgiealcfhlcpoaa
set_option linter.unusedVariables false
namespace Go.Proofs.Ytgiealcfhlcpoaa
open Go.RowKit
theorem Rs.wk_ind (fin : Bool) (bs : List UInt8) (P : Nat → List Fnd × Nat → Prop) (hend : ∀ p, bs.length ≤ p → P p ([], p))
    (hok : ∀ p r, p < bs.length → Fr.rE (bs.drop p) = 0 → P (p + (Fr.ln (bs.drop p) + 9)) r → P p (⟨p, Fr.ty (bs.drop p), Fr.pl (bs.drop p)⟩ :: r.1, r.2))
    (hsh : ∀ p, p < bs.length → Fr.rE (bs.drop p) = 4 → fin = false → P p ([], p))
    (hno : ∀ p r, p < bs.length → Fr.rE (bs.drop p) ≠ 0 → ¬ (Fr.rE (bs.drop p) = 4 ∧ fin = false) → P (p + 1) r → P p r) : ∀ p, P p (Rs.wk fin bs p) := by
  have key : ∀ k p, bs.length - p = k → P p (Rs.wk fin bs p) := by
    intro k
    induction k using Nat.strongRecOn with
    | _ k ih =>
      intro p hk
      by_cases hlt : p < bs.length
      · by_cases h0 : Fr.rE (bs.drop p) = 0
        · rw [Rs.wk_ok hlt h0]
          exact hok p _ hlt h0 (ih _ (by omega) _ rfl)
        · by_cases h4 : Fr.rE (bs.drop p) = 4 ∧ fin = false
          · obtain ⟨h4, rfl⟩ := h4
            rw [Rs.wk_short hlt h4]
            exact hsh p hlt h4 rfl
          · rw [Rs.wk_no hlt h0 h4]
            exact hno p _ hlt h0 h4 (ih _ (by omega) _ rfl)
      · rw [Rs.wk_end fin bs p (by omega)]
        exact hend p (by omega)
  exact fun p => key _ p rfl
/-- What is found stands there. -/
def Rs.ok (bs : List UInt8) (f : Fnd) : Prop := Fr.rE (bs.drop f.at_) = 0 ∧ f.ty = Fr.ty (bs.drop f.at_) ∧ f.pl = Fr.pl (bs.drop f.at_) ∧ f.at_ + f.size ≤ bs.length
theorem Rs.ok_mk {bs : List UInt8} {p : Nat} (hlt : p < bs.length) (h0 : Fr.rE (bs.drop p) = 0) : Rs.ok bs ⟨p, Fr.ty (bs.drop p), Fr.pl (bs.drop p)⟩ ∧ (Fr.pl (bs.drop p)).length = Fr.ln (bs.drop p) ∧ p + (Fr.ln (bs.drop p) + 9) ≤ bs.length := by
  have h := Fr.rE_ok h0
  rw [List.length_drop] at h
  refine ⟨⟨h0, rfl, rfl, ?_⟩, h.2.1, by omega⟩
  show p + ((Fr.pl (bs.drop p)).length + 9) ≤ bs.length
  omega
theorem Rs.wk_facts (fin : Bool) (bs : List UInt8) (p : Nat) : (∀ f ∈ (Rs.wk fin bs p).1, p ≤ f.at_ ∧ Rs.ok bs f ∧ f.at_ + f.size ≤ (Rs.wk fin bs p).2) ∧ p ≤ (Rs.wk fin bs p).2 ∧ (p ≤ bs.length → (Rs.wk fin bs p).2 ≤ bs.length) := by
  refine Rs.wk_ind fin bs (fun p r => (∀ f ∈ r.1, p ≤ f.at_ ∧ Rs.ok bs f ∧ f.at_ + f.size ≤ r.2) ∧ p ≤ r.2 ∧ (p ≤ bs.length → r.2 ≤ bs.length)) ?_ ?_ ?_ ?_ p
  · intro p h; exact ⟨by simp, Nat.le_refl _, fun h => h⟩
  · intro p r hlt h0 ⟨h1, h2, h3⟩
    obtain ⟨ho, hl, hle⟩ := Rs.ok_mk hlt h0
    refine ⟨?_, by show p ≤ r.2; omega, fun _ => h3 hle⟩
    intro f hf
    rcases List.mem_cons.1 hf with rfl | hf
    · refine ⟨Nat.le_refl _, ho, ?_⟩
      show p + ((Fr.pl (bs.drop p)).length + 9) ≤ r.2
      omega
    · have := h1 f hf
      exact ⟨by omega, this.2⟩
  · intro p hlt _ _; exact ⟨by simp, Nat.le_refl _, fun h => h⟩
  · intro p r hlt _ _ ⟨h1, h2, h3⟩
    refine ⟨fun f hf => ?_, by omega, fun _ => h3 hlt⟩
    have := h1 f hf
    exact ⟨by omega, this.2⟩
end Go.Proofs.Ytgiealcfhlcpoaa
set_option linter.unusedVariables false
namespace Go.Proofs.Ytgiealcfhlcpoaa
open Go.RowKit
theorem Rs.grow (bs more : List UInt8) (q : Nat) (hq : q ≤ bs.length) : Rs.wk false (bs ++ more) q = ((Rs.wk false bs q).1 ++ (Rs.wk false (bs ++ more) (Rs.wk false bs q).2).1, (Rs.wk false (bs ++ more) (Rs.wk false bs q).2).2) := by
  refine Rs.wk_ind false bs (fun q r => q ≤ bs.length → Rs.wk false (bs ++ more) q = (r.1 ++ (Rs.wk false (bs ++ more) r.2).1, (Rs.wk false (bs ++ more) r.2).2)) ?_ ?_ ?_ ?_ q hq
  · intro q _ _; simp
  · intro q r hlt h0 ih _
    have hd : (bs ++ more).drop q = bs.drop q ++ more := List.drop_append_of_le_length (by omega)
    have ha := Fr.rE_app (bs := bs.drop q) more (by omega)
    have hx := ha.2 h0
    have hle := (Rs.ok_mk hlt h0).2.2
    rw [Rs.wk_ok (by rw [List.length_append]; omega) (by rw [hd, ha.1]; exact h0), hd, hx.1, hx.2.1, hx.2.2, ih hle]
    simp
  · intro q _ _ _ _; simp
  · intro q r hlt h0 h4 ih _
    have hd : (bs ++ more).drop q = bs.drop q ++ more := List.drop_append_of_le_length (by omega)
    have h44 : Fr.rE (bs.drop q) ≠ 4 := fun h => h4 ⟨h, rfl⟩
    have ha := Fr.rE_app (bs := bs.drop q) more h44
    rw [Rs.wk_no (by rw [List.length_append]; omega) (by rw [hd, ha.1]; exact h0) (by rw [hd, ha.1]; exact h4)]
    exact ih (by omega)
def Fnd.shift (k : Nat) (f : Fnd) : Fnd := ⟨k + f.at_, f.ty, f.pl⟩
theorem Rs.shift (fin : Bool) (xa bs : List UInt8) (q : Nat) : Rs.wk fin (xa ++ bs) (xa.length + q) = ((Rs.wk fin bs q).1.map (Fnd.shift xa.length), xa.length + (Rs.wk fin bs q).2) := by
  refine Rs.wk_ind fin bs (fun q r => Rs.wk fin (xa ++ bs) (xa.length + q) = (r.1.map (Fnd.shift xa.length), xa.length + r.2)) ?_ ?_ ?_ ?_ q
  · intro q h
    rw [Rs.wk_end _ _ _ (by rw [List.length_append]; omega)]; rfl
  · intro q r hlt h0 ih
    have hd : (xa ++ bs).drop (xa.length + q) = bs.drop q := by rw [List.drop_append]; simp
    rw [Rs.wk_ok (by rw [List.length_append]; omega) (by rw [hd]; exact h0), hd, show xa.length + q + (Fr.ln (bs.drop q) + 9) = xa.length + (q + (Fr.ln (bs.drop q) + 9)) from by omega, ih]
    rfl
  · rintro q hlt h4 rfl
    have hd : (xa ++ bs).drop (xa.length + q) = bs.drop q := by rw [List.drop_append]; simp
    rw [Rs.wk_short (by rw [List.length_append]; omega) (by rw [hd]; exact h4)]
    rfl
  · intro q r hlt h0 h4 ih
    have hd : (xa ++ bs).drop (xa.length + q) = bs.drop q := by rw [List.drop_append]; simp
    rw [Rs.wk_no (by rw [List.length_append]; omega) (by rw [hd]; exact h0) (by rw [hd]; exact h4), show xa.length + q + 1 = xa.length + (q + 1) from by omega, ih]
theorem Rs.split (xa bs : List UInt8) (h : (Rs.wk false xa 0).2 = xa.length) : Rs.wk false (xa ++ bs) 0 = ((Rs.wk false xa 0).1 ++ (Rs.wk false bs 0).1.map (Fnd.shift xa.length), xa.length + (Rs.wk false bs 0).2) := by
  rw [Rs.grow xa bs 0 (Nat.zero_le _), h]
  have hs := Rs.shift false xa bs 0
  rw [Nat.add_zero] at hs
  rw [hs]
end Go.Proofs.Ytgiealcfhlcpoaa
