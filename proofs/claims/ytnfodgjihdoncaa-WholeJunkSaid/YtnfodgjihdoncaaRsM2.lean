/- What is found of a stream: by induction over its places. -/
import Derived.Test.YtnfodgjihdoncaaRsMath
set_option linter.unusedVariables false
namespace Go.Proofs.Ytnfodgjihdoncaa
open Go.RowKit
theorem Rs.wk_ind (fin : Bool) (bs : List UInt8) (P : Nat → List Fnd × Nat → Prop) (hend : ∀ p, bs.length ≤ p → P p ([], p))
    (hok : ∀ p r, p < bs.length → Fr.rE (bs.drop p) = 0 → P (p + (Fr.ln (bs.drop p) + 9)) r → P p (⟨p, Fr.ty (bs.drop p), Fr.pl (bs.drop p)⟩ :: r.1, r.2))
    (hsh : ∀ p, p < bs.length → Fr.rE (bs.drop p) = 4 → fin = false → P p ([], p))
    (hno : ∀ p r, p < bs.length → Fr.rE (bs.drop p) ≠ 0 → ¬ (Fr.rE (bs.drop p) = 4 ∧ fin = false) → P (p + 1) r → P p r) : ∀ p, P p (Rs.wk fin bs p) := by
  have key : ∀ k p, bs.length - p = k → P p (Rs.wk fin bs p) := by
    intro k
    induction k using Nat.strongRecOn with
    | _ k ih =>
      intro p hk
      by_cases hlt : p < bs.length
      · by_cases h0 : Fr.rE (bs.drop p) = 0
        · rw [Rs.wk_ok hlt h0]
          exact hok p _ hlt h0 (ih _ (by omega) _ rfl)
        · by_cases h4 : Fr.rE (bs.drop p) = 4 ∧ fin = false
          · obtain ⟨h4, rfl⟩ := h4
            rw [Rs.wk_short hlt h4]
            exact hsh p hlt h4 rfl
          · rw [Rs.wk_no hlt h0 h4]
            exact hno p _ hlt h0 h4 (ih _ (by omega) _ rfl)
      · rw [Rs.wk_end fin bs p (by omega)]
        exact hend p (by omega)
  exact fun p => key _ p rfl
/-- What is found stands there. -/
def Rs.ok (bs : List UInt8) (f : Fnd) : Prop := Fr.rE (bs.drop f.at_) = 0 ∧ f.ty = Fr.ty (bs.drop f.at_) ∧ f.pl = Fr.pl (bs.drop f.at_) ∧ f.at_ + f.size ≤ bs.length
theorem Rs.ok_mk {bs : List UInt8} {p : Nat} (hlt : p < bs.length) (h0 : Fr.rE (bs.drop p) = 0) : Rs.ok bs ⟨p, Fr.ty (bs.drop p), Fr.pl (bs.drop p)⟩ ∧ (Fr.pl (bs.drop p)).length = Fr.ln (bs.drop p) ∧ p + (Fr.ln (bs.drop p) + 9) ≤ bs.length := by
  have h := Fr.rE_ok h0
  rw [List.length_drop] at h
  refine ⟨⟨h0, rfl, rfl, ?_⟩, h.2.1, by omega⟩
  show p + ((Fr.pl (bs.drop p)).length + 9) ≤ bs.length
  omega
theorem Rs.wk_facts (fin : Bool) (bs : List UInt8) (p : Nat) : (∀ f ∈ (Rs.wk fin bs p).1, p ≤ f.at_ ∧ Rs.ok bs f ∧ f.at_ + f.size ≤ (Rs.wk fin bs p).2) ∧ p ≤ (Rs.wk fin bs p).2 ∧ (p ≤ bs.length → (Rs.wk fin bs p).2 ≤ bs.length) := by
  refine Rs.wk_ind fin bs (fun p r => (∀ f ∈ r.1, p ≤ f.at_ ∧ Rs.ok bs f ∧ f.at_ + f.size ≤ r.2) ∧ p ≤ r.2 ∧ (p ≤ bs.length → r.2 ≤ bs.length)) ?_ ?_ ?_ ?_ p
  · intro p h; exact ⟨by simp, Nat.le_refl _, fun h => h⟩
  · intro p r hlt h0 ⟨h1, h2, h3⟩
    obtain ⟨ho, hl, hle⟩ := Rs.ok_mk hlt h0
    refine ⟨?_, by show p ≤ r.2; omega, fun _ => h3 hle⟩
    intro f hf
    rcases List.mem_cons.1 hf with rfl | hf
    · refine ⟨Nat.le_refl _, ho, ?_⟩
      show p + ((Fr.pl (bs.drop p)).length + 9) ≤ r.2
      omega
    · have := h1 f hf
      exact ⟨by omega, this.2⟩
  · intro p hlt _ _; exact ⟨by simp, Nat.le_refl _, fun h => h⟩
  · intro p r hlt _ _ ⟨h1, h2, h3⟩
    refine ⟨fun f hf => ?_, by omega, fun _ => h3 hlt⟩
    have := h1 f hf
    exact ⟨by omega, this.2⟩
end Go.Proofs.Ytnfodgjihdoncaa
