/- Plain mathematics of layers 1 and 2: no program is named here. -/
import Derived.WalkKit
set_option linter.unusedVariables false
namespace Go.Proofs.Ytolafcmaikjioaa.M

/-- Get of bytes, i of which were read before, acc their number: number, size, error. -/
def getF (i acc : Nat) : List UInt8 → Nat × Nat × Nat
  | [] => (0, 0, 4)
  | x :: r =>
    if i = 9 then
      if 128 ≤ x.toNat then (0, 0, 2) else if 1 < x.toNat then (0, 0, 1) else (acc + x.toNat * 128 ^ 9, 10, 0)
    else if x.toNat < 128 then (acc + x.toNat * 128 ^ i, i + 1, 0) else getF (i + 1) (acc + (x.toNat - 128) * 128 ^ i) r
def get (b : List UInt8) : Nat × Nat × Nat := getF 0 0 b

theorem pow7 (k : Nat) : (128 : Nat) ^ k = 2 ^ (7 * k) := by rw [Nat.pow_mul]
theorem pow_le9 {k : Nat} (h : k ≤ 9) : (128 : Nat) ^ k ≤ 128 ^ 9 := Nat.pow_le_pow_right (by omega) h
theorem get_num {k acc y : Nat} (hk : k ≤ 9) (ha : acc < 128 ^ k) (hy : y < 128) (h9 : k = 9 → y ≤ 1) :
    acc + y * 128 ^ k ≤ 18446744073709551615 := by
  by_cases h : k = 9
  · subst h
    have := h9 rfl
    have h1 : y * 128 ^ 9 ≤ 1 * 128 ^ 9 := Nat.mul_le_mul_right _ this
    omega
  · have h8 : (128 : Nat) ^ k ≤ 128 ^ 8 := Nat.pow_le_pow_right (by omega) (by omega)
    have h1 : y * 128 ^ k ≤ 127 * 128 ^ 8 := Nat.mul_le_mul (by omega) h8
    omega
theorem get_wrap {k acc y : Nat} (hk : k ≤ 9) (ha : acc < 128 ^ k) (hy : y < 128) (h9 : k = 9 → y ≤ 1) :
    IntKind.u64.wrap ((acc : Int) + IntKind.u64.wrap ((y : Int) * 2 ^ (7 * k))) = ((acc + y * 128 ^ k : Nat) : Int) := by
  have h := get_num hk ha hy h9
  have e : (y : Int) * 2 ^ (7 * k) = ((y * 128 ^ k : Nat) : Int) := by rw [pow7]; simp
  rw [e]
  generalize y * 128 ^ k = z at *
  rw [IntWalk.u64_in (z : Int) (by omega), IntWalk.u64_in _ (by omega)]
  omega
theorem get_wrap9 {acc y : Nat} (ha : acc < 128 ^ 9) (hy : y ≤ 1) :
    IntKind.u64.wrap ((acc : Int) + (y : Int) * 9223372036854775808) = ((acc + y * 128 ^ 9 : Nat) : Int) := by
  rw [IntWalk.u64_in _ (by omega)]
  omega
theorem rget_wrap9 {acc y : Nat} (ha : acc < 128 ^ 9) (hy : y ≤ 1) :
    IntKind.u64.wrap ((acc : Int) + (y : Int) % 128 * 9223372036854775808) = ((acc + y * 128 ^ 9 : Nat) : Int) := by
  rw [show (y : Int) % 128 = y from by omega]
  exact get_wrap9 ha hy
theorem rget_wrap {k acc y : Nat} (hk : k < 9) (ha : acc < 128 ^ k) (hy : y < 256) :
    IntKind.u64.wrap ((acc : Int) + IntKind.u64.wrap ((y : Int) % 128 * ((128 ^ k : Nat) : Int))) = ((acc + y % 128 * 128 ^ k : Nat) : Int) := by
  have h := get_wrap (y := y % 128) (Nat.le_of_lt hk) ha (by omega) (by omega)
  rw [← h, pow7]
  simp
theorem get_mod {y : Nat} (h : 128 ≤ y) (h2 : y < 256) : y % 128 = y - 128 := by omega
theorem get_wrap' {k acc y : Nat} (hk : k < 9) (ha : acc < 128 ^ k) (hy : 128 ≤ y) (hy2 : y < 256) :
    IntKind.u64.wrap ((acc : Int) + IntKind.u64.wrap (((y : Int) - 128) * 2 ^ (7 * k))) = ((acc + (y - 128) * 128 ^ k : Nat) : Int) := by
  have h := get_wrap (y := y - 128) (Nat.le_of_lt hk) ha (by omega) (by omega)
  rw [← h, show (y : Int) - 128 = ((y - 128 : Nat) : Int) from by omega]
theorem get_acc {k acc y : Nat} (ha : acc < 128 ^ k) (hy : y < 256) : acc + (y - 128) * 128 ^ k < 128 ^ (k + 1) := by
  rw [Nat.pow_succ]
  have h1 : (y - 128) * 128 ^ k ≤ 127 * 128 ^ k := Nat.mul_le_mul_right _ (by omega)
  omega
theorem getF_at {bs : List UInt8} {k acc : Nat} (h : k < bs.length) : getF k acc (bs.drop k) =
    if k = 9 then
      if 128 ≤ bs[k].toNat then (0, 0, 2) else if 1 < bs[k].toNat then (0, 0, 1) else (acc + bs[k].toNat * 128 ^ 9, 10, 0)
    else if bs[k].toNat < 128 then (acc + bs[k].toNat * 128 ^ k, k + 1, 0) else getF (k + 1) (acc + (bs[k].toNat - 128) * 128 ^ k) (bs.drop (k + 1)) := by
  rw [List.drop_eq_getElem_cons h, getF]
theorem getF_end {bs : List UInt8} {k acc : Nat} (h : bs.length ≤ k) : getF k acc (bs.drop k) = (0, 0, 4) := by
  rw [List.drop_eq_nil_of_le h, getF]

theorem getF_facts : ∀ (b : List UInt8) (i acc : Nat), i ≤ 9 → acc < 128 ^ i →
    ((getF i acc b).2.2 = 0 → i + 1 ≤ (getF i acc b).2.1 ∧ (getF i acc b).2.1 ≤ 10 ∧ (getF i acc b).2.1 ≤ i + b.length ∧ (getF i acc b).1 ≤ 18446744073709551615) ∧
    ((getF i acc b).2.2 ≠ 0 → (getF i acc b).1 = 0 ∧ (getF i acc b).2.1 = 0 ∧ (getF i acc b).2.2 ≤ 4)
  | [], i, acc, _, _ => by simp [getF]
  | x :: r, i, acc, hi, ha => by
    have hx := x.toNat_lt
    rw [getF]
    split
    · rename_i h9; subst h9
      split
      · simp
      · split
        · simp
        · simp; omega
    · split
      · rename_i h; have := get_num (by omega) ha h (by omega)
        simp; omega
      · have := getF_facts r (i + 1) (acc + (x.toNat - 128) * 128 ^ i) (by omega) (get_acc ha (by omega))
        simp only [List.length_cons]
        refine ⟨fun h => ?_, this.2⟩
        have := this.1 h
        omega
theorem get_facts (b : List UInt8) :
    ((get b).2.2 = 0 → 1 ≤ (get b).2.1 ∧ (get b).2.1 ≤ 10 ∧ (get b).2.1 ≤ b.length ∧ (get b).1 ≤ 18446744073709551615) ∧
    ((get b).2.2 ≠ 0 → (get b).1 = 0 ∧ (get b).2.1 = 0 ∧ (get b).2.2 ≤ 4) := by
  have := getF_facts b 0 0 (by omega) (by simp)
  simpa [get] using this

/-- All of bytes, so many numbers read before, at a place: numbers, error, place. -/
def allF : Nat → List Nat → Nat → List UInt8 → List Nat × Nat × Nat
  | _, acc, _, [] => (acc, 0, 0)
  | 0, acc, _, _ => (acc, 0, 0)
  | f + 1, acc, p, x :: r =>
    if (get (x :: r)).2.2 ≠ 0 then ([], (get (x :: r)).2.2, p) else allF f (acc ++ [(get (x :: r)).1]) (p + (get (x :: r)).2.1) ((x :: r).drop (get (x :: r)).2.1)
def all (b : List UInt8) : List Nat × Nat × Nat := allF b.length [] 0 b
theorem allF_fuel (f : Nat) : ∀ (g : Nat) (acc : List Nat) (p : Nat) (b : List UInt8), b.length ≤ f → b.length ≤ g → allF f acc p b = allF g acc p b := by
  induction f with
  | zero => intro g acc p b hf hg; cases b with | nil => cases g <;> rfl | cons x r => simp at hf
  | succ f ih =>
    intro g acc p b hf hg
    cases b with
    | nil => cases g <;> rfl
    | cons x r =>
      cases g with
      | zero => simp at hg
      | succ g =>
        rw [allF, allF]
        by_cases he : (get (x :: r)).2.2 ≠ 0
        · rw [if_pos he, if_pos he]
        · rw [if_neg he, if_neg he]
          have hk := (get_facts (x :: r)).1 (by omega)
          have hl : ((x :: r).drop (get (x :: r)).2.1).length ≤ r.length := by rw [List.length_drop]; simp at hk ⊢; omega
          simp only [List.length_cons] at hf hg
          exact ih g _ _ _ (by omega) (by omega)
theorem allF_end (f : Nat) (acc : List Nat) (p : Nat) : allF f acc p [] = (acc, 0, 0) := by cases f <;> rfl
/-- One round. -/
theorem allF_err {f p : Nat} {acc : List Nat} {b : List UInt8} (hb : 0 < b.length) (hf : b.length ≤ f) (h : (get b).2.2 ≠ 0) : allF f acc p b = ([], (get b).2.2, p) := by
  cases b with
  | nil => simp at hb
  | cons x r => cases f with
    | zero => simp at hf
    | succ f => rw [allF, if_pos h]
theorem allF_step {f p : Nat} {acc : List Nat} {b : List UInt8} (hb : 0 < b.length) (hf : b.length ≤ f) (h : (get b).2.2 = 0) : allF f acc p b = allF f (acc ++ [(get b).1]) (p + (get b).2.1) (b.drop (get b).2.1) := by
  cases b with
  | nil => simp at hb
  | cons x r => cases f with
    | zero => simp at hf
    | succ f =>
      rw [allF, if_neg (by omega)]
      have hk := (get_facts (x :: r)).1 (by omega)
      have hl : ((x :: r).drop (get (x :: r)).2.1).length ≤ r.length := by rw [List.length_drop]; simp at hk ⊢; omega
      simp only [List.length_cons] at hf
      exact allF_fuel f _ _ _ _ (by omega) (by omega)
end Go.Proofs.Ytolafcmaikjioaa.M
