/- The table of all fields, by kinds and versions: plain mathematics. -/
import Derived.Test.YtehjibbjkadoiaaSchKinds
import Derived.Test.YtehjibbjkadoiaaSchFind
set_option linter.unusedVariables false
namespace Go.Proofs.Ytehjibbjkadoiaa
theorem kn_one (v : Int) : v = 1 ∨ v = 2 ∨ v = 3 ∨ ((v < 1 ∨ 3 < v) ∧ kn v = []) := by
  by_cases h : 3 < v
  · exact .inr (.inr (.inr ⟨.inr h, kn_out v h⟩))
  by_cases h1 : v < 1
  · refine .inr (.inr (.inr ⟨.inl h1, ?_⟩))
    rw [kn_in v h, List.filter_eq_nil_iff]
    intro r hr
    have h2 := List.all_eq_true.1 (show ROWS.all (fun r => decide (1 ≤ r.since)) = true by decide) r hr
    simp at h2 ⊢
    omega
  omega
theorem ofL_nil (k v : Int) (h : kn v = []) : ofL k v = [] := by unfold ofL; rw [h]; rfl
theorem finS_nil (k v n : Int) (h : kn v = []) : finS k v n = none := by unfold finS; rw [h]; rfl
theorem kinds_nil (v : Int) (h : kn v = []) : kinds v = [] := by unfold kinds; rw [h]; rfl
/-- All rows of a kind, in order. -/
def ofK (k : Int) : List SRow := ROWS.filter fun r => decide ((r.kind : Int) = k)
theorem ofL_in (k v : Int) (h : ¬ 3 < v) : ofL k v = (ofK k).filter fun r => decide ((r.since : Int) ≤ v) := by
  unfold ofL ofK
  rw [kn_in v h, List.filter_filter, List.filter_filter]
  congr 1
  funext r
  exact Bool.and_comm _ _
theorem finS_of (k v n : Int) : finS k v n = (ofL k v).find? fun r => decide ((r.num : Int) = n) := by
  unfold finS ofL
  rw [List.find?_filter]
  congr 1
  funext r
  unfold pF
  simp
/-- Whether a kind is known in a version. -/
def hasB (v : Int) (k : Nat) : Bool := decide (0 < (ofL k v).length)
def cntK (v : Int) (j : Nat) : Nat := ((List.range' 1 j).filter (hasB v)).length
theorem cntK_zero (v : Int) : cntK v 0 = 0 := rfl
theorem cntK_has (v : Int) (j : Nat) (h : hasB v (j + 1) = true) : cntK v (j + 1) = cntK v j + 1 := by
  unfold cntK
  rw [List.range'_concat, List.filter_append, List.length_append]
  simp [Nat.add_comm 1 j, h]
theorem cntK_not (v : Int) (j : Nat) (h : hasB v (j + 1) = false) : cntK v (j + 1) = cntK v j := by
  unfold cntK
  rw [List.range'_concat, List.filter_append, List.length_append]
  simp [Nat.add_comm 1 j, h]
theorem hasB_nil (v : Int) (k : Nat) (h : kn v = []) : hasB v k = false := by unfold hasB; rw [ofL_nil _ _ h]; rfl
theorem cntK_all (v : Int) : cntK v 10 = (kinds v).length := by
  rcases kn_one v with rfl | rfl | rfl | ⟨-, h⟩
  · decide +kernel
  · decide +kernel
  · decide +kernel
  · rw [kinds_nil v h]
    unfold cntK
    rw [List.filter_eq_nil_iff.2 (fun k _ => by rw [hasB_nil v k h]; simp)]
theorem cntK_at (v : Int) (j : Nat) (hj : j < 10) (h : hasB v (j + 1) = true) : (kinds v)[cntK v j]? = some (j + 1) := by
  rcases kn_one v with rfl | rfl | rfl | ⟨-, h0⟩
  · exact (show ∀ j, j < 10 → hasB 1 (j + 1) = true → (kinds 1)[cntK 1 j]? = some (j + 1) by decide +kernel) j hj h
  · exact (show ∀ j, j < 10 → hasB 2 (j + 1) = true → (kinds 2)[cntK 2 j]? = some (j + 1) by decide +kernel) j hj h
  · exact (show ∀ j, j < 10 → hasB 3 (j + 1) = true → (kinds 3)[cntK 3 j]? = some (j + 1) by decide +kernel) j hj h
  · rw [hasB_nil v _ h0] at h; cases h
theorem ofL_kind (k : Nat) (v : Int) (hk : k = 0 ∨ 10 < k) : ofL k v = [] := by
  unfold ofL
  rw [List.filter_eq_nil_iff]
  intro r hr
  have h2 := List.all_eq_true.1 (show ROWS.all (fun r => decide (1 ≤ r.kind ∧ r.kind ≤ 10)) = true by decide) r (kn_mem v hr)
  simp at h2 ⊢
  omega
/-- A type's sort: a number, a text, a list. -/
def sortN (t : Int) : Nat := if t ≤ 6 then 0 else if t < 10 then 1 else 2
/-- Whether a version's rows of a kind are in a later one, and unlike. -/
def growB (k : Nat) (v : Int) : Bool :=
  (List.range (ofL k v).length).all fun i =>
    ([1, 2, 3].all fun l => !decide (v ≤ l) || decide (finS k l (((ofL k v).getD i default).num : Int) = some ((ofL k v).getD i default))) &&
    (List.range i).all fun j => decide (((ofL k v).getD j default).num < ((ofL k v).getD i default).num) && !(decide (sortN ((ofL k v).getD j default).typ = sortN ((ofL k v).getD i default).typ ∧ ((ofL k v).getD j default).slot = ((ofL k v).getD i default).slot))
theorem growB_1 : (List.range 11).all (fun k => growB k 1) = true := by decide +kernel
theorem growB_2 : (List.range 11).all (fun k => growB k 2) = true := by decide +kernel
theorem growB_3 : (List.range 11).all (fun k => growB k 3) = true := by decide +kernel
theorem growB_all (k : Nat) (v : Int) : growB k v = true := by
  by_cases hk : k ≤ 10
  · rcases kn_one v with rfl | rfl | rfl | ⟨-, h0⟩
    · exact List.all_eq_true.1 growB_1 k (by simp; omega)
    · exact List.all_eq_true.1 growB_2 k (by simp; omega)
    · exact List.all_eq_true.1 growB_3 k (by simp; omega)
    · unfold growB; rw [ofL_nil _ _ h0]; rfl
  · unfold growB; rw [ofL_kind k v (by omega)]; rfl
theorem getD_get {l : List SRow} {i : Nat} (h : i < l.length) : l.getD i default = l[i] := by
  rw [List.getD_eq_getElem?_getD, List.getElem?_eq_getElem h]; rfl
theorem grow_find (k : Nat) (v l : Int) (i : Nat) (hi : i < (ofL k v).length) (hl : v ≤ l) (h3 : l ≤ 3) : finS k l ((ofL k v)[i].num : Int) = some (ofL k v)[i] := by
  have h := growB_all k v
  unfold growB at h
  have h1 := List.all_eq_true.1 h i (by simpa using hi)
  rw [Bool.and_eq_true] at h1
  have hv : 1 ≤ v := by
    rcases kn_one v with rfl | rfl | rfl | ⟨-, h0⟩
    · omega
    · omega
    · omega
    · rw [ofL_nil _ _ h0] at hi; simp at hi
  have h2 := List.all_eq_true.1 h1.1 l (by simp; omega)
  rw [getD_get hi] at h2
  simpa [hl] using h2
theorem grow_apart (k : Nat) (v : Int) (i j : Nat) (hi : i < (ofL k v).length) (hj : j < i) : (ofL k v)[j].num < (ofL k v)[i].num ∧ ¬ (sortN (ofL k v)[j].typ = sortN (ofL k v)[i].typ ∧ (ofL k v)[j].slot = (ofL k v)[i].slot) := by
  have h := growB_all k v
  unfold growB at h
  have h1 := List.all_eq_true.1 h i (by simpa using hi)
  rw [Bool.and_eq_true] at h1
  have h2 := List.all_eq_true.1 h1.2 j (by simpa using hj)
  rw [getD_get hi, getD_get (by omega : j < (ofL k v).length)] at h2
  rw [Bool.and_eq_true] at h2
  refine ⟨by simpa using h2.1, fun h3 => ?_⟩
  have h4 := h2.2
  rw [Bool.not_eq_true', decide_eq_false_iff_not] at h4
  exact h4 h3
theorem ofL_le40 (k v : Int) : (ofL k v).length ≤ 40 := by rw [← accL_all]; exact accL_len _ _ _
theorem ofL_mem (k v : Int) {r : SRow} (h : r ∈ ofL k v) : r ∈ ROWS := kn_mem v (List.mem_filter.1 h).1
theorem row_ok {r : SRow} (h : r ∈ ROWS) : 1 ≤ r.kind ∧ r.kind ≤ 10 ∧ 1 ≤ r.since ∧ r.since ≤ 3 ∧ 1 ≤ r.num ∧ r.num ≤ 7 ∧ 1 ≤ r.typ ∧ r.typ ≤ 10 ∧ r.slot ≤ 5 := by
  have h := List.all_eq_true.1 (show ROWS.all (fun r => decide (1 ≤ r.kind ∧ r.kind ≤ 10 ∧ 1 ≤ r.since ∧ r.since ≤ 3 ∧ 1 ≤ r.num ∧ r.num ≤ 7 ∧ 1 ≤ r.typ ∧ r.typ ≤ 10 ∧ r.slot ≤ 5)) = true by decide) r h
  simpa using h
end Go.Proofs.Ytehjibbjkadoiaa
