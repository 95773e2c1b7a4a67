/- The table of all fields: plain mathematics. -/
import Derived.WalkKit
set_option linter.unusedVariables false
namespace Go.Proofs.Ytehjibbjkadoiaa
/-- A field of a kind, and the first version that has it. -/
structure SRow where
  kind : Nat
  since : Nat
  num : Nat
  typ : Nat
  slot : Nat
deriving DecidableEq, Inhabited
def ROWS : List SRow := [⟨1, 1, 1, 1, 0⟩, ⟨1, 1, 2, 1, 1⟩, ⟨1, 1, 3, 7, 0⟩, ⟨2, 1, 1, 1, 0⟩, ⟨2, 1, 2, 6, 1⟩, ⟨2, 2, 3, 7, 0⟩, ⟨3, 1, 1, 7, 0⟩, ⟨3, 1, 2, 9, 1⟩, ⟨3, 3, 3, 4, 0⟩, ⟨4, 1, 1, 7, 0⟩, ⟨4, 1, 2, 2, 0⟩, ⟨4, 2, 3, 7, 1⟩, ⟨4, 3, 4, 10, 0⟩, ⟨5, 1, 1, 2, 0⟩, ⟨5, 1, 2, 1, 1⟩, ⟨5, 1, 3, 7, 0⟩, ⟨5, 1, 4, 1, 2⟩, ⟨5, 1, 5, 4, 3⟩, ⟨5, 2, 6, 2, 4⟩, ⟨5, 3, 7, 10, 0⟩, ⟨6, 1, 1, 2, 0⟩, ⟨6, 1, 2, 1, 1⟩, ⟨6, 1, 3, 1, 2⟩, ⟨6, 1, 4, 4, 3⟩, ⟨6, 1, 5, 1, 4⟩, ⟨6, 2, 6, 8, 0⟩, ⟨6, 3, 7, 3, 5⟩, ⟨7, 1, 1, 2, 0⟩, ⟨7, 2, 2, 8, 0⟩, ⟨8, 2, 1, 2, 0⟩, ⟨9, 1, 1, 2, 0⟩, ⟨9, 1, 2, 1, 1⟩, ⟨9, 1, 3, 1, 2⟩, ⟨9, 2, 4, 10, 0⟩, ⟨9, 3, 5, 5, 3⟩, ⟨9, 3, 6, 3, 4⟩, ⟨10, 1, 1, 1, 0⟩, ⟨10, 1, 2, 8, 0⟩, ⟨10, 2, 3, 2, 1⟩, ⟨10, 3, 4, 6, 2⟩]
def rowAt (j : Nat) : SRow := ROWS.getD j default
theorem ROWS_len : ROWS.length = 40 := rfl
theorem rowAt_mem (j : Nat) (h : j < 40) : rowAt j ∈ ROWS := by
  have h2 : j < ROWS.length := h
  unfold rowAt
  rw [List.getD_eq_getElem?_getD, List.getElem?_eq_getElem h2]
  exact List.getElem_mem h2
theorem rows_all (p : SRow → Bool) (h : ROWS.all p = true) (j : Nat) (hj : j < 40) : p (rowAt j) = true := List.all_eq_true.1 h _ (rowAt_mem j hj)
/-- What a row may be. -/
theorem rowAt_ok (j : Nat) (hj : j < 40) : 1 ≤ (rowAt j).kind ∧ (rowAt j).kind ≤ 10 ∧ 1 ≤ (rowAt j).since ∧ (rowAt j).since ≤ 3 ∧ 1 ≤ (rowAt j).num ∧ (rowAt j).num ≤ 7 ∧ 1 ≤ (rowAt j).typ ∧ (rowAt j).typ ≤ 10 ∧ (rowAt j).slot ≤ 5 := by
  have h := rows_all (fun r => decide (1 ≤ r.kind ∧ r.kind ≤ 10 ∧ 1 ≤ r.since ∧ r.since ≤ 3 ∧ 1 ≤ r.num ∧ r.num ≤ 7 ∧ 1 ≤ r.typ ∧ r.typ ≤ 10 ∧ r.slot ≤ 5)) (by decide) j hj
  simpa using h
/-- The fields that a version has. -/
def kn (v : Int) : List SRow := if 3 < v then [] else ROWS.filter fun r => decide ((r.since : Int) ≤ v)
/-- How many of the first rows a version has. -/
def cnt (v : Int) (j : Nat) : Nat := ((ROWS.take j).filter fun r => decide ((r.since : Int) ≤ v)).length
theorem take_row (j : Nat) (hj : j < 40) : ROWS.take (j + 1) = ROWS.take j ++ [rowAt j] := by
  have h2 : j < ROWS.length := hj
  rw [List.take_succ_eq_append_getElem h2]
  congr 2
  unfold rowAt
  rw [List.getD_eq_getElem?_getD, List.getElem?_eq_getElem h2]
  rfl
theorem cnt_zero (v : Int) : cnt v 0 = 0 := rfl
theorem cnt_has (v : Int) (j : Nat) (hj : j < 40) (h : ((rowAt j).since : Int) ≤ v) : cnt v (j + 1) = cnt v j + 1 := by
  unfold cnt
  rw [take_row j hj, List.filter_append, List.filter_cons_of_pos (by simpa using h), List.length_append]
  rfl
theorem cnt_not (v : Int) (j : Nat) (hj : j < 40) (h : ¬ ((rowAt j).since : Int) ≤ v) : cnt v (j + 1) = cnt v j := by
  unfold cnt
  rw [take_row j hj, List.filter_append, List.filter_cons_of_neg (by simpa using h), List.filter_nil, List.append_nil]
theorem kn_in (v : Int) (hv : ¬ 3 < v) : kn v = ROWS.filter fun r => decide ((r.since : Int) ≤ v) := by unfold kn; rw [if_neg hv]
theorem kn_out (v : Int) (hv : 3 < v) : kn v = [] := by unfold kn; rw [if_pos hv]
theorem cnt_all (v : Int) (hv : ¬ 3 < v) : cnt v 40 = (kn v).length := by
  unfold cnt
  rw [kn_in v hv]
  rfl
theorem kn_split (v : Int) (hv : ¬ 3 < v) (j : Nat) (hj : j < 40) (h : ((rowAt j).since : Int) ≤ v) : (kn v)[cnt v j]? = some (rowAt j) := by
  have hsp : ROWS = ROWS.take j ++ (rowAt j :: ROWS.drop (j + 1)) := by
    have h1 := List.take_append_drop (j + 1) ROWS
    rw [take_row j hj, List.append_assoc] at h1
    exact h1.symm
  have h2 : kn v = (ROWS.take j).filter (fun r => decide ((r.since : Int) ≤ v)) ++ (rowAt j :: (ROWS.drop (j + 1)).filter fun r => decide ((r.since : Int) ≤ v)) := by
    rw [kn_in v hv]
    conv => lhs; rw [hsp]
    rw [List.filter_append, List.filter_cons_of_pos (by simpa using h)]
  rw [h2]
  unfold cnt
  rw [List.getElem?_append_right (Nat.le_refl _)]
  simp
theorem cnt_lt (v : Int) (hv : ¬ 3 < v) (j : Nat) (hj : j < 40) (h : ((rowAt j).since : Int) ≤ v) : cnt v j < (kn v).length := (List.getElem?_eq_some_iff.1 (kn_split v hv j hj h)).1
theorem kn_mem (v : Int) {r : SRow} (h : r ∈ kn v) : r ∈ ROWS := by
  unfold kn at h
  split at h
  · simp at h
  · exact (List.mem_filter.1 h).1
theorem kn_len (v : Int) : (kn v).length ≤ 40 := by
  unfold kn
  split
  · simp
  · exact List.length_filter_le _ _
/-- The fields of a kind that a version has. -/
def ofL (k : Int) (v : Int) : List SRow := (kn v).filter fun r => decide ((r.kind : Int) = k)
end Go.Proofs.Ytehjibbjkadoiaa
