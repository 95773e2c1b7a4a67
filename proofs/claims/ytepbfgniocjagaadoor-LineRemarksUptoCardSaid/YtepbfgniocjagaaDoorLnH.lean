/- What was read and put together is read alike: plain mathematics of layer 17. -/
import Derived.Test.YtepbfgniocjagaaDoorLnG
set_option linter.unusedVariables false
namespace Go.Proofs.YtepbfgniocjagaaDoor
open Go.RowKit
def rowOf (l : List UInt8) : Nat × List UInt8 := ((stripL l).length - (tlB (stripL l)).length, tlB (stripL l))
def yR (bs : List UInt8) : Nat → List (List UInt8)
  | 0 => []
  | j + 1 => yR bs j ++ if stripL (atLn bs j) = [] then [] else [stripL (atLn bs j)]
theorem yR_mem {bs : List UInt8} {j : Nat} {l : List UInt8} (h : l ∈ yR bs j) : ∃ i, i < j ∧ l = stripL (atLn bs i) ∧ l ≠ [] := by
  induction j with
  | zero => simp [yR] at h
  | succ j ih =>
    rw [yR] at h
    rcases List.mem_append.1 h with h | h
    · obtain ⟨i, h1, h2⟩ := ih h
      exact ⟨i, by omega, h2⟩
    · split at h
      · simp at h
      · rename_i hne
        obtain rfl := List.mem_singleton.1 h
        exact ⟨j, by omega, rfl, hne⟩
theorem jn_yR {bs : List UInt8} {j : Nat} (hc : ∀ r ∈ acR bs j, r.2.1 ≤ 100) : jnL (acR bs j) = (yR bs j).flatMap fun l => l ++ [10] := by
  induction j with
  | zero => rfl
  | succ j ih =>
    rw [acR] at hc ⊢
    rw [yR]
    unfold jnL at *
    rw [List.flatMap_append, List.flatMap_append, ih fun r hr => hc r (List.mem_append_left _ hr)]
    congr 1
    by_cases h : stripL (atLn bs j) = []
    · rw [lnOne_none h, if_pos h]; rfl
    · have h2 := hc _ (List.mem_append_right _ (by rw [lnOne_some h]; exact List.mem_singleton.2 rfl))
      rw [lnOne_some h, if_neg h, List.flatMap_cons, List.flatMap_nil, List.append_nil, List.flatMap_cons, List.flatMap_nil, List.append_nil]
      exact jLn_one h2
theorem row_idem (l : List UInt8) : rowOf (stripL l) = rowOf l := by unfold rowOf; rw [strip_idem]
theorem acR_two (bs : List UInt8) (j : Nat) : (acR bs j).map (fun r => r.2) = (yR bs j).map rowOf := by
  induction j with
  | zero => rfl
  | succ j ih =>
    rw [acR, yR, List.map_append, List.map_append, ih]
    congr 1
    by_cases h : stripL (atLn bs j) = []
    · rw [lnOne_none h, if_pos h]; rfl
    · rw [lnOne_some h, if_neg h, List.map_cons, List.map_nil, List.map_cons, List.map_nil, row_idem]; rfl
theorem acR_full {Z : List UInt8} (h : ∀ y ∈ lnsL Z, stripL y ≠ []) (k : Nat) (hk : k ≤ (lnsL Z).length) : (acR Z k).map (fun r => r.2) = ((lnsL Z).take k).map rowOf ∧ (acR Z k).map (fun r => r.1) = List.range' 1 k := by
  induction k with
  | zero => exact ⟨by simp [acR], by simp [acR]⟩
  | succ k ih =>
    obtain ⟨h1, h2⟩ := ih (by omega)
    have hat : atLn Z k = (lnsL Z)[k] := by unfold atLn; rw [List.getD_eq_getElem?_getD, List.getElem?_eq_getElem (by omega)]; rfl
    have hne := h _ (List.getElem_mem (by omega : k < (lnsL Z).length))
    rw [acR, lnOne_some (by rw [hat]; exact hne), List.map_append, List.map_append, h1, h2, hat]
    refine ⟨?_, ?_⟩
    · rw [List.take_succ_eq_append_getElem (by omega), List.map_append]; rfl
    · rw [List.range'_concat]
      simp [Nat.add_comm]
theorem dtF_none {X : List (List UInt8)} (h : dtF X = none) : ∀ i, dirtyL (X.getD i []) = false := by
  induction X with
  | nil => intro i; simp [dirtyL]
  | cons l r ih =>
    rw [dtF] at h
    split at h
    · cases h
    · rename_i hd
      have hr : dtF r = none := by cases hq : dtF r with | none => rfl | some k => rw [hq] at h; cases h
      intro i
      cases i with
      | zero => simpa using hd
      | succ i => simpa using ih hr i
theorem allL_zero {bs : List UInt8} {X : List (Nat × Nat × List UInt8)} {a : Int} (h : allL bs = (X, 0, a)) : VT bs ∧ (∀ i, dirtyL (atLn bs i) = false) ∧ X = acR bs (lnsL bs).length ∧ a = 0 := by
  unfold allL at h
  split at h
  · injection h with _ h; injection h with h _; cases h
  · rename_i hs
    split at h
    · injection h with _ h; injection h with h _; cases h
    · rename_i hd
      injection h with h1 h
      injection h with _ h2
      exact ⟨hs, dtF_none hd, h1.symm, h2.symm⟩
theorem dirty_sub {l m : List UInt8} (h : dirtyL l = false) (hs : ∀ c ∈ m, c ∈ l) : dirtyL m = false := by
  unfold dirtyL at *
  rw [List.any_eq_false] at *
  exact fun c hc => h c (hs c hc)
theorem strip_mem {l : List UInt8} : ∀ c ∈ stripL l, c ∈ l := fun c hc => by
  rw [(strip_pre l).1] at hc
  exact List.mem_of_mem_take hc
theorem VT_flat {Y : List (List UInt8)} (h : ∀ l ∈ Y, VT l) : VT (Y.flatMap fun l => l ++ [10]) := by
  induction Y with
  | nil => exact VT_nil
  | cons l r ih =>
    rw [List.flatMap_cons]
    exact VT_app (VT_app (h l (List.mem_cons_self ..)) (VT_one (by decide))) (ih fun l' hl => h l' (List.mem_cons_of_mem _ hl))
/-- What is read, and put together, is read alike, but for numbers. -/
theorem all_again {bs : List UInt8} {X : List (Nat × Nat × List UInt8)} {a : Int} (h : allL bs = (X, 0, a)) (hc : ∀ r ∈ X, r.2.1 ≤ 100) :
    ∃ X', allL (jnL X) = (X', 0, 0) ∧ X'.length = X.length ∧ X'.map (fun r => r.2) = X.map (fun r => r.2) ∧ X'.map (fun r => r.1) = List.range' 1 X.length := by
  obtain ⟨hv, hd, rfl, -⟩ := allL_zero h
  have hlv := lines_VT bs.length bs (Nat.le_refl _) hv
  have hln : ∀ i, VT (atLn bs i) ∧ ∀ c ∈ atLn bs i, c.toNat ≠ 10 := fun i => by
    unfold atLn
    rw [List.getD_eq_getElem?_getD]
    by_cases hi : i < (lnsL bs).length
    · rw [List.getElem?_eq_getElem hi]; exact hlv _ (List.getElem_mem hi)
    · rw [List.getElem?_eq_none (by omega)]; exact ⟨VT_nil, by simp⟩
  have hj := jn_yR hc
  have htw := acR_two bs (lnsL bs).length
  generalize hY : yR bs (lnsL bs).length = Y at *
  have hmem : ∀ l ∈ Y, ∃ i, l = stripL (atLn bs i) ∧ l ≠ [] := fun l hl => by
    rw [← hY] at hl
    obtain ⟨i, -, h1, h2⟩ := yR_mem hl
    exact ⟨i, h1, h2⟩
  rw [hj]
  have hlns : lnsL (Y.flatMap fun l => l ++ [10]) = Y := lnsL_flat fun l hl c hcl => by
    obtain ⟨i, rfl, -⟩ := hmem l hl
    exact (hln i).2 c (strip_mem c hcl)
  have hvt : VT (Y.flatMap fun l => l ++ [10]) := VT_flat fun l hl => by
    obtain ⟨i, rfl, -⟩ := hmem l hl
    exact strip_VT (hln i).1
  have hdz : ∀ i, i < (lnsL (Y.flatMap fun l => l ++ [10])).length → dirtyL (atLn (Y.flatMap fun l => l ++ [10]) i) = false := fun i hi => by
    unfold atLn
    rw [hlns] at hi ⊢
    rw [List.getD_eq_getElem?_getD, List.getElem?_eq_getElem hi]
    show dirtyL Y[i] = false
    obtain ⟨k, hk, -⟩ := hmem _ (List.getElem_mem hi)
    rw [hk]
    exact dirty_sub (hd k) strip_mem
  have hall := allL_ok hvt hdz
  obtain ⟨g1, g2⟩ := acR_full (Z := Y.flatMap fun l => l ++ [10]) (fun y hy => by
    rw [hlns] at hy
    obtain ⟨k, rfl, hne⟩ := hmem y hy
    rw [strip_idem]; exact hne) _ (Nat.le_refl _)
  rw [List.take_of_length_le (Nat.le_refl _), hlns, ← htw] at g1
  rw [hlns] at g2 hall
  have hlen : (acR bs (lnsL bs).length).length = Y.length := by have := congrArg List.length htw; simpa using this
  refine ⟨_, hall, ?_, g1, by rw [hlen]; exact g2⟩
  have := congrArg List.length g2
  rw [hlen]; simpa using this
end Go.Proofs.YtepbfgniocjagaaDoor
