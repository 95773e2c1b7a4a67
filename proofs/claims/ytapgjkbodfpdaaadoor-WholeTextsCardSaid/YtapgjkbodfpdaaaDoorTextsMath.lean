/- Texts with their lengths ahead, one behind another: what is read of them, whole and cut off. -/
import Derived.Test.YtapgjkbodfpdaaaDoorLawB
import Derived.Test.YtapgjkbodfpdaaaDoorInNext
import Derived.Test.YtapgjkbodfpdaaaDoorUtfText
set_option linter.unusedVariables false
namespace Go.Proofs.YtapgjkbodfpdaaaDoor
open Go.RowKit
/-- A number's bytes, cut off, end too soon. -/
theorem getF_cut : ∀ (b : List UInt8) (i acc k : Nat), (M.getF i acc b).2.2 = 0 → i + k < (M.getF i acc b).2.1 → M.getF i acc (b.take k) = (0, 0, 4)
  | [], i, acc, k, h, _ => by simp [M.getF] at h
  | x :: r, i, acc, 0, h, _ => by simp [M.getF]
  | x :: r, i, acc, k + 1, h, h2 => by
    have ih := getF_cut r (i + 1) (acc + (x.toNat - 128) * 128 ^ i) k
    rw [M.getF] at h h2
    rw [List.take_succ_cons, M.getF]
    split at h
    · rename_i h9
      rw [if_pos h9] at h2
      split at h
      · simp at h
      · rename_i h128
        rw [if_neg h128] at h2
        split at h
        · simp at h
        · rename_i h1
          rw [if_neg h1] at h2
          simp at h2 <;> omega
    · rename_i h9
      rw [if_neg h9] at h2
      rw [if_neg h9]
      split at h
      · rename_i h128
        rw [if_pos h128] at h2
        simp at h2 <;> omega
      · rename_i h128
        rw [if_neg h128] at h2
        rw [if_neg h128]
        exact ih h (by omega)
theorem get_cut {n k : Nat} (h : n ≤ 18446744073709551615) (hk : k < (putN n).length) : M.get ((putN n).take k) = (0, 0, 4) := by
  have hp := get_put [] h
  rw [List.append_nil] at hp
  exact getF_cut (putN n) 0 0 k (by rw [show M.getF 0 0 (putN n) = M.get (putN n) from rfl, hp]) (by rw [show M.getF 0 0 (putN n) = M.get (putN n) from rfl, hp]; simpa using hk)
/-- A text with its length ahead. -/
def encB (t : List UInt8) : List UInt8 := putN t.length ++ t
def encs (g : List (List UInt8)) : List UInt8 := g.flatMap encB
theorem encs_snoc (g : List (List UInt8)) (t : List UInt8) : encs (g ++ [t]) = encs g ++ encB t := by simp [encs]
theorem rCount_enc (t pre rest : List UInt8) (ht : t.length ≤ 1000) : rCount 1000 (pre ++ (encB t ++ rest)) pre.length = (t, 0, pre.length + (encB t).length) := by
  have hg : M.get ((pre ++ (encB t ++ rest)).drop pre.length) = (t.length, (putN t.length).length, 0) := by
    rw [List.drop_left', encB, List.append_assoc]
    · exact get_put _ (by omega)
    · rfl
  unfold rCount
  rw [hg]
  dsimp only
  rw [if_neg (by simp), if_neg (by omega), rTake_ok (by omega) (by simp [encB]; omega)]
  have e : pre ++ (encB t ++ rest) = (pre ++ putN t.length) ++ (t ++ rest) := by simp [encB]
  rw [e, List.drop_left' (by simp)]
  simp [encB]
  omega
theorem rCount_cut (t pre : List UInt8) (k : Nat) (ht : t.length ≤ 1000) (hk : k < (encB t).length) : (rCount 1000 (pre ++ (encB t).take k) pre.length).2.1 = 4 := by
  by_cases hs : k < (putN t.length).length
  · have hg : M.get ((pre ++ (encB t).take k).drop pre.length) = (0, 0, 4) := by
      rw [List.drop_left' rfl, encB, List.take_append_of_le_length (by omega)]
      exact get_cut (by omega) hs
    unfold rCount
    rw [hg]
    rfl
  · have e1 : (encB t).take k = putN t.length ++ t.take (k - (putN t.length).length) := by
      rw [encB, List.take_append, List.take_of_length_le (by omega)]
    have hl : (encB t).length = (putN t.length).length + t.length := by simp [encB]
    have hg : M.get ((pre ++ (encB t).take k).drop pre.length) = (t.length, (putN t.length).length, 0) := by
      rw [List.drop_left' rfl, e1]
      exact get_put _ (by omega)
    unfold rCount
    rw [hg]
    dsimp only
    rw [if_neg (by simp), if_neg (by omega), rTake_short (by omega) (by rw [e1]; simp; omega)]
theorem encs_split (g : List (List UInt8)) (j : Nat) (hj : j < g.length) : encs g = encs (g.take j) ++ (encB g[j] ++ encs (g.drop (j + 1))) := by
  have h : g = g.take j ++ (g[j] :: g.drop (j + 1)) := by rw [← List.drop_eq_getElem_cons hj, List.take_append_drop]
  calc encs g = encs (g.take j ++ (g[j] :: g.drop (j + 1))) := congrArg encs h
    _ = _ := by unfold encs; rw [List.flatMap_append, List.flatMap_cons]
theorem encs_take (g : List (List UInt8)) (j : Nat) (hj : j < g.length) : encs (g.take (j + 1)) = encs (g.take j) ++ encB g[j] := by
  rw [List.take_succ_eq_append_getElem hj, encs_snoc]
/-- The whole: at the place behind j texts the next is read. -/
theorem encs_read (g : List (List UInt8)) (j : Nat) (hj : j < g.length) (hg : ∀ t ∈ g, t.length ≤ 1000) :
    rCount 1000 (encs g) (encs (g.take j)).length = (g[j], 0, (encs (g.take (j + 1))).length) := by
  rw [encs_take g j hj, List.length_append]
  conv => lhs; rw [encs_split g j hj]
  exact rCount_enc _ _ _ (hg _ (List.getElem_mem hj))
/-- Cut off: at the place behind j texts there is one more, and it is read or too short. -/
theorem encs_cut (g : List (List UInt8)) (j N : Nat) (hN : N < (encs g).length) (hp : (encs (g.take j)).length ≤ N) (hg : ∀ t ∈ g, t.length ≤ 1000) :
    ∃ hj : j < g.length, (rCount 1000 ((encs g).take N) (encs (g.take j)).length).2.1 = 4 ∨
      (rCount 1000 ((encs g).take N) (encs (g.take j)).length = (g[j], 0, (encs (g.take (j + 1))).length) ∧ (encs (g.take (j + 1))).length ≤ N) := by
  have hj : j < g.length := by
    apply Nat.lt_of_not_le
    intro h
    rw [List.take_of_length_le h] at hp
    omega
  refine ⟨hj, ?_⟩
  have ht := hg _ (List.getElem_mem hj)
  have hl : (encs (g.take (j + 1))).length = (encs (g.take j)).length + (encB g[j]).length := by rw [encs_take g j hj, List.length_append]
  have e : (encs g).take N = encs (g.take j) ++ (encB g[j] ++ encs (g.drop (j + 1))).take (N - (encs (g.take j)).length) := by
    conv => lhs; rw [encs_split g j hj]
    rw [List.take_append, List.take_of_length_le (l := encs (g.take j)) hp]
  by_cases hk : N - (encs (g.take j)).length < (encB g[j]).length
  · left
    rw [e, List.take_append_of_le_length (by omega)]
    exact rCount_cut _ _ _ ht hk
  · right
    rw [e, List.take_append, List.take_of_length_le (l := encB g[j]) (by omega), hl]
    exact ⟨rCount_enc _ _ _ ht, by omega⟩
end Go.Proofs.YtapgjkbodfpdaaaDoor
