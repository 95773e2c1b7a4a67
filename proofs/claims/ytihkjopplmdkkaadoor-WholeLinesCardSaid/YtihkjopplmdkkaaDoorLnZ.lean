/- The lines that WholeLines puts together: plain mathematics. -/
import Derived.Test.YtihkjopplmdkkaaDoorLnY
import Derived.Test.YtihkjopplmdkkaaDoorLnO
set_option linter.unusedVariables false
namespace Go.Proofs.YtihkjopplmdkkaaDoor
open Go.RowKit
def colN (bs : List UInt8) (i : Nat) : Nat := (bs.getD i 0).toNat % 100
/-- The texts, each with how far it is moved in. -/
def wT (L : List ByteArray) (bs : List UInt8) : Nat → List (Nat × List UInt8)
  | 0 => []
  | k + 1 => wT L bs k ++ [(colN bs k, (L.getD k ⟨#[]⟩).data.toList)]
def wRow (m : List UInt8) (L : List ByteArray) (bs : List UInt8) : Nat → List (Nat × Nat × List UInt8)
  | 0 => []
  | k + 1 => wRow m L bs k ++ [(k + 1, colN bs k, puL (L.getD k ⟨#[]⟩).data.toList ++ 32 :: 35 :: m)]
theorem wT_len (L : List ByteArray) (bs : List UInt8) (k : Nat) : (wT L bs k).length = k := by
  induction k with
  | zero => rfl
  | succ k ih => rw [wT, List.length_append, ih]; rfl
theorem wRow_len (m : List UInt8) (L : List ByteArray) (bs : List UInt8) (k : Nat) : (wRow m L bs k).length = k := by
  induction k with
  | zero => rfl
  | succ k ih => rw [wRow, List.length_append, ih]; rfl
theorem wT_at (L : List ByteArray) (bs : List UInt8) (k j : Nat) (hj : j < k) : (wT L bs k)[j]? = some (colN bs j, (L.getD j ⟨#[]⟩).data.toList) := by
  induction k with
  | zero => omega
  | succ k ih =>
    rw [wT]
    by_cases hjk : j < k
    · rw [List.getElem?_append_left (by rw [wT_len]; exact hjk)]; exact ih hjk
    · obtain rfl : j = k := by omega
      rw [List.getElem?_append_right (by rw [wT_len]; omega), wT_len, Nat.sub_self]; rfl
theorem wRow_at (m : List UInt8) (L : List ByteArray) (bs : List UInt8) (k j : Nat) (hj : j < k) : (wRow m L bs k)[j]? = some (j + 1, colN bs j, puL (L.getD j ⟨#[]⟩).data.toList ++ 32 :: 35 :: m) := by
  induction k with
  | zero => omega
  | succ k ih =>
    rw [wRow]
    by_cases hjk : j < k
    · rw [List.getElem?_append_left (by rw [wRow_len]; exact hjk)]; exact ih hjk
    · obtain rfl : j = k := by omega
      rw [List.getElem?_append_right (by rw [wRow_len]; omega), wRow_len, Nat.sub_self]; rfl
theorem wRow_jn (m : List UInt8) (L : List ByteArray) (bs : List UInt8) (k : Nat) : jnL (wRow m L bs k) = (wlL m (wT L bs k)).flatMap fun l => l ++ [10] := by
  induction k with
  | zero => rfl
  | succ k ih =>
    have hc : colN bs k ≤ 100 := by unfold colN; omega
    rw [wRow, wT]
    unfold wlL jnL at *
    rw [List.flatMap_append, ih, List.map_append, List.flatMap_append]
    congr 1
    simp only [List.flatMap_cons, List.flatMap_nil, List.append_nil, List.map_cons, List.map_nil]
    unfold jLn
    simp only
    rw [Nat.min_eq_left hc]
theorem wRow_mem {m : List UInt8} {L : List ByteArray} {bs : List UInt8} {k : Nat} (hL : ∀ j, j < k → (L.getD j ⟨#[]⟩).data.toList.length ≤ 1000) (hm : m.length ≤ 100) : ∀ r ∈ wRow m L bs k, r.2.2.length ≤ 1000000 ∧ r.2.1 ≤ 1000000 := by
  induction k with
  | zero => intro r hr; simp [wRow] at hr
  | succ k ih =>
    intro r hr
    rw [wRow] at hr
    rcases List.mem_append.1 hr with hr | hr
    · exact ih (fun j hj => hL j (by omega)) r hr
    · obtain rfl := List.mem_singleton.1 hr
      have h1 := hL k (by omega)
      have h2 := puL_le (L.getD k ⟨#[]⟩).data.toList
      have hc : colN bs k ≤ 100 := by unfold colN; omega
      simp only [List.length_append, List.length_cons]
      omega
theorem wRow_jlen {m : List UInt8} {L : List ByteArray} {bs : List UInt8} {k : Nat} (hL : ∀ j, j < k → (L.getD j ⟨#[]⟩).data.toList.length ≤ 1000) (hm : m.length ≤ 100) : (jnL (wRow m L bs k)).length ≤ k * 4300 := by
  induction k with
  | zero => simp [wRow, jnL]
  | succ k ih =>
    have := ih fun j hj => hL j (by omega)
    have h1 := hL k (by omega)
    have h2 := puL_le (L.getD k ⟨#[]⟩).data.toList
    have hc : colN bs k ≤ 100 := by unfold colN; omega
    rw [wRow]
    unfold jnL at *
    rw [List.flatMap_append, List.length_append]
    have e : ([(k + 1, colN bs k, puL (L.getD k ⟨#[]⟩).data.toList ++ 32 :: 35 :: m)].flatMap jLn).length = min (colN bs k) 100 + ((puL (L.getD k ⟨#[]⟩).data.toList).length + (m.length + 2)) + 1 := by simp [jLn]; omega
    omega
theorem flat_one (L : List ByteArray) : (L.flatMap fun s => [Value.string s]) = L.map Value.string := by
  induction L with
  | nil => rfl
  | cons s r ih => rw [List.flatMap_cons, ih]; rfl
end Go.Proofs.YtihkjopplmdkkaaDoor
