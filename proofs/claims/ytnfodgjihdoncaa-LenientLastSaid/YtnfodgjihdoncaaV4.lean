/- The document's Clean and Check of messages. · The document's Check of messages. -/
import Derived.Test.YtnfodgjihdoncaaV3
import Derived.Test.YtnfodgjihdoncaaSc3
set_option linter.unusedVariables false
namespace Go.Proofs.Ytnfodgjihdoncaa
open Go.RowKit
theorem held13 {w w' : World} (hc : Below w.heap.size w w') {p0 p1 p2 p3 p4 p5 p6 p7 p8 p9 p10 p11 p12 : Addr} {x0 x1 x2 x3 x4 x5 x6 x7 x8 x9 x10 x11 x12 : Value} (h : w.cell? p0 = some x0 ∧ w.cell? p1 = some x1 ∧ w.cell? p2 = some x2 ∧ w.cell? p3 = some x3 ∧ w.cell? p4 = some x4 ∧ w.cell? p5 = some x5 ∧ w.cell? p6 = some x6 ∧ w.cell? p7 = some x7 ∧ w.cell? p8 = some x8 ∧ w.cell? p9 = some x9 ∧ w.cell? p10 = some x10 ∧ w.cell? p11 = some x11 ∧ w.cell? p12 = some x12) : w'.cell? p0 = some x0 ∧ w'.cell? p1 = some x1 ∧ w'.cell? p2 = some x2 ∧ w'.cell? p3 = some x3 ∧ w'.cell? p4 = some x4 ∧ w'.cell? p5 = some x5 ∧ w'.cell? p6 = some x6 ∧ w'.cell? p7 = some x7 ∧ w'.cell? p8 = some x8 ∧ w'.cell? p9 = some x9 ∧ w'.cell? p10 = some x10 ∧ w'.cell? p11 = some x11 ∧ w'.cell? p12 = some x12 := by
  obtain ⟨h0, h1, h2, h3, h4, h5, h6, h7, h8, h9, h10, h11, h12⟩ := h
  have f : ∀ (p : Addr) (x : Value), w.cell? p = some x → w'.cell? p = some x := fun p x h => (hc.cell (World.block_lt_of_cell? w p h)).trans h
  exact ⟨f _ _ h0, f _ _ h1, f _ _ h2, f _ _ h3, f _ _ h4, f _ _ h5, f _ _ h6, f _ _ h7, f _ _ h8, f _ _ h9, f _ _ h10, f _ _ h11, f _ _ h12⟩
theorem kc_i64 (k : Int) (i : Nat) (x : Int) : (#[.int .u8 k, .int .u64 0, .int .u64 0, .int .u64 0, .int .u64 0, .int .u64 0, .int .u64 0, .string ⟨#[]⟩, .string ⟨#[]⟩, .slice none 0 0] : Array Value)[i]? ≠ some (.int .i64 x) := by
  match i with
  | 0 => simp
  | 1 => simp
  | 2 => simp
  | 3 => simp
  | 4 => simp
  | 5 => simp
  | 6 => simp
  | 7 => simp
  | 8 => simp
  | 9 => simp
  | n + 10 => simp
def clA (m : MV) (l : List SRow) : Array Value := mvA (keptM l m)
theorem clA_zero (m : MV) : clA m [] = #[.int .u8 (m.k : Int), .int .u64 0, .int .u64 0, .int .u64 0, .int .u64 0, .int .u64 0, .int .u64 0, .string ⟨#[]⟩, .string ⟨#[]⟩, .slice none 0 0] := by
  unfold clA mvA keptM; simp [mkN, mkS, mkL, ka, kb]
theorem clA_num (m : MV) (l : List SRow) (r : SRow) (h : r.typ ≤ 6) (hs : r.slot ≤ 5) : (clA m l).setIfInBounds (1 + r.slot) (.int .u64 (m.num (r.slot : Nat) : Nat)) = clA m (l ++ [r]) := by
  have hi : r.slot = 0 ∨ r.slot = 1 ∨ r.slot = 2 ∨ r.slot = 3 ∨ r.slot = 4 ∨ r.slot = 5 := by omega
  have h7 : ¬ (7 ≤ r.typ ∧ r.typ ≤ 9) := by omega
  have h10 : ¬ r.typ = 10 := by omega
  unfold clA mvA keptM
  simp only [mkN_app, mkS_app, mkL_app]
  rcases hi with hi | hi | hi | hi | hi | hi <;> rw [hi] <;> simp [h, h7, h10, ka, kb, MV.num]
theorem clA_text (m : MV) (l : List SRow) (r : SRow) (h : 7 ≤ r.typ ∧ r.typ ≤ 9) (hs : r.slot ≤ 1) : (clA m l).setIfInBounds (7 + r.slot) (.string (m.text (r.slot : Nat))) = clA m (l ++ [r]) := by
  have hi : r.slot = 0 ∨ r.slot = 1 := by omega
  have h7 : ¬ r.typ ≤ 6 := by omega
  have h10 : ¬ r.typ = 10 := by omega
  unfold clA mvA keptM
  simp only [mkN_app, mkS_app, mkL_app]
  rcases hi with hi | hi <;> rw [hi] <;> simp [h, h7, h10, ka, kb, MV.text]
theorem clA_list (m : MV) (l : List SRow) (r : SRow) (h : r.typ = 10) : (clA m l).setIfInBounds 9 (.slice m.A m.l.length m.c) = clA m (l ++ [r]) := by
  have h7 : ¬ r.typ ≤ 6 := by omega
  have h9 : ¬ (7 ≤ r.typ ∧ r.typ ≤ 9) := by omega
  unfold clA mvA keptM
  simp only [mkN_app, mkS_app, mkL_app]
  simp [h, ka, kb]
theorem clA_cell (m : MV) (l : List SRow) (i : Nat) (h : i < 10) : ∃ u, (clA m l)[i]? = some u := by
  have hi : i = 0 ∨ i = 1 ∨ i = 2 ∨ i = 3 ∨ i = 4 ∨ i = 5 ∨ i = 6 ∨ i = 7 ∨ i = 8 ∨ i = 9 := by omega
  rcases hi with rfl | rfl | rfl | rfl | rfl | rfl | rfl | rfl | rfl | rfl <;> exact ⟨_, rfl⟩
end Go.Proofs.Ytnfodgjihdoncaa
set_option linter.unusedVariables false
namespace Go.Proofs.Ytnfodgjihdoncaa
open Go.RowKit
end Go.Proofs.Ytnfodgjihdoncaa
