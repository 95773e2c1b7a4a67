/- Lines that are alike (the law's same): a walk. -/
import Derived.Test.YtepbfgniocjagaaDoorLnD
import Derived.Deep.RegionHeld3
set_option linter.unusedVariables false
namespace Go.Proofs.YtepbfgniocjagaaDoor
open Go.RowKit
theorem flat3 {α : Type} (f : α → List Value) (hf : ∀ a, (f a).length = 3) (X : List α) (k : Nat) (hk : k < X.length) (i : Nat) (hi : i < 3) : (X.flatMap f)[k * 3 + i]? = (f X[k])[i]? := by
  induction X generalizing k with
  | nil => simp at hk
  | cons a r ih =>
    rw [List.flatMap_cons]
    cases k with
    | zero => rw [List.getElem?_append_left (by rw [hf]; omega)]; simp
    | succ k =>
      rw [List.getElem?_append_right (by rw [hf]; omega), hf, show (k + 1) * 3 + i - 3 = k * 3 + i by omega, ih k (by simpa using hk)]; rfl
/-- A line of a row. -/
theorem row3_at {w : World} {B e n c : Nat} {A : Option Addr} {X : List (Nat × Nat × List UInt8)} (h : w.ownsRow B e 3 (.slice A n c) n (X.flatMap lcC)) (hn : X.length = n) (k : Nat) (hk : k < X.length) :
    ∃ g o, A = some ⟨g, o, none⟩ ∧ g < w.heap.size ∧ B ≤ g ∧ w.cell? ⟨g, o + k * 3, none⟩ = some (.int .i64 (X[k].1 : Int)) ∧ w.cell? ⟨g, o + k * 3 + 1, none⟩ = some (.int .i64 (X[k].2.1 : Int)) ∧ w.cell? ⟨g, o + k * 3 + 2, none⟩ = some (.string ⟨X[k].2.2.toArray⟩) := by
  obtain ⟨g, rfl⟩ : ∃ g, A = some ⟨g, 0, none⟩ := by
    rcases h.2 with ⟨h1, h2⟩ | ⟨g, cap, cur, h1, -⟩
    · injection h1; omega
    · injection h1 with h1; exact ⟨g, h1⟩
  have hl := h.lt g rfl
  have hf := fun i hi => flat3 lcC (fun _ => rfl) X k hk i hi
  have c0 := (h.cellAt (k * 3) (by omega)).trans (hf 0 (by omega))
  have c1 := (h.cellAt (k * 3 + 1) (by omega)).trans (hf 1 (by omega))
  have c2 := (h.cellAt (k * 3 + 2) (by omega)).trans (hf 2 (by omega))
  exact ⟨g, 0, rfl, hl.2, hl.1, by rw [Nat.zero_add, c0]; rfl, by rw [Nat.zero_add, c1]; rfl, by rw [Nat.zero_add, c2]; rfl⟩
end Go.Proofs.YtepbfgniocjagaaDoor
