/- Names: behind which steps one comes: plain lists. -/
import Derived.Test.YtejdlhjbakndaaaNmB
set_option linter.unusedVariables false
namespace Go.Proofs.Ytejdlhjbakndaaa
open Go.RowKit
namespace Nm
/-- One name more of a step's After: the step that it stands for, if it is another one and isn't there yet. -/
def rfAdd (N : List ByteArray) (i : Nat) (acc : List Nat) (s : ByteArray) : List Nat := if ix N s < N.length ∧ ix N s ≠ i ∧ ¬ ix N s ∈ acc then acc ++ [ix N s] else acc
def rfRow (N : List ByteArray) (i : Nat) (l : List ByteArray) : List Nat := l.foldl (rfAdd N i) []
theorem rfRow_snoc (N : List ByteArray) (i : Nat) (l : List ByteArray) (p : Nat) (hp : p < l.length) : rfRow N i (l.take (p + 1)) = rfAdd N i (rfRow N i (l.take p)) l[p] := by
  rw [List.take_succ_eq_append_getElem hp, rfRow, List.foldl_append]; rfl
theorem rf_fold (N : List ByteArray) (i j : Nat) : ∀ (l : List ByteArray) (acc : List Nat), j ∈ l.foldl (rfAdd N i) acc ↔ j ∈ acc ∨ ∃ t ∈ l, ix N t = j ∧ j < N.length ∧ j ≠ i
  | [], acc => by simp
  | s :: l, acc => by
    rw [List.foldl_cons, rf_fold N i j l]
    have h1 : j ∈ rfAdd N i acc s ↔ j ∈ acc ∨ (ix N s = j ∧ j < N.length ∧ j ≠ i) := by
      unfold rfAdd
      by_cases h : ix N s < N.length ∧ ix N s ≠ i ∧ ¬ ix N s ∈ acc
      · rw [if_pos h, List.mem_append, List.mem_singleton]
        constructor
        · rintro (g | rfl)
          · exact .inl g
          · exact .inr ⟨rfl, h.1, h.2.1⟩
        · rintro (g | ⟨g, -⟩)
          · exact .inl g
          · exact .inr g.symm
      · rw [if_neg h]
        constructor
        · exact .inl
        · rintro (g | ⟨rfl, g2, g3⟩)
          · exact g
          · exact Decidable.byContradiction fun hn => h ⟨g2, g3, hn⟩
    rw [h1]
    constructor
    · rintro ((g | g) | ⟨t, ht, g⟩)
      · exact .inl g
      · exact .inr ⟨s, List.mem_cons_self .., g⟩
      · exact .inr ⟨t, List.mem_cons_of_mem _ ht, g⟩
    · rintro (g | ⟨t, ht, g⟩)
      · exact .inl (.inl g)
      · rcases List.mem_cons.1 ht with rfl | ht
        · exact .inl (.inr g)
        · exact .inr ⟨t, ht, g⟩
/-- A step is there already if and only if the name was there already. -/
theorem rf_again {N : List ByteArray} {i : Nat} {l : List ByteArray} {s : ByteArray} (h1 : ix N s < N.length) (h2 : ix N s ≠ i) : ix N s ∈ rfRow N i l ↔ s ∈ l := by
  unfold rfRow
  rw [rf_fold]
  constructor
  · rintro (h | ⟨t, ht, e, -, -⟩)
    · cases h
    · have hl : ix N t < N.length := by rw [e]; exact h1
      have ht1 := ix_at hl
      have hs1 := ix_at h1
      have hts : t = s := by
        rw [← ht1, ← hs1]
        exact getElem_congr rfl e hl
      rw [← hts]; exact ht
  · intro h
    exact .inr ⟨s, h, rfl, h1, h2⟩
/-- What the program asks of one name, what the document asks: alike. -/
theorem rf_pro (N : List ByteArray) (i : Nat) (l : List ByteArray) (p : Nat) (hp : p < l.length) :
    rfRow N i (l.take (p + 1)) = if ix N l[p] < N.length ∧ ix N l[p] ≠ i ∧ inB (l.take p) l[p] = false then rfRow N i (l.take p) ++ [ix N l[p]] else rfRow N i (l.take p) := by
  rw [rfRow_snoc N i l p hp, rfAdd]
  by_cases h : ix N l[p] < N.length ∧ ix N l[p] ≠ i
  · have ha := rf_again (l := l.take p) h.1 h.2
    by_cases hm : l[p] ∈ l.take p
    · rw [if_neg (fun g => g.2.2 (ha.2 hm)), if_neg (fun g => by rw [inB_yes hm] at g; exact absurd g.2.2 (by simp))]
    · rw [if_pos ⟨h.1, h.2, fun g => hm (ha.1 g)⟩, if_pos ⟨h.1, h.2, inB_no hm⟩]
  · rw [if_neg (fun g => h ⟨g.1, g.2.1⟩), if_neg (fun g => h ⟨g.1, g.2.1⟩)]
end Nm
end Go.Proofs.Ytejdlhjbakndaaa
