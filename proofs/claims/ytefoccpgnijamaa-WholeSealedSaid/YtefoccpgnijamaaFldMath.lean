/- The fields of bytes: what is read at a place, and one behind another. -/
import Derived.Test.YtefoccpgnijamaaM4
import Derived.Test.YtefoccpgnijamaaM3
set_option linter.unusedVariables false
namespace Go.Proofs.Ytefoccpgnijamaa
open Go.RowKit
/-- The value behind a tag: a number, or bytes; what is wrong; the place behind. -/
def rVal (w : Int) (bs : List UInt8) (p : Nat) : Nat × List UInt8 × Nat × Nat :=
  if w = 0 then (if (M.get (bs.drop p)).2.2 = 0 then (M.get (bs.drop p)).1 else 0, [], (M.get (bs.drop p)).2.2, plc (M.get (bs.drop p)).2.2 p (p + (M.get (bs.drop p)).2.1))
  else if w = 1 then (if (rFix 8 bs p).2.1 = 0 then (rFix 8 bs p).1 else 0, [], (rFix 8 bs p).2.1, plc (rFix 8 bs p).2.1 p (rFix 8 bs p).2.2)
  else if w = 2 then (0, if (rCount 8192 bs p).2.1 = 0 then (rCount 8192 bs p).1 else [], (rCount 8192 bs p).2.1, plc (rCount 8192 bs p).2.1 p (rCount 8192 bs p).2.2)
  else (if (rFix 4 bs p).2.1 = 0 then (rFix 4 bs p).1 else 0, [], (rFix 4 bs p).2.1, plc (rFix 4 bs p).2.1 p (rFix 4 bs p).2.2)
/-- A field at a place. -/
structure RF where
  num : Int
  w : Int
  n : Nat
  xs : List UInt8
  e : Nat
  p : Nat
  nx : Nat
def rOne (bs : List UInt8) (p : Nat) : RF :=
  if (rHead bs p).2.2.1 = 0 then
    ⟨(rHead bs p).1, (rHead bs p).2.1, (rVal (rHead bs p).2.1 bs (rHead bs p).2.2.2).1, (rVal (rHead bs p).2.1 bs (rHead bs p).2.2.2).2.1, (rVal (rHead bs p).2.1 bs (rHead bs p).2.2.2).2.2.1, flt (rVal (rHead bs p).2.1 bs (rHead bs p).2.2.2).2.2.1 (rHead bs p).2.2.2, (rVal (rHead bs p).2.1 bs (rHead bs p).2.2.2).2.2.2⟩
  else ⟨0, 0, 0, [], (rHead bs p).2.2.1, p, p⟩
theorem rHead_facts (bs : List UInt8) (p : Nat) (h : (rHead bs p).2.2.1 = 0) : 1 ≤ (rHead bs p).1 ∧ (rHead bs p).1 ≤ 536870911 ∧ ((rHead bs p).2.1 = 0 ∨ (rHead bs p).2.1 = 1 ∨ (rHead bs p).2.1 = 2 ∨ (rHead bs p).2.1 = 5) ∧ p < (rHead bs p).2.2.2 := by
  unfold rHead at h ⊢
  have hg := M.get_facts (bs.drop p)
  by_cases h0 : (M.get (bs.drop p)).2.2 = 0
  · rw [if_pos h0] at h ⊢
    simp only at h ⊢
    have hs := spl_err ((M.get (bs.drop p)).1 : Int)
    have hz : (spl ((M.get (bs.drop p)).1 : Int)).2.2 = 0 := by omega
    obtain ⟨h1, h2, h3, h4⟩ := spl_ok_inv hz
    rw [h4]
    simp only
    refine ⟨h1, h2, ?_, ?_⟩
    · unfold wireB at h3
      simpa using h3
    · have := (hg.1 h0).1; omega
  · rw [if_neg h0] at h
    simp only at h
    exact absurd h h0
theorem rCount_ok (bs : List UInt8) (p : Nat) (hp : p ≤ bs.length) (h : (rCount 8192 bs p).2.1 = 0) : p ≤ (rCount 8192 bs p).2.2 ∧ (rCount 8192 bs p).2.2 ≤ bs.length := by
  have hg := M.get_facts (bs.drop p)
  have hd : (bs.drop p).length = bs.length - p := List.length_drop
  unfold rCount at h ⊢
  split at h
  · simp at h; omega
  · rename_i h0
    rw [if_neg h0]
    have h1 := hg.1 (by omega)
    split at h
    · simp at h
    · rename_i h2
      rw [if_neg h2]
      by_cases hs : ((bs.length - (p + (M.get (bs.drop p)).2.1) : Nat) : Int) < ((M.get (bs.drop p)).1 : Int)
      · rw [rTake_short (by omega) hs] at h; simp at h
      · rw [rTake_ok (by omega) hs]
        simp only [Int.toNat_natCast]
        omega
theorem rVal_facts (w : Int) (bs : List UInt8) (p : Nat) (hp : p ≤ bs.length) : p ≤ (rVal w bs p).2.2.2 ∧ (rVal w bs p).2.2.2 ≤ bs.length ∧ (rVal w bs p).1 ≤ 18446744073709551615 ∧ ((rVal w bs p).2.2.1 ≠ 0 → (rVal w bs p).2.2.2 = p ∧ (rVal w bs p).1 = 0 ∧ (rVal w bs p).2.1 = []) := by
  have hg := M.get_facts (bs.drop p)
  have hd : (bs.drop p).length = bs.length - p := List.length_drop
  have hfx : ∀ k, k ≤ 8 → p ≤ plc (rFix k bs p).2.1 p (rFix k bs p).2.2 ∧ plc (rFix k bs p).2.1 p (rFix k bs p).2.2 ≤ bs.length ∧ (if (rFix k bs p).2.1 = 0 then (rFix k bs p).1 else 0) ≤ 18446744073709551615 ∧ ((rFix k bs p).2.1 ≠ 0 → plc (rFix k bs p).2.1 p (rFix k bs p).2.2 = p ∧ (if (rFix k bs p).2.1 = 0 then (rFix k bs p).1 else 0) = 0) := by
    intro k hk
    unfold rFix
    by_cases h : bs.length - p < k
    · rw [if_pos h]; simp [plc]; exact hp
    · rw [if_neg h]
      have hu := unfixN_lt ((bs.drop p).take k)
      have hl : ((bs.drop p).take k).length = k := by rw [List.length_take, hd]; omega
      rw [hl] at hu
      have hb := pow256 hk
      simp [plc]
      omega
  unfold rVal
  split
  · by_cases h0 : (M.get (bs.drop p)).2.2 = 0
    · have h1 := hg.1 h0
      simp only [h0, plc, if_true]
      refine ⟨by omega, by omega, by omega, fun h => absurd rfl h⟩
    · simp only [h0, plc, if_false]
      exact ⟨Nat.le_refl _, hp, by omega, fun _ => by simp⟩
  split
  · have h := hfx 8 (by omega)
    exact ⟨h.1, h.2.1, h.2.2.1, fun he => ⟨(h.2.2.2 he).1, (h.2.2.2 he).2, rfl⟩⟩
  split
  · have hc := rCount_ok bs p hp
    simp only
    refine ⟨?_, ?_, by omega, ?_⟩
    · unfold plc
      split
      · rename_i h; exact (hc h).1
      · exact Nat.le_refl _
    · unfold plc
      split
      · rename_i h; exact (hc h).2
      · exact hp
    · intro he
      simp [plc, he]
  · have h := hfx 4 (by omega)
    exact ⟨h.1, h.2.1, h.2.2.1, fun he => ⟨(h.2.2.2 he).1, (h.2.2.2 he).2, rfl⟩⟩
theorem rOne_facts (bs : List UInt8) (p : Nat) (hp : p ≤ bs.length) : ((rOne bs p).e = 0 → p < (rOne bs p).nx ∧ (rOne bs p).nx ≤ bs.length ∧ 1 ≤ (rOne bs p).num ∧ (rOne bs p).num ≤ 536870911 ∧ ((rOne bs p).w = 0 ∨ (rOne bs p).w = 1 ∨ (rOne bs p).w = 2 ∨ (rOne bs p).w = 5)) ∧ (rOne bs p).n ≤ 18446744073709551615 := by
  unfold rOne
  split
  · rename_i h
    have hh := rHead_facts bs p h
    have hp1 : (rHead bs p).2.2.2 ≤ bs.length := by
      unfold rHead at h ⊢
      have hg := M.get_facts (bs.drop p)
      have hd : (bs.drop p).length = bs.length - p := List.length_drop
      split
      · rename_i h0; have := (hg.1 h0).2.2.1; simp only; omega
      · exact hp
    have hv := rVal_facts (rHead bs p).2.1 bs (rHead bs p).2.2.2 hp1
    simp only
    exact ⟨fun he => ⟨by omega, hv.2.1, hh.1, hh.2.1, hh.2.2.1⟩, hv.2.2.1⟩
  · rename_i h
    exact ⟨fun he => absurd he h, by simp⟩
/-- The fields from a place on, each with its place; or what is wrong, and where. -/
def flds (bs : List UInt8) : Nat → Nat → List (RF × Nat) × Nat × Nat
  | 0, _ => ([], 0, 0)
  | f + 1, p => if bs.length ≤ p then ([], 0, 0) else if (rOne bs p).e = 0 then ((rOne bs p, p) :: (flds bs f (rOne bs p).nx).1, (flds bs f (rOne bs p).nx).2.1, (flds bs f (rOne bs p).nx).2.2) else ([], (rOne bs p).e, (rOne bs p).p)
theorem flds_end (bs : List UInt8) (f p : Nat) (h : bs.length ≤ p) : flds bs f p = ([], 0, 0) := by
  cases f with
  | zero => rfl
  | succ f => rw [flds, if_pos h]
theorem flds_bad (bs : List UInt8) (f p : Nat) (h : p < bs.length) (hf : bs.length - p ≤ f) (he : (rOne bs p).e ≠ 0) : flds bs f p = ([], (rOne bs p).e, (rOne bs p).p) := by
  obtain ⟨g, rfl⟩ : ∃ g, f = g + 1 := ⟨f - 1, by omega⟩
  rw [flds, if_neg (by omega), if_neg he]
theorem flds_step (bs : List UInt8) (f p : Nat) (h : p < bs.length) (hf : bs.length - p ≤ f) (he : (rOne bs p).e = 0) : ∃ g, bs.length - (rOne bs p).nx ≤ g ∧ flds bs f p = ((rOne bs p, p) :: (flds bs g (rOne bs p).nx).1, (flds bs g (rOne bs p).nx).2.1, (flds bs g (rOne bs p).nx).2.2) := by
  obtain ⟨g, rfl⟩ : ∃ g, f = g + 1 := ⟨f - 1, by omega⟩
  have hn := ((rOne_facts bs p (by omega)).1 he).1
  exact ⟨g, by omega, by rw [flds, if_neg (by omega), if_pos he]⟩
end Go.Proofs.Ytefoccpgnijamaa
