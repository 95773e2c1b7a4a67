/- The inlet's own parts: next, counted. -/
import Derived.Test.YtolafcmaikjioaaProg
import Derived.Test.YtolafcmaikjioaaBase
import Derived.Test.YtolafcmaikjioaaInParts
set_option linter.unusedVariables false
namespace Go.Proofs.Ytolafcmaikjioaa
open Go.RowKit
/-- So many bytes: they, what is wrong, and the place behind. -/
def rTake (n : Int) (bs : List UInt8) (p : Nat) : List UInt8 × Nat × Nat :=
  if n < 0 then ([], 1, p) else if ((bs.length - p : Nat) : Int) < n then ([], 4, p) else ((bs.drop p).take n.toNat, 0, p + n.toNat)
theorem rTake_neg {n : Int} {bs : List UInt8} {p : Nat} (h : n < 0) : rTake n bs p = ([], 1, p) := by rw [rTake, if_pos h]
theorem rTake_short {n : Int} {bs : List UInt8} {p : Nat} (h : ¬ n < 0) (h2 : ((bs.length - p : Nat) : Int) < n) : rTake n bs p = ([], 4, p) := by rw [rTake, if_neg h, if_pos h2]
theorem rTake_ok {n : Int} {bs : List UInt8} {p : Nat} (h : ¬ n < 0) (h2 : ¬ ((bs.length - p : Nat) : Int) < n) : rTake n bs p = ((bs.drop p).take n.toNat, 0, p + n.toNat) := by rw [rTake, if_neg h, if_neg h2]
/-- A piece of a slice. -/
theorem Sl.piece {w : World} {A : Option Addr} {c : Nat} {bs : List UInt8} (h : Sl w A c (bs.map bv)) (p m : Nat) (hp : p + m ≤ bs.length) : Sl w (cutA A (p + m) p) m (((bs.drop p).take m).map bv) := by
  have hc := h.cap
  simp only [List.length_map] at hc
  have hl : ((bs.drop p).take m).length = m := by simp; omega
  refine ⟨by simp; omega, by have := h.small; omega, ?_, ?_⟩
  · intro hn
    unfold cutA at hn
    split at hn
    · omega
    · cases A with
      | none => have := h.nil0 rfl; omega
      | some a => simp at hn
  · unfold cutA
    split
    · have : m = 0 := by omega
      subst this
      simp; exact Rd.nil_ _ _
    · cases A with
      | none => have := h.rd.none_nil; simp at this; subst this; simp; exact Rd.nil_ _ _
      | some a =>
        intro j u hj
        rw [List.map_take, List.getElem?_take] at hj
        split at hj
        · obtain ⟨b, off, he, hl, hcell⟩ := h.rd (p + j) u (by rw [← List.getElem?_drop, ← List.map_drop]; exact hj)
          injection he with he
          subst he
          refine ⟨b, off + p, ?_, hl, by rw [Nat.add_assoc]; exact hcell⟩
          simp [addr_add]
        · cases hj
theorem Blk.drewN {w : World} {g : Nat} {t : TypeId} {cs : Array Value} (h : Blk w g t cs) (n : Nat) : Blk (w.drewN n) g t cs := h
theorem Far.cutP {w : World} {A : Option Addr} {q c d p n N : Nat} {bs : List UInt8} (h : Far A N q) (hs : Sl w A c (bs.map bv)) (hn : n ≤ N) (hN : bs.length = N := by assumption) : Far (cutA A d p) n q := by
  subst hN
  intro hpos b off he
  obtain ⟨b', off', hA, _⟩ := hs.rd 0 (bv (bs[0]'(by omega))) (by simp [List.getElem?_eq_getElem (show 0 < bs.length by omega)])
  subst hA
  have hne := h (by omega) b' off' rfl
  unfold cutA at he
  split at he
  · injection he with he; injection he with h1 h2; omega
  · simp only [Option.map_some, addr_add] at he
    injection he with he; injection he with h1 h2; omega
/-- A length, and so many bytes. -/
def rCount (most : Int) (bs : List UInt8) (p : Nat) : List UInt8 × Nat × Nat :=
  if (M.get (bs.drop p)).2.2 ≠ 0 then ([], (M.get (bs.drop p)).2.2, p)
  else if most < 0 ∨ most < ((M.get (bs.drop p)).1 : Int) then ([], 2, p + (M.get (bs.drop p)).2.1)
  else rTake ((M.get (bs.drop p)).1 : Int) bs (p + (M.get (bs.drop p)).2.1)
end Go.Proofs.Ytolafcmaikjioaa
