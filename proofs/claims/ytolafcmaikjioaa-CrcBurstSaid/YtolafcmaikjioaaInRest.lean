/- The inlet's own parts: rest, At, Left, number. -/
import Derived.Test.YtolafcmaikjioaaProg
import Derived.Test.YtolafcmaikjioaaBase
import Derived.Test.YtolafcmaikjioaaOnly
import Derived.Test.YtolafcmaikjioaaAll
import Derived.Deep.QuietTactic
import Derived.BigQuiet
set_option linter.unusedVariables false
namespace Go.Proofs.Ytolafcmaikjioaa
open Go.RowKit
/-- A reader of type t in block q: its bytes and its place. -/
structure Rin (t : TypeId) (w : World) (q : Nat) (A : Option Addr) (c : Nat) (bs : List UInt8) (p : Nat) : Prop where
  blk : Blk w q t #[.slice A bs.length c, .int .i64 (p : Int)]
  sl : Sl w A c (bs.map bv)
  le : p ≤ bs.length
  far : Far A bs.length q
theorem Rin.cap {t : TypeId} {w : World} {q : Nat} {A : Option Addr} {c : Nat} {bs : List UInt8} {p : Nat} (h : Rin t w q A c bs p) : bs.length ≤ c := by have := h.sl.cap; simpa using this
theorem Rin.move {t : TypeId} {w w' : World} {q : Nat} {A : Option Addr} {c : Nat} {bs : List UInt8} {p p' : Nat} (h : Rin t w q A c bs p) (ho : Only q w w') (hb : Blk w' q t #[.slice A bs.length c, .int .i64 (p' : Int)]) (hp : p' ≤ bs.length) : Rin t w' q A c bs p' :=
  ⟨hb, ho.sl h.sl h.far (by simp), hp, h.far⟩
theorem Rin.other {t : TypeId} {w w' : World} {q q' : Nat} {A : Option Addr} {c : Nat} {bs : List UInt8} {p : Nat} (h : Rin t w q A c bs p) (ho : Only q' w w') (hq : q ≠ q') (hf : Far A bs.length q') : Rin t w' q A c bs p :=
  ⟨ho.blk h.blk hq, ho.sl h.sl hf (by simp), h.le, h.far⟩
theorem Rin.below {t : TypeId} {w w' : World} {q : Nat} {A : Option Addr} {c : Nat} {bs : List UInt8} {p : Nat} (h : Rin t w q A c bs p) (hb : Below w.heap.size w w') : Rin t w' q A c bs p :=
  ⟨h.blk.below hb h.blk.lt, h.sl.below hb, h.le, h.far⟩
/-- The slice from a place on, as the model cuts it. -/
def cutA (A : Option Addr) (c p : Nat) : Option Addr := if c = p then A else A.map fun a => a.add p
theorem Sl.cut {w : World} {A : Option Addr} {c : Nat} {bs : List UInt8} (h : Sl w A c (bs.map bv)) (p : Nat) (hp : p ≤ bs.length) : Sl w (cutA A c p) (c - p) ((bs.drop p).map bv) := by
  have hc := h.cap
  simp only [List.length_map] at hc
  refine ⟨by simp; omega, by have := h.small; omega, ?_, ?_⟩
  · intro hn
    unfold cutA at hn
    split at hn
    · have := h.nil0 hn; omega
    · cases A with
      | none => have := h.nil0 rfl; omega
      | some a => simp at hn
  · unfold cutA
    split
    · rename_i he
      have : p = bs.length := by omega
      subst this
      rw [List.drop_length]; exact Rd.nil_ _ _
    · cases A with
      | none => have := h.rd.none_nil; simp at this; subst this; simp; exact Rd.nil_ _ _
      | some a =>
        intro j u hj
        obtain ⟨b, off, he, hl, hcell⟩ := h.rd (p + j) u (by rw [← List.getElem?_drop, ← List.map_drop]; exact hj)
        injection he with he
        subst he
        refine ⟨b, off + p, ?_, hl, by rw [Nat.add_assoc]; exact hcell⟩
        simp [addr_add]
theorem Far.cut {w : World} {A : Option Addr} {q c p n : Nat} {bs : List UInt8} (h : Far A bs.length q) (hs : Sl w A c (bs.map bv)) (hn : n ≤ bs.length) : Far (cutA A c p) n q := by
  intro hpos b off he
  obtain ⟨b', off', hA, _⟩ := hs.rd 0 (bv (bs[0]'(by omega))) (by simp [List.getElem?_eq_getElem (show 0 < bs.length by omega)])
  subst hA
  have hne := h (by omega) b' off' rfl
  unfold cutA at he
  split at he
  · injection he with he; injection he with h1 h2; omega
  · simp only [Option.map_some, addr_add] at he
    injection he with he; injection he with h1 h2; omega
end Go.Proofs.Ytolafcmaikjioaa
