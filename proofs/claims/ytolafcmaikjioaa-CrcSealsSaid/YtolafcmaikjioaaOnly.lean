/- A call that writes into one block of what was there, and makes new memory. -/
import Derived.Test.YtolafcmaikjioaaBase
set_option linter.unusedVariables false
namespace Go.Proofs.Ytolafcmaikjioaa
open Go.RowKit
/-- Of what w had, w' has all but block q as it was. -/
structure Only (q : Nat) (w w' : World) : Prop where
  os : w'.os = w.os
  tape : w'.tape = w.tape
  output : w'.output = w.output
  size : w.heap.size ≤ w'.heap.size
  block : ∀ k, k < w.heap.size → k ≠ q → w'.heap[k]? = w.heap[k]?
section
variable {q : Nat} {w w' w'' : World}
theorem Only.refl (q : Nat) (w : World) : Only q w w := ⟨rfl, rfl, rfl, Nat.le_refl _, fun _ _ _ => rfl⟩
theorem Only.trans (h : Only q w w') (k : Only q w' w'') : Only q w w'' :=
  ⟨k.os.trans h.os, k.tape.trans h.tape, k.output.trans h.output, Nat.le_trans h.size k.size, fun i hi hq => (k.block i (Nat.lt_of_lt_of_le hi h.size) hq).trans (h.block i hi hq)⟩
theorem Only.of_below (h : Below w.heap.size w w') : Only q w w' := ⟨h.os, h.tape, h.output, h.size, fun k hk _ => h.block k hk⟩
theorem Only.alloc (h : Only q w w') (o : Obj) : Only q w (w'.alloc o) := h.trans (.of_below ((Below.refl _ _).alloc (Nat.le_refl _) _))
theorem Only.drewN (h : Only q w w') (n : Nat) : Only q w (w'.drewN n) := ⟨h.os, h.tape, h.output, h.size, h.block⟩
theorem Only.set_ (h : Only q w w') (i : Nat) (u : Value) : Only q w (w'.setCell ⟨q, i, none⟩ u) := by
  refine ⟨h.os, h.tape, h.output, by simpa [World.setCell] using h.size, fun k hk hq => ?_⟩
  rw [Below.heap_setCell w' ⟨q, i, none⟩ u k hq]
  exact h.block k hk hq
theorem Only.new_ (h : Only q w w') {g : Nat} (hg : w.heap.size ≤ g) (i : Nat) (u : Value) : Only q w (w'.setCell ⟨g, i, none⟩ u) := by
  refine ⟨h.os, h.tape, h.output, by simpa [World.setCell] using h.size, fun k hk hq => ?_⟩
  rw [Below.heap_setCell w' ⟨g, i, none⟩ u k (by show k ≠ g; omega)]
  exact h.block k hk hq
theorem Only.grown (h : Only q w w') {row : Option Nat} (hg : w'.grownBy w'' row) (hr : ∀ k, row = some k → w.heap.size ≤ k) : Only q w w'' := by
  refine ⟨hg.os.trans h.os, hg.tape.trans h.tape, hg.output.trans h.output, Nat.le_trans h.size hg.size, fun k hk hq => ?_⟩
  rw [hg.block k (Nat.lt_of_lt_of_le hk h.size) (fun e => by have := hr k e.symm; omega)]
  exact h.block k hk hq
theorem Only.below {B : Nat} (h : Only q w w') (hq : B ≤ q) (hB : B ≤ w.heap.size) : Below B w w' :=
  ⟨h.os, h.tape, h.output, h.size, fun k hk => h.block k (by omega) (by omega)⟩
theorem Only.blk {g : Nat} {t : TypeId} {cs : Array Value} (h : Only q w w') (hb : Blk w g t cs) (hg : g ≠ q) : Blk w' g t cs := (h.block g hb.lt hg).trans hb
/-- What is read there lies in another block. -/
def Far (A : Option Addr) (n q : Nat) : Prop := 0 < n → ∀ b off, A = some ⟨b, off, none⟩ → b ≠ q
theorem Only.rd {A : Option Addr} {xs : List Value} {n : Nat} (h : Only q w w') (hr : Rd w A xs) (hf : Far A n q) (hn : xs.length = n) : Rd w' A xs := by
  intro k u hk
  have hpos : 0 < n := by have := (List.getElem?_eq_some_iff.1 hk).1; omega
  obtain ⟨b, off, rfl, hlt, hc⟩ := hr k u hk
  refine ⟨b, off, rfl, Nat.lt_of_lt_of_le hlt h.size, ?_⟩
  rw [← hc]
  exact World.cell?_of_block (h.block b hlt (hf hpos b off rfl))
theorem Only.sl {A : Option Addr} {c n : Nat} {xs : List Value} (h : Only q w w') (hs : Sl w A c xs) (hf : Far A n q) (hn : xs.length = n) : Sl w' A c xs := ⟨hs.cap, hs.small, hs.nil0, h.rd hs.rd hf hn⟩
end
theorem Only.of_grown {q : Nat} {w w' : World} (h : w.grownBy w' (some q)) : Only q w w' := ⟨h.os, h.tape, h.output, h.size, fun k hk hq => h.block k hk (by simpa using hq)⟩
end Go.Proofs.Ytolafcmaikjioaa
