/- The document's reader: fault, Varint. · A reader's method under way: the reader, and the fault that it answers in a block of its own. · The document's reader: Fixed, Join, Take. · The document's reader: Take. · The document's reader: Bytes. · The document's reader: Bytes, with where the bytes lie. · The document's Join of any two, and its Bytes. -/
import Derived.Test.YtmcebepfoleknaaProg
import Derived.Test.YtmcebepfoleknaaM1
import Derived.Test.YtmcebepfoleknaaM4
import Derived.StillTailTactics
import Derived.Deep.RegionHeld3
import Derived.IntWalk
import Derived.Test.YtmcebepfoleknaaM2
set_option linter.unusedVariables false
namespace Go.Proofs.Ytmcebepfoleknaa
open Go.RowKit
end Go.Proofs.Ytmcebepfoleknaa
set_option linter.unusedVariables false
namespace Go.Proofs.Ytmcebepfoleknaa
open Go.RowKit
structure St (t : TypeId) (w W : World) (q : Nat) (A : Option Addr) (c : Nat) (bs : List UInt8) (p : Nat) : Prop where
  r : Rin t W q A c bs p
  f : Blk W w.heap.size 32 #[.int .i64 0, .int .i64 0]
  o : Only q w W
  lt : q < w.heap.size
  far : ∀ g, w.heap.size ≤ g → Far A bs.length g
section
variable {t : TypeId} {w W W' : World} {q : Nat} {A : Option Addr} {c : Nat} {bs : List UInt8} {p : Nat}
theorem St.below (h : St t w W q A c bs p) (hb : Below W.heap.size W W') : St t w W' q A c bs p :=
  ⟨h.r.below hb, h.f.below hb h.f.lt, h.o.trans (.of_below hb), h.lt, h.far⟩
theorem St.drewN (h : St t w W q A c bs p) (n : Nat) : St t w (W.drewN n) q A c bs p := h.below (below_drewN (Below.refl _ _) n)
theorem St.alloc (h : St t w W q A c bs p) (o : Obj) : St t w (W.alloc o) q A c bs p := h.below ((Below.refl _ _).alloc (Nat.le_refl _) o)
theorem St.only {p' : Nat} (h : St t w W q A c bs p) (ho : Only q W W') (hr : Rin t W' q A c bs p') : St t w W' q A c bs p' :=
  ⟨hr, ho.blk h.f (by have := h.lt; omega), h.o.trans ho, h.lt, h.far⟩
theorem St.move (h : St t w W q A c bs p) (p' : Nat) (hp : p' ≤ bs.length) : St t w (W.setCell ⟨q, 1, none⟩ (.int .i64 (p' : Int))) q A c bs p' := by
  have ho := (Only.refl q W).set_ 1 (.int .i64 (p' : Int))
  refine h.only ho (h.r.move ho ?_ hp)
  have hb := h.r.blk.set_ 1 (.int .i64 (p' : Int))
  simpa using hb
theorem St.c0 (h : St t w W q A c bs p) : W.cell? ⟨q, 0, none⟩ = some (.slice A bs.length c) := by simpa using h.r.blk.cell 0
theorem St.c1 (h : St t w W q A c bs p) : W.cell? ⟨q, 1, none⟩ = some (.int .i64 (p : Int)) := by simpa using h.r.blk.cell 1
theorem St.r1 (h : St t w W q A c bs p) : W.frozen? ⟨q, 1, none⟩ = false := h.r.blk.frozen 1
theorem St.d0 (h : St t w W q A c bs p) : W.cell? ⟨w.heap.size, 0, none⟩ = some (.int .i64 0) := h.f.cell 0
theorem St.d1 (h : St t w W q A c bs p) : W.cell? ⟨w.heap.size, 1, none⟩ = some (.int .i64 0) := h.f.cell 1
theorem St.f0 (h : St t w W q A c bs p) : W.frozen? ⟨w.heap.size, 0, none⟩ = false := h.f.frozen 0
theorem St.f1 (h : St t w W q A c bs p) : W.frozen? ⟨w.heap.size, 1, none⟩ = false := h.f.frozen 1
theorem St.dl (h : St t w W q A c bs p) : w.heap.size < W.heap.size := h.f.lt
theorem St.fin (h : St t w W q A c bs p) (u v : Value) : Rin t ((W.setCell ⟨w.heap.size, 0, none⟩ u).setCell ⟨w.heap.size, 1, none⟩ v) q A c bs p ∧ Only q w ((W.setCell ⟨w.heap.size, 0, none⟩ u).setCell ⟨w.heap.size, 1, none⟩ v) := by
  have hl := h.lt
  refine ⟨(h.r.far_set (by omega) (h.far _ (Nat.le_refl _)) _ _).far_set (by omega) (h.far _ (Nat.le_refl _)) _ _, ?_⟩
  exact (h.o.new_ (Nat.le_refl _) _ _).new_ (Nat.le_refl _) _ _
end
end Go.Proofs.Ytmcebepfoleknaa
set_option linter.unusedVariables false
namespace Go.Proofs.Ytmcebepfoleknaa
open Go.RowKit
end Go.Proofs.Ytmcebepfoleknaa
set_option linter.unusedVariables false
namespace Go.Proofs.Ytmcebepfoleknaa
open Go.RowKit
end Go.Proofs.Ytmcebepfoleknaa
set_option linter.unusedVariables false
namespace Go.Proofs.Ytmcebepfoleknaa
open Go.RowKit
end Go.Proofs.Ytmcebepfoleknaa
set_option linter.unusedVariables false
namespace Go.Proofs.Ytmcebepfoleknaa
open Go.RowKit
end Go.Proofs.Ytmcebepfoleknaa
set_option linter.unusedVariables false
namespace Go.Proofs.Ytmcebepfoleknaa
open Go.RowKit
end Go.Proofs.Ytmcebepfoleknaa
