/- What the inlet tells: told, at each kind, and the methods that read. -/
import Derived.Test.YtolafcmaikjioaaProg
import Derived.Test.YtolafcmaikjioaaBase
import Derived.Test.YtolafcmaikjioaaInNext
set_option linter.unusedVariables false
namespace Go.Proofs.Ytolafcmaikjioaa
open Go.RowKit
theorem func_run {P : Program} (fn : Fn) (first cap : Array Value) (w : World) : (Instr.makeFunc fn first cap).run P w = .ok (.func fn first cap) w := rfl
/-- The place of a fault. -/
def flt (e p : Nat) : Nat := if e = 0 then 0 else p
/-- Where the reader is behind. -/
def plc (e p p1 : Nat) : Nat := if e = 0 then p1 else p
theorem Rin.set_ {t : TypeId} {w w1 : World} {q : Nat} {A : Option Addr} {c : Nat} {bs : List UInt8} {p p1 : Nat} (h : Rin t w q A c bs p) (h1 : Rin t w1 q A c bs p1) : Rin t (w1.setCell ⟨q, 1, none⟩ (.int .i64 (p : Int))) q A c bs p := by
  refine h1.move ((Only.refl q w1).set_ 1 _) ?_ h.le
  have := h1.blk.set_ 1 (.int .i64 (p : Int))
  simpa using this
theorem Rin.far_set {t : TypeId} {w : World} {q g : Nat} {A : Option Addr} {c : Nat} {bs : List UInt8} {p : Nat} (h : Rin t w q A c bs p) (hq : q ≠ g) (hf : Far A bs.length g) (i : Nat) (u : Value) : Rin t (w.setCell ⟨g, i, none⟩ u) q A c bs p :=
  h.other ((Only.refl g w).set_ i u) hq hf
theorem far_new {w : World} {A : Option Addr} {c : Nat} {bs : List UInt8} {g : Nat} (h : Sl w A c (bs.map bv)) (hg : w.heap.size ≤ g) : Far A bs.length g := by
  intro hpos b off he
  obtain ⟨b', off', hA, hlt, _⟩ := h.rd 0 (bv (bs[0]'hpos)) (by simp [List.getElem?_eq_getElem hpos])
  rw [he] at hA
  injection hA with hA
  injection hA with h1 h2
  omega
end Go.Proofs.Ytolafcmaikjioaa
