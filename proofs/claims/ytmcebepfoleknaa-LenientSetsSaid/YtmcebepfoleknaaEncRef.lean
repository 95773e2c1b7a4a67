/- The document's Field. -/
import Derived.Test.YtmcebepfoleknaaEn2
import Derived.Test.YtmcebepfoleknaaV4
import Derived.Test.YtmcebepfoleknaaSk4
import Derived.Test.YtmcebepfoleknaaRegInv
set_option linter.unusedVariables false
namespace Go.Proofs.Ytmcebepfoleknaa
open Go.RowKit
/-- Bytes of a text, in a block of bytes. -/
def ConvS (w : World) (A : Option Addr) (c : Nat) (qs : ByteArray) : Prop := Sl w A c (qs.data.toList.map bv) ∧ U8 w A
theorem ConvS.below {w w' : World} {A : Option Addr} {c : Nat} {qs : ByteArray} (h : ConvS w A c qs) (hb : Below w.heap.size w w') : ConvS w' A c qs := by
  refine ⟨h.1.below hb, ?_⟩
  obtain ⟨g, cs, k, rfl, hg⟩ := h.2
  exact ⟨g, cs, k, rfl, (hb.block g (Array.getElem?_eq_some_iff.1 hg).1).trans hg⟩
theorem ConvS.chg {w w' : World} {A : Option Addr} {c q : Nat} {qs : ByteArray} {t : TypeId} {cs : Array Value} (h : ConvS w A c qs) (hb : Blk w q t cs) (ht : t ≠ 5) (hc : Chg (fun k => k = q) w w') : ConvS w' A c qs := by
  have hu := h.2
  obtain ⟨g, cs1, k, rfl, hg⟩ := h.2
  have hne := U8.ne_blk hu hb ht
  refine ⟨hc.sl h.1 (n := (qs.data.toList.map bv).length) (fun _ b o he hS => ?_) rfl, hu.chg hc (fun g2 he hS => ?_)⟩
  · injection he with he
    injection he with he1
    omega
  · injection he with he
    injection he with he1
    omega
/-- What the document's Field takes for a field. -/
structure PlF (m : MV) (num t i : Int) : Prop where
  n : plN m t i ≤ 18446744073709551615
  s : (plS m t i).data.toList.length ≤ 8000
  one : t ≠ 10 → t ≠ 3 → 1 ≤ t → t ≤ 10 → partW m num t i = [(num, ((wireD t : Nat) : Int), plN m t i, (plS m t i).data.toList)]
  zig : t = 3 → partW m num t i = [(num, 0, (zig (wrap64 (plN m t i : Nat))).toNat, (plS m t i).data.toList)]
  lst : t = 10 → partW m num t i = m.l.map (fun s => (num, 2, 0, s.data.toList)) ∧ plN m t i = 0 ∧ plV m t = .slice m.A m.l.length m.c
end Go.Proofs.Ytmcebepfoleknaa
