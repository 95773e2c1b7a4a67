/- utf.width, utf.put: walks. -/
import Derived.Test.YtpicgemjfodlcaaDoorProg
import Derived.Test.YtpicgemjfodlcaaDoorBase
import Derived.Test.YtpicgemjfodlcaaDoorScan
import Derived.WalkSmall
set_option linter.unusedVariables false
namespace Go.Proofs.YtpicgemjfodlcaaDoor
open Go.RowKit
/-- The tables of the package utf lie as they are laid. -/
def Tab (w : World) : Prop :=
  Rd w (some ⟨0, 0, none⟩) [.int .i32 127, .int .i32 2047, .int .i32 65535, .int .i32 1114111] ∧
  Rd w (some ⟨1, 0, none⟩) [.int .u8 0, .int .u8 192, .int .u8 224, .int .u8 240]
theorem Tab.below {w w' : World} (h : Tab w) (hb : Below w.heap.size w w') : Tab w' := ⟨h.1.below hb, h.2.below hb⟩
theorem Rd.cell0 {w : World} {g : Nat} {xs : List Value} (h : Rd w (some ⟨g, 0, none⟩) xs) (j : Nat) {u : Value} (hj : xs[j]? = some u) : w.cell? ⟨g, j, none⟩ = some u := by
  obtain ⟨b, off, he, _, hc⟩ := h j u hj
  injection he with he; injection he with h1 h2; subst h1; subst h2
  rwa [Nat.zero_add] at hc
theorem Rd.lt0 {w : World} {g : Nat} {xs : List Value} {u : Value} (h : Rd w (some ⟨g, 0, none⟩) (u :: xs)) : g < w.heap.size := by
  obtain ⟨b, off, he, hl, hc⟩ := h 0 u rfl
  injection he with he; injection he with h1 h2; subst h1; exact hl
/-- How many bytes a rune has; 0 of what is none. -/
def widN (n : Int) : Nat := if runeI n = true then (runeB n.toNat).length else 0
end Go.Proofs.YtpicgemjfodlcaaDoor
