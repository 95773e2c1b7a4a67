/- The inlet's tag: head, told, Tag. -/
import Derived.Test.YtolafcmaikjioaaProg
import Derived.Test.YtolafcmaikjioaaBase
import Derived.Test.YtolafcmaikjioaaInTold
import Derived.Deep.RegionHeld3
import Derived.StillTailTactics
set_option linter.unusedVariables false
namespace Go.Proofs.Ytolafcmaikjioaa
open Go.RowKit
/-- A tag: number, wire type, what is wrong, the place behind. -/
def rHead (bs : List UInt8) (p : Nat) : Int × Int × Nat × Nat :=
  if (M.get (bs.drop p)).2.2 = 0 then ((spl (M.get (bs.drop p)).1).1, (spl (M.get (bs.drop p)).1).2.1, (spl (M.get (bs.drop p)).1).2.2.toNat, p + (M.get (bs.drop p)).2.1) else (0, 0, (M.get (bs.drop p)).2.2, p)
theorem spl_err (n : Int) : 0 ≤ (spl n).2.2 ∧ (spl n).2.2 ≤ 7 ∧ ((spl n).2.2 ≠ 0 → (spl n).1 = 0 ∧ (spl n).2.1 = 0) := by
  unfold spl
  split
  · simp
  · split <;> simp
theorem cell_far2 {W : World} {g b o i j : Nat} {u v : Value} (h : b ≠ g) : (((W.setCell ⟨g, i, none⟩ u).setCell ⟨g, j, none⟩ v).drew).cell? ⟨b, o, none⟩ = W.cell? ⟨b, o, none⟩ :=
  World.cell?_of_block (a := ⟨b, o, none⟩) ((Below.heap_setCell _ ⟨g, j, none⟩ v b h).trans (Below.heap_setCell _ ⟨g, i, none⟩ u b h))
end Go.Proofs.Ytolafcmaikjioaa
