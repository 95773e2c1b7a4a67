/- The document's First and Check (layer 3). -/
import Derived.Test.YtapgjkbodfpdaaaDoorProg
import Derived.Test.YtapgjkbodfpdaaaDoorBase
import Derived.Test.YtapgjkbodfpdaaaDoorOne
set_option linter.unusedVariables false
namespace Go.Proofs.YtapgjkbodfpdaaaDoor
open Go.RowKit
theorem tl_le {k n l : Nat} {r : List UInt8} : (tl k n l r).1 ≤ r.length + 1 := by
  unfold tl
  split
  · simp
  · split
    · simp
    · split <;> simp; omega
theorem oneL_le (bs : List UInt8) : (oneL bs).1 ≤ bs.length := by
  cases bs with
  | nil => simp [oneL]
  | cons c r =>
    have h1 := @tl_le 1 (c.toNat - 192) 128 r
    have h2 := @tl_le 2 (c.toNat - 224) 2048 r
    have h3 := @tl_le 3 (c.toNat - 240) 65536 r
    simp only [oneL, List.length_cons]
    (repeat' split) <;> simp <;> omega
/-- The runes ahead of the first bytes that are none's, and where those begin. -/
def scan (bs : List UInt8) (at' : Nat) : List Nat × Option Nat :=
  match bs with
  | [] => ([], none)
  | c :: r =>
    if _h : (oneL (c :: r)).1 = 0 then ([], some at') else
    let q := scan ((c :: r).drop (oneL (c :: r)).1) (at' + (oneL (c :: r)).1)
    ((oneL (c :: r)).2 :: q.1, q.2)
  termination_by bs.length
  decreasing_by simp; omega
theorem scan_nil (a : Nat) : scan [] a = ([], none) := by rw [scan]
theorem scan_bad {c : UInt8} {r : List UInt8} {a : Nat} (h : (oneL (c :: r)).1 = 0) : scan (c :: r) a = ([], some a) := by rw [scan, dif_pos h]
theorem scan_more {c : UInt8} {r : List UInt8} {a : Nat} (h : (oneL (c :: r)).1 ≠ 0) : scan (c :: r) a = ((oneL (c :: r)).2 :: (scan ((c :: r).drop (oneL (c :: r)).1) (a + (oneL (c :: r)).1)).1, (scan ((c :: r).drop (oneL (c :: r)).1) (a + (oneL (c :: r)).1)).2) := by rw [scan, dif_neg h]
def placeI : Option Nat → Int
  | none => -1
  | some n => n

def checkI (n : Nat) (bad : Option Nat) (most : Int) : Int := if most < n then 2 else if bad.isSome then 9 else 0
end Go.Proofs.YtapgjkbodfpdaaaDoor
