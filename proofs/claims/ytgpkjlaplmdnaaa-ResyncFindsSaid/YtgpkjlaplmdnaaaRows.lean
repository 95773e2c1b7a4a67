/-
  No cell of these rows narrows 'for every input' (looked for: loops, veiled, ifaces, maps, wideKeys, modest, calm, conditions, laid).
  DERIVED. THE GIVEN ROWS OF THIS SEAT. 11 by the template 'for every input the law returns true; each argument reads behind the call as it read before'; 0 by the template 'total and deterministic' (their statements: YtgpkjlaplmdnaaaTotals.lean).
  GIVEN WITH THE SEED: the statements are not yours to turn. If you find one false, say at which input.
  Laid BY PROGRAM, IN A SANDBOX (cutbox-rows.mjs): the forced cells as the released guide's own fill.sh prints them over the translation a3e85a76f187372f… (all of the seat's roots in one cut). By AI agents, Wed Nov 11 2026. No macro, syntax, notation, axiom, sorry.
-/
import Derived.Test.YtgpkjlaplmdnaaaChecked
import GoSem.Claim
import GoSem.ClaimJoined
import GoSem.ClaimMapViews
import Derived.JoinedTies
import Derived.KernelRfl
namespace Go.Proofs.Ytgpkjlaplmdnaaa
/- THE CELL 'sum', in the pinned program and in every row, IS THE sha256 OF THE DUMP (.gsa) THAT YtgpkjlaplmdnaaaProg.lean LOADS. Nothing in Lean hashes anything: it is a label: what it is worth is what the hold of that sum in a sandbox is worth. -/
noncomputable def Try.pinned : Pinned := { name := "ytgpkjlaplmdnaaa", sum := "a3e85a76f187372f869515905bea0c60bef84cd9c8f4c99e5a489d95cbd8e75c", checked := Try.checked }
namespace Rows
def none {H : Type} : Left H := { results := [], args := [] }

/-- 'rescriptlaw13.FramePuts': WHATEVER THE INPUT: true; the input reads as it did. -/
def framePutsSpec : ChangeSpec := { name := "framePuts", fn := fun _ => fun
  | [d1, d2, d3] => { results := [.lit (.bool true)], args := [d1, d2, d3] }
  | _ => none }
def framePutsRow : OpenClaim := { program := "ytgpkjlaplmdnaaa", sum := "a3e85a76f187372f869515905bea0c60bef84cd9c8f4c99e5a489d95cbd8e75c", func := "rescript/rescriptlaw13.FramePuts", spec := "framePuts", unfollowed := true, recurses := true, apart := false }
def FramePutsSaid : Prop := framePutsRow.holds Try.pinned (OpenSpec.ofChange framePutsSpec)

/-- ITS FALSE NEIGHBOUR: 'it returns false'. Refute it at one input. -/
def framePutsWrong : ChangeSpec := { name := "framePuts", fn := fun _ => fun
  | [d1, d2, d3] => { results := [.lit (.bool false)], args := [d1, d2, d3] }
  | _ => none }
def FramePutsWrongFalsely : Prop := framePutsRow.holds Try.pinned (OpenSpec.ofChange framePutsWrong)

/-- 'rescriptlaw13.FrameReads': WHATEVER THE INPUT: true; the input reads as it did. -/
def frameReadsSpec : ChangeSpec := { name := "frameReads", fn := fun _ => fun
  | [d] => { results := [.lit (.bool true)], args := [d] }
  | _ => none }
def frameReadsRow : OpenClaim := { program := "ytgpkjlaplmdnaaa", sum := "a3e85a76f187372f869515905bea0c60bef84cd9c8f4c99e5a489d95cbd8e75c", func := "rescript/rescriptlaw13.FrameReads", spec := "frameReads", unfollowed := true, recurses := true, apart := false }
def FrameReadsSaid : Prop := frameReadsRow.holds Try.pinned (OpenSpec.ofChange frameReadsSpec)

/-- ITS FALSE NEIGHBOUR: 'it returns false'. Refute it at one input. -/
def frameReadsWrong : ChangeSpec := { name := "frameReads", fn := fun _ => fun
  | [d] => { results := [.lit (.bool false)], args := [d] }
  | _ => none }
def FrameReadsWrongFalsely : Prop := frameReadsRow.holds Try.pinned (OpenSpec.ofChange frameReadsWrong)

/-- 'rescriptlaw13.FrameBurst': WHATEVER THE INPUT: true; the input reads as it did. -/
def frameBurstSpec : ChangeSpec := { name := "frameBurst", fn := fun _ => fun
  | [d1, d2, d3] => { results := [.lit (.bool true)], args := [d1, d2, d3] }
  | _ => none }
def frameBurstRow : OpenClaim := { program := "ytgpkjlaplmdnaaa", sum := "a3e85a76f187372f869515905bea0c60bef84cd9c8f4c99e5a489d95cbd8e75c", func := "rescript/rescriptlaw13.FrameBurst", spec := "frameBurst", unfollowed := true, recurses := true, apart := false }
def FrameBurstSaid : Prop := frameBurstRow.holds Try.pinned (OpenSpec.ofChange frameBurstSpec)

/-- ITS FALSE NEIGHBOUR: 'it returns false'. Refute it at one input. -/
def frameBurstWrong : ChangeSpec := { name := "frameBurst", fn := fun _ => fun
  | [d1, d2, d3] => { results := [.lit (.bool false)], args := [d1, d2, d3] }
  | _ => none }
def FrameBurstWrongFalsely : Prop := frameBurstRow.holds Try.pinned (OpenSpec.ofChange frameBurstWrong)

/-- 'rescriptlaw14.ResyncFinds': WHATEVER THE INPUT: true; the input reads as it did. -/
def resyncFindsSpec : ChangeSpec := { name := "resyncFinds", fn := fun _ => fun
  | [d] => { results := [.lit (.bool true)], args := [d] }
  | _ => none }
def resyncFindsRow : OpenClaim := { program := "ytgpkjlaplmdnaaa", sum := "a3e85a76f187372f869515905bea0c60bef84cd9c8f4c99e5a489d95cbd8e75c", func := "rescript/rescriptlaw14.ResyncFinds", spec := "resyncFinds", unfollowed := true, recurses := true, apart := false }
def ResyncFindsSaid : Prop := resyncFindsRow.holds Try.pinned (OpenSpec.ofChange resyncFindsSpec)

/-- ITS FALSE NEIGHBOUR: 'it returns false'. Refute it at one input. -/
def resyncFindsWrong : ChangeSpec := { name := "resyncFinds", fn := fun _ => fun
  | [d] => { results := [.lit (.bool false)], args := [d] }
  | _ => none }
def ResyncFindsWrongFalsely : Prop := resyncFindsRow.holds Try.pinned (OpenSpec.ofChange resyncFindsWrong)

/-- 'rescriptlaw14.ResyncStands': WHATEVER THE INPUT: true; the input reads as it did. -/
def resyncStandsSpec : ChangeSpec := { name := "resyncStands", fn := fun _ => fun
  | [d] => { results := [.lit (.bool true)], args := [d] }
  | _ => none }
def resyncStandsRow : OpenClaim := { program := "ytgpkjlaplmdnaaa", sum := "a3e85a76f187372f869515905bea0c60bef84cd9c8f4c99e5a489d95cbd8e75c", func := "rescript/rescriptlaw14.ResyncStands", spec := "resyncStands", unfollowed := true, recurses := true, apart := false }
def ResyncStandsSaid : Prop := resyncStandsRow.holds Try.pinned (OpenSpec.ofChange resyncStandsSpec)

/-- ITS FALSE NEIGHBOUR: 'it returns false'. Refute it at one input. -/
def resyncStandsWrong : ChangeSpec := { name := "resyncStands", fn := fun _ => fun
  | [d] => { results := [.lit (.bool false)], args := [d] }
  | _ => none }
def ResyncStandsWrongFalsely : Prop := resyncStandsRow.holds Try.pinned (OpenSpec.ofChange resyncStandsWrong)

/-- 'rescriptlaw14.ResyncGrows': WHATEVER THE INPUT: true; the input reads as it did. -/
def resyncGrowsSpec : ChangeSpec := { name := "resyncGrows", fn := fun _ => fun
  | [d1, d2] => { results := [.lit (.bool true)], args := [d1, d2] }
  | _ => none }
def resyncGrowsRow : OpenClaim := { program := "ytgpkjlaplmdnaaa", sum := "a3e85a76f187372f869515905bea0c60bef84cd9c8f4c99e5a489d95cbd8e75c", func := "rescript/rescriptlaw14.ResyncGrows", spec := "resyncGrows", unfollowed := true, recurses := true, apart := false }
def ResyncGrowsSaid : Prop := resyncGrowsRow.holds Try.pinned (OpenSpec.ofChange resyncGrowsSpec)

/-- ITS FALSE NEIGHBOUR: 'it returns false'. Refute it at one input. -/
def resyncGrowsWrong : ChangeSpec := { name := "resyncGrows", fn := fun _ => fun
  | [d1, d2] => { results := [.lit (.bool false)], args := [d1, d2] }
  | _ => none }
def ResyncGrowsWrongFalsely : Prop := resyncGrowsRow.holds Try.pinned (OpenSpec.ofChange resyncGrowsWrong)

/-- 'rescriptlaw14.ResyncLoses': WHATEVER THE INPUT: true; the input reads as it did. -/
def resyncLosesSpec : ChangeSpec := { name := "resyncLoses", fn := fun _ => fun
  | [d] => { results := [.lit (.bool true)], args := [d] }
  | _ => none }
def resyncLosesRow : OpenClaim := { program := "ytgpkjlaplmdnaaa", sum := "a3e85a76f187372f869515905bea0c60bef84cd9c8f4c99e5a489d95cbd8e75c", func := "rescript/rescriptlaw14.ResyncLoses", spec := "resyncLoses", unfollowed := true, recurses := true, apart := false }
def ResyncLosesSaid : Prop := resyncLosesRow.holds Try.pinned (OpenSpec.ofChange resyncLosesSpec)

/-- ITS FALSE NEIGHBOUR: 'it returns false'. Refute it at one input. -/
def resyncLosesWrong : ChangeSpec := { name := "resyncLoses", fn := fun _ => fun
  | [d] => { results := [.lit (.bool false)], args := [d] }
  | _ => none }
def ResyncLosesWrongFalsely : Prop := resyncLosesRow.holds Try.pinned (OpenSpec.ofChange resyncLosesWrong)

/-- 'rescriptlaw14.ResyncJunk': WHATEVER THE INPUT: true; the input reads as it did. -/
def resyncJunkSpec : ChangeSpec := { name := "resyncJunk", fn := fun _ => fun
  | [d1, d2] => { results := [.lit (.bool true)], args := [d1, d2] }
  | _ => none }
def resyncJunkRow : OpenClaim := { program := "ytgpkjlaplmdnaaa", sum := "a3e85a76f187372f869515905bea0c60bef84cd9c8f4c99e5a489d95cbd8e75c", func := "rescript/rescriptlaw14.ResyncJunk", spec := "resyncJunk", unfollowed := true, recurses := true, apart := false }
def ResyncJunkSaid : Prop := resyncJunkRow.holds Try.pinned (OpenSpec.ofChange resyncJunkSpec)

/-- ITS FALSE NEIGHBOUR: 'it returns false'. Refute it at one input. -/
def resyncJunkWrong : ChangeSpec := { name := "resyncJunk", fn := fun _ => fun
  | [d1, d2] => { results := [.lit (.bool false)], args := [d1, d2] }
  | _ => none }
def ResyncJunkWrongFalsely : Prop := resyncJunkRow.holds Try.pinned (OpenSpec.ofChange resyncJunkWrong)

/-- 'rescriptlaw14.ResyncGaps': WHATEVER THE INPUT: true; the input reads as it did. -/
def resyncGapsSpec : ChangeSpec := { name := "resyncGaps", fn := fun _ => fun
  | [d] => { results := [.lit (.bool true)], args := [d] }
  | _ => none }
def resyncGapsRow : OpenClaim := { program := "ytgpkjlaplmdnaaa", sum := "a3e85a76f187372f869515905bea0c60bef84cd9c8f4c99e5a489d95cbd8e75c", func := "rescript/rescriptlaw14.ResyncGaps", spec := "resyncGaps", unfollowed := true, recurses := true, apart := false }
def ResyncGapsSaid : Prop := resyncGapsRow.holds Try.pinned (OpenSpec.ofChange resyncGapsSpec)

/-- ITS FALSE NEIGHBOUR: 'it returns false'. Refute it at one input. -/
def resyncGapsWrong : ChangeSpec := { name := "resyncGaps", fn := fun _ => fun
  | [d] => { results := [.lit (.bool false)], args := [d] }
  | _ => none }
def ResyncGapsWrongFalsely : Prop := resyncGapsRow.holds Try.pinned (OpenSpec.ofChange resyncGapsWrong)

/-- 'rescripttop.WholeNested': WHATEVER THE INPUT: true; the input reads as it did. -/
def wholeNestedSpec : ChangeSpec := { name := "wholeNested", fn := fun _ => fun
  | [d1, d2] => { results := [.lit (.bool true)], args := [d1, d2] }
  | _ => none }
def wholeNestedRow : OpenClaim := { program := "ytgpkjlaplmdnaaa", sum := "a3e85a76f187372f869515905bea0c60bef84cd9c8f4c99e5a489d95cbd8e75c", func := "rescript/rescripttop.WholeNested", spec := "wholeNested", unfollowed := true, recurses := true, apart := false }
def WholeNestedSaid : Prop := wholeNestedRow.holds Try.pinned (OpenSpec.ofChange wholeNestedSpec)

/-- ITS FALSE NEIGHBOUR: 'it returns false'. Refute it at one input. -/
def wholeNestedWrong : ChangeSpec := { name := "wholeNested", fn := fun _ => fun
  | [d1, d2] => { results := [.lit (.bool false)], args := [d1, d2] }
  | _ => none }
def WholeNestedWrongFalsely : Prop := wholeNestedRow.holds Try.pinned (OpenSpec.ofChange wholeNestedWrong)

/-- 'rescripttop.WholeSplit': WHATEVER THE INPUT: true; the input reads as it did. -/
def wholeSplitSpec : ChangeSpec := { name := "wholeSplit", fn := fun _ => fun
  | [d1, d2] => { results := [.lit (.bool true)], args := [d1, d2] }
  | _ => none }
def wholeSplitRow : OpenClaim := { program := "ytgpkjlaplmdnaaa", sum := "a3e85a76f187372f869515905bea0c60bef84cd9c8f4c99e5a489d95cbd8e75c", func := "rescript/rescripttop.WholeSplit", spec := "wholeSplit", unfollowed := true, recurses := true, apart := false }
def WholeSplitSaid : Prop := wholeSplitRow.holds Try.pinned (OpenSpec.ofChange wholeSplitSpec)

/-- ITS FALSE NEIGHBOUR: 'it returns false'. Refute it at one input. -/
def wholeSplitWrong : ChangeSpec := { name := "wholeSplit", fn := fun _ => fun
  | [d1, d2] => { results := [.lit (.bool false)], args := [d1, d2] }
  | _ => none }
def WholeSplitWrongFalsely : Prop := wholeSplitRow.holds Try.pinned (OpenSpec.ofChange wholeSplitWrong)

/- THE SECOND FORM. 'bulk': how many values and letters a reading holds, each counted each time it is reached (what is shared counts as often as it is met; a slice's spare places count too). A statement '..UptoSaid' is the law's where the arguments, and the package variables that the reading takes, are together of bulk at most 1048576: NARROWER than '..Said'. Prove '..Said' where nothing that the law and all that it calls make is longer than what came in: it says more and counts as full. Else prove '..UptoSaid'. A law counts once. -/
mutual
def uptoBulk {H : Type} : DataW H → Nat
  | .lit (.string bytes) => bytes.length + 1
  | .lit _ => 1
  | .nil => 1
  | .ptr d => uptoBulk d + 1
  | .slice elems spare => uptoBulkAll elems + uptoBulkAll spare + 1
  | .agg parts => uptoBulkAll parts + 1
  | .iface _ d => uptoBulk d + 1
  | .map entries => uptoBulkEntries entries + 1
  | .held _ => 1
def uptoBulkAll {H : Type} : List (DataW H) → Nat
  | [] => 0
  | d :: r => uptoBulk d + uptoBulkAll r
def uptoBulkEntries {H : Type} : List (Lit × DataW H) → Nat
  | [] => 0
  | x :: r => uptoBulkEntry x + uptoBulkEntries r
def uptoBulkEntry {H : Type} : Lit × DataW H → Nat
  | (.string bytes, d) => bytes.length + uptoBulk d + 1
  | (_, d) => uptoBulk d + 1
 end
def uptoSmall : (H : Type) → List (DataW H) → Bool := fun _ ds => decide (uptoBulkAll ds ≤ 1048576)
def OpenSpec.upto (s : _root_.Go.ChangeSpec) : _root_.Go.OpenSpec := { _root_.Go.OpenSpec.ofChange s with cond := some uptoSmall }

/-- 'rescriptlaw13.FramePuts', WHERE WHAT IT READS IS OF BULK AT MOST 1048576: true; the input reads as it did. -/
def framePutsUptoRow : OpenClaim := { program := "ytgpkjlaplmdnaaa", sum := "a3e85a76f187372f869515905bea0c60bef84cd9c8f4c99e5a489d95cbd8e75c", func := "rescript/rescriptlaw13.FramePuts", spec := "framePuts", unfollowed := true, recurses := true, apart := false, narrowed := true }
def FramePutsUptoSaid : Prop := framePutsUptoRow.holds Try.pinned (OpenSpec.upto framePutsSpec)

/-- 'rescriptlaw13.FrameReads', WHERE WHAT IT READS IS OF BULK AT MOST 1048576: true; the input reads as it did. -/
def frameReadsUptoRow : OpenClaim := { program := "ytgpkjlaplmdnaaa", sum := "a3e85a76f187372f869515905bea0c60bef84cd9c8f4c99e5a489d95cbd8e75c", func := "rescript/rescriptlaw13.FrameReads", spec := "frameReads", unfollowed := true, recurses := true, apart := false, narrowed := true }
def FrameReadsUptoSaid : Prop := frameReadsUptoRow.holds Try.pinned (OpenSpec.upto frameReadsSpec)

/-- 'rescriptlaw13.FrameBurst', WHERE WHAT IT READS IS OF BULK AT MOST 1048576: true; the input reads as it did. -/
def frameBurstUptoRow : OpenClaim := { program := "ytgpkjlaplmdnaaa", sum := "a3e85a76f187372f869515905bea0c60bef84cd9c8f4c99e5a489d95cbd8e75c", func := "rescript/rescriptlaw13.FrameBurst", spec := "frameBurst", unfollowed := true, recurses := true, apart := false, narrowed := true }
def FrameBurstUptoSaid : Prop := frameBurstUptoRow.holds Try.pinned (OpenSpec.upto frameBurstSpec)

/-- 'rescriptlaw14.ResyncFinds', WHERE WHAT IT READS IS OF BULK AT MOST 1048576: true; the input reads as it did. -/
def resyncFindsUptoRow : OpenClaim := { program := "ytgpkjlaplmdnaaa", sum := "a3e85a76f187372f869515905bea0c60bef84cd9c8f4c99e5a489d95cbd8e75c", func := "rescript/rescriptlaw14.ResyncFinds", spec := "resyncFinds", unfollowed := true, recurses := true, apart := false, narrowed := true }
def ResyncFindsUptoSaid : Prop := resyncFindsUptoRow.holds Try.pinned (OpenSpec.upto resyncFindsSpec)

/-- 'rescriptlaw14.ResyncStands', WHERE WHAT IT READS IS OF BULK AT MOST 1048576: true; the input reads as it did. -/
def resyncStandsUptoRow : OpenClaim := { program := "ytgpkjlaplmdnaaa", sum := "a3e85a76f187372f869515905bea0c60bef84cd9c8f4c99e5a489d95cbd8e75c", func := "rescript/rescriptlaw14.ResyncStands", spec := "resyncStands", unfollowed := true, recurses := true, apart := false, narrowed := true }
def ResyncStandsUptoSaid : Prop := resyncStandsUptoRow.holds Try.pinned (OpenSpec.upto resyncStandsSpec)

/-- 'rescriptlaw14.ResyncGrows', WHERE WHAT IT READS IS OF BULK AT MOST 1048576: true; the input reads as it did. -/
def resyncGrowsUptoRow : OpenClaim := { program := "ytgpkjlaplmdnaaa", sum := "a3e85a76f187372f869515905bea0c60bef84cd9c8f4c99e5a489d95cbd8e75c", func := "rescript/rescriptlaw14.ResyncGrows", spec := "resyncGrows", unfollowed := true, recurses := true, apart := false, narrowed := true }
def ResyncGrowsUptoSaid : Prop := resyncGrowsUptoRow.holds Try.pinned (OpenSpec.upto resyncGrowsSpec)

/-- 'rescriptlaw14.ResyncLoses', WHERE WHAT IT READS IS OF BULK AT MOST 1048576: true; the input reads as it did. -/
def resyncLosesUptoRow : OpenClaim := { program := "ytgpkjlaplmdnaaa", sum := "a3e85a76f187372f869515905bea0c60bef84cd9c8f4c99e5a489d95cbd8e75c", func := "rescript/rescriptlaw14.ResyncLoses", spec := "resyncLoses", unfollowed := true, recurses := true, apart := false, narrowed := true }
def ResyncLosesUptoSaid : Prop := resyncLosesUptoRow.holds Try.pinned (OpenSpec.upto resyncLosesSpec)

/-- 'rescriptlaw14.ResyncJunk', WHERE WHAT IT READS IS OF BULK AT MOST 1048576: true; the input reads as it did. -/
def resyncJunkUptoRow : OpenClaim := { program := "ytgpkjlaplmdnaaa", sum := "a3e85a76f187372f869515905bea0c60bef84cd9c8f4c99e5a489d95cbd8e75c", func := "rescript/rescriptlaw14.ResyncJunk", spec := "resyncJunk", unfollowed := true, recurses := true, apart := false, narrowed := true }
def ResyncJunkUptoSaid : Prop := resyncJunkUptoRow.holds Try.pinned (OpenSpec.upto resyncJunkSpec)

/-- 'rescriptlaw14.ResyncGaps', WHERE WHAT IT READS IS OF BULK AT MOST 1048576: true; the input reads as it did. -/
def resyncGapsUptoRow : OpenClaim := { program := "ytgpkjlaplmdnaaa", sum := "a3e85a76f187372f869515905bea0c60bef84cd9c8f4c99e5a489d95cbd8e75c", func := "rescript/rescriptlaw14.ResyncGaps", spec := "resyncGaps", unfollowed := true, recurses := true, apart := false, narrowed := true }
def ResyncGapsUptoSaid : Prop := resyncGapsUptoRow.holds Try.pinned (OpenSpec.upto resyncGapsSpec)

/-- 'rescripttop.WholeNested', WHERE WHAT IT READS IS OF BULK AT MOST 1048576: true; the input reads as it did. -/
def wholeNestedUptoRow : OpenClaim := { program := "ytgpkjlaplmdnaaa", sum := "a3e85a76f187372f869515905bea0c60bef84cd9c8f4c99e5a489d95cbd8e75c", func := "rescript/rescripttop.WholeNested", spec := "wholeNested", unfollowed := true, recurses := true, apart := false, narrowed := true }
def WholeNestedUptoSaid : Prop := wholeNestedUptoRow.holds Try.pinned (OpenSpec.upto wholeNestedSpec)

/-- 'rescripttop.WholeSplit', WHERE WHAT IT READS IS OF BULK AT MOST 1048576: true; the input reads as it did. -/
def wholeSplitUptoRow : OpenClaim := { program := "ytgpkjlaplmdnaaa", sum := "a3e85a76f187372f869515905bea0c60bef84cd9c8f4c99e5a489d95cbd8e75c", func := "rescript/rescripttop.WholeSplit", spec := "wholeSplit", unfollowed := true, recurses := true, apart := false, narrowed := true }
def WholeSplitUptoSaid : Prop := wholeSplitUptoRow.holds Try.pinned (OpenSpec.upto wholeSplitSpec)

end Rows
end Go.Proofs.Ytgpkjlaplmdnaaa
