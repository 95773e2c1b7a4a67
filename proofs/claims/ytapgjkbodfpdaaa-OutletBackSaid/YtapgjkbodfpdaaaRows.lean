/-
  No cell of these rows narrows 'for every input' (looked for: loops, veiled, ifaces, maps, wideKeys, modest, calm, conditions, laid).
  DERIVED. THE GIVEN ROWS OF THIS SEAT. 9 by the template 'for every input the law returns true; each argument reads behind the call as it read before'; 0 by the template 'total and deterministic' (their statements: YtapgjkbodfpdaaaTotals.lean).
  GIVEN WITH THE SEED: the statements are not yours to turn. If you find one false, say at which input.
  Laid BY PROGRAM, IN A SANDBOX (cutbox-rows.mjs): the forced cells as the released guide's own fill.sh prints them over the translation ad56fd9928fad8eb… (all of the seat's roots in one cut). By AI agents, Wed Nov 11 2026. No macro, syntax, notation, axiom, sorry.
-/
import Derived.Test.YtapgjkbodfpdaaaChecked
import GoSem.Claim
import GoSem.ClaimJoined
import GoSem.ClaimMapViews
import Derived.JoinedTies
import Derived.KernelRfl
namespace Go.Proofs.Ytapgjkbodfpdaaa
/- THE CELL 'sum', in the pinned program and in every row, IS THE sha256 OF THE DUMP (.gsa) THAT YtapgjkbodfpdaaaProg.lean LOADS. Nothing in Lean hashes anything: it is a label: what it is worth is what the hold of that sum in a sandbox is worth. -/
noncomputable def Try.pinned : Pinned := { name := "ytapgjkbodfpdaaa", sum := "ad56fd9928fad8ebc948bef790a182a073afb8b602f6c3416a9b5b1007c2cde5", checked := Try.checked }
namespace Rows
def none {H : Type} : Left H := { results := [], args := [] }

/-- 'rescriptlaw05.OutletWrites': WHATEVER THE INPUT: true; the input reads as it did. -/
def outletWritesSpec : ChangeSpec := { name := "outletWrites", fn := fun _ => fun
  | [d1, d2] => { results := [.lit (.bool true)], args := [d1, d2] }
  | _ => none }
def outletWritesRow : OpenClaim := { program := "ytapgjkbodfpdaaa", sum := "ad56fd9928fad8ebc948bef790a182a073afb8b602f6c3416a9b5b1007c2cde5", func := "rescript/rescriptlaw05.OutletWrites", spec := "outletWrites", unfollowed := true, recurses := true, apart := false }
def OutletWritesSaid : Prop := outletWritesRow.holds Try.pinned (OpenSpec.ofChange outletWritesSpec)

/-- ITS FALSE NEIGHBOUR: 'it returns false'. Refute it at one input. -/
def outletWritesWrong : ChangeSpec := { name := "outletWrites", fn := fun _ => fun
  | [d1, d2] => { results := [.lit (.bool false)], args := [d1, d2] }
  | _ => none }
def OutletWritesWrongFalsely : Prop := outletWritesRow.holds Try.pinned (OpenSpec.ofChange outletWritesWrong)

/-- 'rescriptlaw05.OutletAll': WHATEVER THE INPUT: true; the input reads as it did. -/
def outletAllSpec : ChangeSpec := { name := "outletAll", fn := fun _ => fun
  | [d1, d2, d3] => { results := [.lit (.bool true)], args := [d1, d2, d3] }
  | _ => none }
def outletAllRow : OpenClaim := { program := "ytapgjkbodfpdaaa", sum := "ad56fd9928fad8ebc948bef790a182a073afb8b602f6c3416a9b5b1007c2cde5", func := "rescript/rescriptlaw05.OutletAll", spec := "outletAll", unfollowed := true, recurses := true, apart := false }
def OutletAllSaid : Prop := outletAllRow.holds Try.pinned (OpenSpec.ofChange outletAllSpec)

/-- ITS FALSE NEIGHBOUR: 'it returns false'. Refute it at one input. -/
def outletAllWrong : ChangeSpec := { name := "outletAll", fn := fun _ => fun
  | [d1, d2, d3] => { results := [.lit (.bool false)], args := [d1, d2, d3] }
  | _ => none }
def OutletAllWrongFalsely : Prop := outletAllRow.holds Try.pinned (OpenSpec.ofChange outletAllWrong)

/-- 'rescriptlaw05.OutletBack': WHATEVER THE INPUT: true; the input reads as it did. -/
def outletBackSpec : ChangeSpec := { name := "outletBack", fn := fun _ => fun
  | [d] => { results := [.lit (.bool true)], args := [d] }
  | _ => none }
def outletBackRow : OpenClaim := { program := "ytapgjkbodfpdaaa", sum := "ad56fd9928fad8ebc948bef790a182a073afb8b602f6c3416a9b5b1007c2cde5", func := "rescript/rescriptlaw05.OutletBack", spec := "outletBack", unfollowed := true, recurses := true, apart := false }
def OutletBackSaid : Prop := outletBackRow.holds Try.pinned (OpenSpec.ofChange outletBackSpec)

/-- ITS FALSE NEIGHBOUR: 'it returns false'. Refute it at one input. -/
def outletBackWrong : ChangeSpec := { name := "outletBack", fn := fun _ => fun
  | [d] => { results := [.lit (.bool false)], args := [d] }
  | _ => none }
def OutletBackWrongFalsely : Prop := outletBackRow.holds Try.pinned (OpenSpec.ofChange outletBackWrong)

/-- 'rescriptlaw06.SkipReads': WHATEVER THE INPUT: true; the input reads as it did. -/
def skipReadsSpec : ChangeSpec := { name := "skipReads", fn := fun _ => fun
  | [d] => { results := [.lit (.bool true)], args := [d] }
  | _ => none }
def skipReadsRow : OpenClaim := { program := "ytapgjkbodfpdaaa", sum := "ad56fd9928fad8ebc948bef790a182a073afb8b602f6c3416a9b5b1007c2cde5", func := "rescript/rescriptlaw06.SkipReads", spec := "skipReads", unfollowed := true, recurses := true, apart := false }
def SkipReadsSaid : Prop := skipReadsRow.holds Try.pinned (OpenSpec.ofChange skipReadsSpec)

/-- ITS FALSE NEIGHBOUR: 'it returns false'. Refute it at one input. -/
def skipReadsWrong : ChangeSpec := { name := "skipReads", fn := fun _ => fun
  | [d] => { results := [.lit (.bool false)], args := [d] }
  | _ => none }
def SkipReadsWrongFalsely : Prop := skipReadsRow.holds Try.pinned (OpenSpec.ofChange skipReadsWrong)

/-- 'rescriptlaw06.SkipEnds': WHATEVER THE INPUT: true; the input reads as it did. -/
def skipEndsSpec : ChangeSpec := { name := "skipEnds", fn := fun _ => fun
  | [d1, d2] => { results := [.lit (.bool true)], args := [d1, d2] }
  | _ => none }
def skipEndsRow : OpenClaim := { program := "ytapgjkbodfpdaaa", sum := "ad56fd9928fad8ebc948bef790a182a073afb8b602f6c3416a9b5b1007c2cde5", func := "rescript/rescriptlaw06.SkipEnds", spec := "skipEnds", unfollowed := true, recurses := true, apart := false }
def SkipEndsSaid : Prop := skipEndsRow.holds Try.pinned (OpenSpec.ofChange skipEndsSpec)

/-- ITS FALSE NEIGHBOUR: 'it returns false'. Refute it at one input. -/
def skipEndsWrong : ChangeSpec := { name := "skipEnds", fn := fun _ => fun
  | [d1, d2] => { results := [.lit (.bool false)], args := [d1, d2] }
  | _ => none }
def SkipEndsWrongFalsely : Prop := skipEndsRow.holds Try.pinned (OpenSpec.ofChange skipEndsWrong)

/-- 'rescriptlaw06.SkipPuts': WHATEVER THE INPUT: true; the input reads as it did. -/
def skipPutsSpec : ChangeSpec := { name := "skipPuts", fn := fun _ => fun
  | [d] => { results := [.lit (.bool true)], args := [d] }
  | _ => none }
def skipPutsRow : OpenClaim := { program := "ytapgjkbodfpdaaa", sum := "ad56fd9928fad8ebc948bef790a182a073afb8b602f6c3416a9b5b1007c2cde5", func := "rescript/rescriptlaw06.SkipPuts", spec := "skipPuts", unfollowed := true, recurses := true, apart := false }
def SkipPutsSaid : Prop := skipPutsRow.holds Try.pinned (OpenSpec.ofChange skipPutsSpec)

/-- ITS FALSE NEIGHBOUR: 'it returns false'. Refute it at one input. -/
def skipPutsWrong : ChangeSpec := { name := "skipPuts", fn := fun _ => fun
  | [d] => { results := [.lit (.bool false)], args := [d] }
  | _ => none }
def SkipPutsWrongFalsely : Prop := skipPutsRow.holds Try.pinned (OpenSpec.ofChange skipPutsWrong)

/-- 'rescriptlaw06.SkipAgain': WHATEVER THE INPUT: true; the input reads as it did. -/
def skipAgainSpec : ChangeSpec := { name := "skipAgain", fn := fun _ => fun
  | [d] => { results := [.lit (.bool true)], args := [d] }
  | _ => none }
def skipAgainRow : OpenClaim := { program := "ytapgjkbodfpdaaa", sum := "ad56fd9928fad8ebc948bef790a182a073afb8b602f6c3416a9b5b1007c2cde5", func := "rescript/rescriptlaw06.SkipAgain", spec := "skipAgain", unfollowed := true, recurses := true, apart := false }
def SkipAgainSaid : Prop := skipAgainRow.holds Try.pinned (OpenSpec.ofChange skipAgainSpec)

/-- ITS FALSE NEIGHBOUR: 'it returns false'. Refute it at one input. -/
def skipAgainWrong : ChangeSpec := { name := "skipAgain", fn := fun _ => fun
  | [d] => { results := [.lit (.bool false)], args := [d] }
  | _ => none }
def SkipAgainWrongFalsely : Prop := skipAgainRow.holds Try.pinned (OpenSpec.ofChange skipAgainWrong)

/-- 'rescriptlaw06.SkipChooses': WHATEVER THE INPUT: true; the input reads as it did. -/
def skipChoosesSpec : ChangeSpec := { name := "skipChooses", fn := fun _ => fun
  | [d1, d2, d3] => { results := [.lit (.bool true)], args := [d1, d2, d3] }
  | _ => none }
def skipChoosesRow : OpenClaim := { program := "ytapgjkbodfpdaaa", sum := "ad56fd9928fad8ebc948bef790a182a073afb8b602f6c3416a9b5b1007c2cde5", func := "rescript/rescriptlaw06.SkipChooses", spec := "skipChooses", unfollowed := true, recurses := true, apart := false }
def SkipChoosesSaid : Prop := skipChoosesRow.holds Try.pinned (OpenSpec.ofChange skipChoosesSpec)

/-- ITS FALSE NEIGHBOUR: 'it returns false'. Refute it at one input. -/
def skipChoosesWrong : ChangeSpec := { name := "skipChooses", fn := fun _ => fun
  | [d1, d2, d3] => { results := [.lit (.bool false)], args := [d1, d2, d3] }
  | _ => none }
def SkipChoosesWrongFalsely : Prop := skipChoosesRow.holds Try.pinned (OpenSpec.ofChange skipChoosesWrong)

/-- 'rescripttop.WholePut': WHATEVER THE INPUT: true; the input reads as it did. -/
def wholePutSpec : ChangeSpec := { name := "wholePut", fn := fun _ => fun
  | [d1, d2] => { results := [.lit (.bool true)], args := [d1, d2] }
  | _ => none }
def wholePutRow : OpenClaim := { program := "ytapgjkbodfpdaaa", sum := "ad56fd9928fad8ebc948bef790a182a073afb8b602f6c3416a9b5b1007c2cde5", func := "rescript/rescripttop.WholePut", spec := "wholePut", unfollowed := true, recurses := true, apart := false }
def WholePutSaid : Prop := wholePutRow.holds Try.pinned (OpenSpec.ofChange wholePutSpec)

/-- ITS FALSE NEIGHBOUR: 'it returns false'. Refute it at one input. -/
def wholePutWrong : ChangeSpec := { name := "wholePut", fn := fun _ => fun
  | [d1, d2] => { results := [.lit (.bool false)], args := [d1, d2] }
  | _ => none }
def WholePutWrongFalsely : Prop := wholePutRow.holds Try.pinned (OpenSpec.ofChange wholePutWrong)

/- THE SECOND FORM. 'bulk': how many values and letters a reading holds, each counted each time it is reached (what is shared counts as often as it is met; a slice's spare places count too). A statement '..UptoSaid' is the law's where the arguments, and the package variables that the reading takes, are together of bulk at most 1048576: NARROWER than '..Said'. Prove '..Said' where nothing that the law and all that it calls make is longer than what came in: it says more and counts as full. Else prove '..UptoSaid'. A law counts once. -/
mutual
def uptoBulk {H : Type} : DataW H → Nat
  | .lit (.string bytes) => bytes.length + 1
  | .lit _ => 1
  | .nil => 1
  | .ptr d => uptoBulk d + 1
  | .slice elems spare => uptoBulkAll elems + uptoBulkAll spare + 1
  | .agg parts => uptoBulkAll parts + 1
  | .iface _ d => uptoBulk d + 1
  | .map entries => uptoBulkEntries entries + 1
  | .held _ => 1
def uptoBulkAll {H : Type} : List (DataW H) → Nat
  | [] => 0
  | d :: r => uptoBulk d + uptoBulkAll r
def uptoBulkEntries {H : Type} : List (Lit × DataW H) → Nat
  | [] => 0
  | x :: r => uptoBulkEntry x + uptoBulkEntries r
def uptoBulkEntry {H : Type} : Lit × DataW H → Nat
  | (.string bytes, d) => bytes.length + uptoBulk d + 1
  | (_, d) => uptoBulk d + 1
 end
def uptoSmall : (H : Type) → List (DataW H) → Bool := fun _ ds => decide (uptoBulkAll ds ≤ 1048576)
def OpenSpec.upto (s : _root_.Go.ChangeSpec) : _root_.Go.OpenSpec := { _root_.Go.OpenSpec.ofChange s with cond := some uptoSmall }

/-- 'rescriptlaw05.OutletWrites', WHERE WHAT IT READS IS OF BULK AT MOST 1048576: true; the input reads as it did. -/
def outletWritesUptoRow : OpenClaim := { program := "ytapgjkbodfpdaaa", sum := "ad56fd9928fad8ebc948bef790a182a073afb8b602f6c3416a9b5b1007c2cde5", func := "rescript/rescriptlaw05.OutletWrites", spec := "outletWrites", unfollowed := true, recurses := true, apart := false, narrowed := true }
def OutletWritesUptoSaid : Prop := outletWritesUptoRow.holds Try.pinned (OpenSpec.upto outletWritesSpec)

/-- 'rescriptlaw05.OutletAll', WHERE WHAT IT READS IS OF BULK AT MOST 1048576: true; the input reads as it did. -/
def outletAllUptoRow : OpenClaim := { program := "ytapgjkbodfpdaaa", sum := "ad56fd9928fad8ebc948bef790a182a073afb8b602f6c3416a9b5b1007c2cde5", func := "rescript/rescriptlaw05.OutletAll", spec := "outletAll", unfollowed := true, recurses := true, apart := false, narrowed := true }
def OutletAllUptoSaid : Prop := outletAllUptoRow.holds Try.pinned (OpenSpec.upto outletAllSpec)

/-- 'rescriptlaw05.OutletBack', WHERE WHAT IT READS IS OF BULK AT MOST 1048576: true; the input reads as it did. -/
def outletBackUptoRow : OpenClaim := { program := "ytapgjkbodfpdaaa", sum := "ad56fd9928fad8ebc948bef790a182a073afb8b602f6c3416a9b5b1007c2cde5", func := "rescript/rescriptlaw05.OutletBack", spec := "outletBack", unfollowed := true, recurses := true, apart := false, narrowed := true }
def OutletBackUptoSaid : Prop := outletBackUptoRow.holds Try.pinned (OpenSpec.upto outletBackSpec)

/-- 'rescriptlaw06.SkipReads', WHERE WHAT IT READS IS OF BULK AT MOST 1048576: true; the input reads as it did. -/
def skipReadsUptoRow : OpenClaim := { program := "ytapgjkbodfpdaaa", sum := "ad56fd9928fad8ebc948bef790a182a073afb8b602f6c3416a9b5b1007c2cde5", func := "rescript/rescriptlaw06.SkipReads", spec := "skipReads", unfollowed := true, recurses := true, apart := false, narrowed := true }
def SkipReadsUptoSaid : Prop := skipReadsUptoRow.holds Try.pinned (OpenSpec.upto skipReadsSpec)

/-- 'rescriptlaw06.SkipEnds', WHERE WHAT IT READS IS OF BULK AT MOST 1048576: true; the input reads as it did. -/
def skipEndsUptoRow : OpenClaim := { program := "ytapgjkbodfpdaaa", sum := "ad56fd9928fad8ebc948bef790a182a073afb8b602f6c3416a9b5b1007c2cde5", func := "rescript/rescriptlaw06.SkipEnds", spec := "skipEnds", unfollowed := true, recurses := true, apart := false, narrowed := true }
def SkipEndsUptoSaid : Prop := skipEndsUptoRow.holds Try.pinned (OpenSpec.upto skipEndsSpec)

/-- 'rescriptlaw06.SkipPuts', WHERE WHAT IT READS IS OF BULK AT MOST 1048576: true; the input reads as it did. -/
def skipPutsUptoRow : OpenClaim := { program := "ytapgjkbodfpdaaa", sum := "ad56fd9928fad8ebc948bef790a182a073afb8b602f6c3416a9b5b1007c2cde5", func := "rescript/rescriptlaw06.SkipPuts", spec := "skipPuts", unfollowed := true, recurses := true, apart := false, narrowed := true }
def SkipPutsUptoSaid : Prop := skipPutsUptoRow.holds Try.pinned (OpenSpec.upto skipPutsSpec)

/-- 'rescriptlaw06.SkipAgain', WHERE WHAT IT READS IS OF BULK AT MOST 1048576: true; the input reads as it did. -/
def skipAgainUptoRow : OpenClaim := { program := "ytapgjkbodfpdaaa", sum := "ad56fd9928fad8ebc948bef790a182a073afb8b602f6c3416a9b5b1007c2cde5", func := "rescript/rescriptlaw06.SkipAgain", spec := "skipAgain", unfollowed := true, recurses := true, apart := false, narrowed := true }
def SkipAgainUptoSaid : Prop := skipAgainUptoRow.holds Try.pinned (OpenSpec.upto skipAgainSpec)

/-- 'rescriptlaw06.SkipChooses', WHERE WHAT IT READS IS OF BULK AT MOST 1048576: true; the input reads as it did. -/
def skipChoosesUptoRow : OpenClaim := { program := "ytapgjkbodfpdaaa", sum := "ad56fd9928fad8ebc948bef790a182a073afb8b602f6c3416a9b5b1007c2cde5", func := "rescript/rescriptlaw06.SkipChooses", spec := "skipChooses", unfollowed := true, recurses := true, apart := false, narrowed := true }
def SkipChoosesUptoSaid : Prop := skipChoosesUptoRow.holds Try.pinned (OpenSpec.upto skipChoosesSpec)

/-- 'rescripttop.WholePut', WHERE WHAT IT READS IS OF BULK AT MOST 1048576: true; the input reads as it did. -/
def wholePutUptoRow : OpenClaim := { program := "ytapgjkbodfpdaaa", sum := "ad56fd9928fad8ebc948bef790a182a073afb8b602f6c3416a9b5b1007c2cde5", func := "rescript/rescripttop.WholePut", spec := "wholePut", unfollowed := true, recurses := true, apart := false, narrowed := true }
def WholePutUptoSaid : Prop := wholePutUptoRow.holds Try.pinned (OpenSpec.upto wholePutSpec)

end Rows
end Go.Proofs.Ytapgjkbodfpdaaa
