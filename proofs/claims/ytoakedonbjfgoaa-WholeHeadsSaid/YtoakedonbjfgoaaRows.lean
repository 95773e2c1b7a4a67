/-
  No cell of these rows narrows 'for every input' (looked for: loops, veiled, ifaces, maps, wideKeys, modest, calm, conditions, laid).
  DERIVED. THE GIVEN ROWS OF THIS SEAT. 10 by the template 'for every input the law returns true; each argument reads behind the call as it read before'; 0 by the template 'total and deterministic' (their statements: YtoakedonbjfgoaaTotals.lean).
  GIVEN WITH THE SEED: the statements are not yours to turn. If you find one false, say at which input.
  Laid BY PROGRAM, IN A SANDBOX (cutbox-rows.mjs): the forced cells as the released guide's own fill.sh prints them over the translation b84ed90eec7aa83c… (all of the seat's roots in one cut). By AI agents, Wed Nov 11 2026. No macro, syntax, notation, axiom, sorry.
-/
import Derived.Test.YtoakedonbjfgoaaChecked
import GoSem.Claim
import GoSem.ClaimJoined
import GoSem.ClaimMapViews
import Derived.JoinedTies
import Derived.KernelRfl
namespace Go.Proofs.Ytoakedonbjfgoaa
/- THE CELL 'sum', in the pinned program and in every row, IS THE sha256 OF THE DUMP (.gsa) THAT YtoakedonbjfgoaaProg.lean LOADS. Nothing in Lean hashes anything: it is a label: what it is worth is what the hold of that sum in a sandbox is worth. -/
noncomputable def Try.pinned : Pinned := { name := "ytoakedonbjfgoaa", sum := "b84ed90eec7aa83c68f041e70e9fbb820d30f6cf634885914d1f9e06966569c8", checked := Try.checked }
namespace Rows
def none {H : Type} : Left H := { results := [], args := [] }

/-- 'rescriptlaw01.VarintWrites': WHATEVER THE INPUT: true; the input reads as it did. -/
def varintWritesSpec : ChangeSpec := { name := "varintWrites", fn := fun _ => fun
  | [d] => { results := [.lit (.bool true)], args := [d] }
  | _ => none }
def varintWritesRow : OpenClaim := { program := "ytoakedonbjfgoaa", sum := "b84ed90eec7aa83c68f041e70e9fbb820d30f6cf634885914d1f9e06966569c8", func := "rescript/rescriptlaw01.VarintWrites", spec := "varintWrites", unfollowed := true, recurses := true, apart := false }
def VarintWritesSaid : Prop := varintWritesRow.holds Try.pinned (OpenSpec.ofChange varintWritesSpec)

/-- ITS FALSE NEIGHBOUR: 'it returns false'. Refute it at one input. -/
def varintWritesWrong : ChangeSpec := { name := "varintWrites", fn := fun _ => fun
  | [d] => { results := [.lit (.bool false)], args := [d] }
  | _ => none }
def VarintWritesWrongFalsely : Prop := varintWritesRow.holds Try.pinned (OpenSpec.ofChange varintWritesWrong)

/-- 'rescriptlaw01.VarintReads': WHATEVER THE INPUT: true; the input reads as it did. -/
def varintReadsSpec : ChangeSpec := { name := "varintReads", fn := fun _ => fun
  | [d] => { results := [.lit (.bool true)], args := [d] }
  | _ => none }
def varintReadsRow : OpenClaim := { program := "ytoakedonbjfgoaa", sum := "b84ed90eec7aa83c68f041e70e9fbb820d30f6cf634885914d1f9e06966569c8", func := "rescript/rescriptlaw01.VarintReads", spec := "varintReads", unfollowed := true, recurses := true, apart := false }
def VarintReadsSaid : Prop := varintReadsRow.holds Try.pinned (OpenSpec.ofChange varintReadsSpec)

/-- ITS FALSE NEIGHBOUR: 'it returns false'. Refute it at one input. -/
def varintReadsWrong : ChangeSpec := { name := "varintReads", fn := fun _ => fun
  | [d] => { results := [.lit (.bool false)], args := [d] }
  | _ => none }
def VarintReadsWrongFalsely : Prop := varintReadsRow.holds Try.pinned (OpenSpec.ofChange varintReadsWrong)

/-- 'rescriptlaw01.VarintBack': WHATEVER THE INPUT: true; the input reads as it did. -/
def varintBackSpec : ChangeSpec := { name := "varintBack", fn := fun _ => fun
  | [d1, d2, d3, d4] => { results := [.lit (.bool true)], args := [d1, d2, d3, d4] }
  | _ => none }
def varintBackRow : OpenClaim := { program := "ytoakedonbjfgoaa", sum := "b84ed90eec7aa83c68f041e70e9fbb820d30f6cf634885914d1f9e06966569c8", func := "rescript/rescriptlaw01.VarintBack", spec := "varintBack", unfollowed := true, recurses := true, apart := false }
def VarintBackSaid : Prop := varintBackRow.holds Try.pinned (OpenSpec.ofChange varintBackSpec)

/-- ITS FALSE NEIGHBOUR: 'it returns false'. Refute it at one input. -/
def varintBackWrong : ChangeSpec := { name := "varintBack", fn := fun _ => fun
  | [d1, d2, d3, d4] => { results := [.lit (.bool false)], args := [d1, d2, d3, d4] }
  | _ => none }
def VarintBackWrongFalsely : Prop := varintBackRow.holds Try.pinned (OpenSpec.ofChange varintBackWrong)

/-- 'rescriptlaw01.VarintZigs': WHATEVER THE INPUT: true; the input reads as it did. -/
def varintZigsSpec : ChangeSpec := { name := "varintZigs", fn := fun _ => fun
  | [d1, d2] => { results := [.lit (.bool true)], args := [d1, d2] }
  | _ => none }
def varintZigsRow : OpenClaim := { program := "ytoakedonbjfgoaa", sum := "b84ed90eec7aa83c68f041e70e9fbb820d30f6cf634885914d1f9e06966569c8", func := "rescript/rescriptlaw01.VarintZigs", spec := "varintZigs", unfollowed := true, recurses := true, apart := false }
def VarintZigsSaid : Prop := varintZigsRow.holds Try.pinned (OpenSpec.ofChange varintZigsSpec)

/-- ITS FALSE NEIGHBOUR: 'it returns false'. Refute it at one input. -/
def varintZigsWrong : ChangeSpec := { name := "varintZigs", fn := fun _ => fun
  | [d1, d2] => { results := [.lit (.bool false)], args := [d1, d2] }
  | _ => none }
def VarintZigsWrongFalsely : Prop := varintZigsRow.holds Try.pinned (OpenSpec.ofChange varintZigsWrong)

/-- 'rescriptlaw01.VarintAll': WHATEVER THE INPUT: true; the input reads as it did. -/
def varintAllSpec : ChangeSpec := { name := "varintAll", fn := fun _ => fun
  | [d1, d2] => { results := [.lit (.bool true)], args := [d1, d2] }
  | _ => none }
def varintAllRow : OpenClaim := { program := "ytoakedonbjfgoaa", sum := "b84ed90eec7aa83c68f041e70e9fbb820d30f6cf634885914d1f9e06966569c8", func := "rescript/rescriptlaw01.VarintAll", spec := "varintAll", unfollowed := true, recurses := true, apart := false }
def VarintAllSaid : Prop := varintAllRow.holds Try.pinned (OpenSpec.ofChange varintAllSpec)

/-- ITS FALSE NEIGHBOUR: 'it returns false'. Refute it at one input. -/
def varintAllWrong : ChangeSpec := { name := "varintAll", fn := fun _ => fun
  | [d1, d2] => { results := [.lit (.bool false)], args := [d1, d2] }
  | _ => none }
def VarintAllWrongFalsely : Prop := varintAllRow.holds Try.pinned (OpenSpec.ofChange varintAllWrong)

/-- 'rescriptlaw02.TagMakes': WHATEVER THE INPUT: true; the input reads as it did. -/
def tagMakesSpec : ChangeSpec := { name := "tagMakes", fn := fun _ => fun
  | [d1, d2] => { results := [.lit (.bool true)], args := [d1, d2] }
  | _ => none }
def tagMakesRow : OpenClaim := { program := "ytoakedonbjfgoaa", sum := "b84ed90eec7aa83c68f041e70e9fbb820d30f6cf634885914d1f9e06966569c8", func := "rescript/rescriptlaw02.TagMakes", spec := "tagMakes", unfollowed := true, recurses := true, apart := false }
def TagMakesSaid : Prop := tagMakesRow.holds Try.pinned (OpenSpec.ofChange tagMakesSpec)

/-- ITS FALSE NEIGHBOUR: 'it returns false'. Refute it at one input. -/
def tagMakesWrong : ChangeSpec := { name := "tagMakes", fn := fun _ => fun
  | [d1, d2] => { results := [.lit (.bool false)], args := [d1, d2] }
  | _ => none }
def TagMakesWrongFalsely : Prop := tagMakesRow.holds Try.pinned (OpenSpec.ofChange tagMakesWrong)

/-- 'rescriptlaw02.TagSplits': WHATEVER THE INPUT: true; the input reads as it did. -/
def tagSplitsSpec : ChangeSpec := { name := "tagSplits", fn := fun _ => fun
  | [d] => { results := [.lit (.bool true)], args := [d] }
  | _ => none }
def tagSplitsRow : OpenClaim := { program := "ytoakedonbjfgoaa", sum := "b84ed90eec7aa83c68f041e70e9fbb820d30f6cf634885914d1f9e06966569c8", func := "rescript/rescriptlaw02.TagSplits", spec := "tagSplits", unfollowed := true, recurses := true, apart := false }
def TagSplitsSaid : Prop := tagSplitsRow.holds Try.pinned (OpenSpec.ofChange tagSplitsSpec)

/-- ITS FALSE NEIGHBOUR: 'it returns false'. Refute it at one input. -/
def tagSplitsWrong : ChangeSpec := { name := "tagSplits", fn := fun _ => fun
  | [d] => { results := [.lit (.bool false)], args := [d] }
  | _ => none }
def TagSplitsWrongFalsely : Prop := tagSplitsRow.holds Try.pinned (OpenSpec.ofChange tagSplitsWrong)

/-- 'rescriptlaw02.TagBack': WHATEVER THE INPUT: true; the input reads as it did. -/
def tagBackSpec : ChangeSpec := { name := "tagBack", fn := fun _ => fun
  | [d1, d2, d3] => { results := [.lit (.bool true)], args := [d1, d2, d3] }
  | _ => none }
def tagBackRow : OpenClaim := { program := "ytoakedonbjfgoaa", sum := "b84ed90eec7aa83c68f041e70e9fbb820d30f6cf634885914d1f9e06966569c8", func := "rescript/rescriptlaw02.TagBack", spec := "tagBack", unfollowed := true, recurses := true, apart := false }
def TagBackSaid : Prop := tagBackRow.holds Try.pinned (OpenSpec.ofChange tagBackSpec)

/-- ITS FALSE NEIGHBOUR: 'it returns false'. Refute it at one input. -/
def tagBackWrong : ChangeSpec := { name := "tagBack", fn := fun _ => fun
  | [d1, d2, d3] => { results := [.lit (.bool false)], args := [d1, d2, d3] }
  | _ => none }
def TagBackWrongFalsely : Prop := tagBackRow.holds Try.pinned (OpenSpec.ofChange tagBackWrong)

/-- 'rescriptlaw02.TagFixed': WHATEVER THE INPUT: true; the input reads as it did. -/
def tagFixedSpec : ChangeSpec := { name := "tagFixed", fn := fun _ => fun
  | [d1, d2, d3, d4] => { results := [.lit (.bool true)], args := [d1, d2, d3, d4] }
  | _ => none }
def tagFixedRow : OpenClaim := { program := "ytoakedonbjfgoaa", sum := "b84ed90eec7aa83c68f041e70e9fbb820d30f6cf634885914d1f9e06966569c8", func := "rescript/rescriptlaw02.TagFixed", spec := "tagFixed", unfollowed := true, recurses := true, apart := false }
def TagFixedSaid : Prop := tagFixedRow.holds Try.pinned (OpenSpec.ofChange tagFixedSpec)

/-- ITS FALSE NEIGHBOUR: 'it returns false'. Refute it at one input. -/
def tagFixedWrong : ChangeSpec := { name := "tagFixed", fn := fun _ => fun
  | [d1, d2, d3, d4] => { results := [.lit (.bool false)], args := [d1, d2, d3, d4] }
  | _ => none }
def TagFixedWrongFalsely : Prop := tagFixedRow.holds Try.pinned (OpenSpec.ofChange tagFixedWrong)

/-- 'rescripttop.WholeHeads': WHATEVER THE INPUT: true; the input reads as it did. -/
def wholeHeadsSpec : ChangeSpec := { name := "wholeHeads", fn := fun _ => fun
  | [d] => { results := [.lit (.bool true)], args := [d] }
  | _ => none }
def wholeHeadsRow : OpenClaim := { program := "ytoakedonbjfgoaa", sum := "b84ed90eec7aa83c68f041e70e9fbb820d30f6cf634885914d1f9e06966569c8", func := "rescript/rescripttop.WholeHeads", spec := "wholeHeads", unfollowed := true, recurses := true, apart := false }
def WholeHeadsSaid : Prop := wholeHeadsRow.holds Try.pinned (OpenSpec.ofChange wholeHeadsSpec)

/-- ITS FALSE NEIGHBOUR: 'it returns false'. Refute it at one input. -/
def wholeHeadsWrong : ChangeSpec := { name := "wholeHeads", fn := fun _ => fun
  | [d] => { results := [.lit (.bool false)], args := [d] }
  | _ => none }
def WholeHeadsWrongFalsely : Prop := wholeHeadsRow.holds Try.pinned (OpenSpec.ofChange wholeHeadsWrong)

/- THE SECOND FORM. 'bulk': how many values and letters a reading holds, each counted each time it is reached (what is shared counts as often as it is met; a slice's spare places count too). A statement '..UptoSaid' is the law's where the arguments, and the package variables that the reading takes, are together of bulk at most 1048576: NARROWER than '..Said'. Prove '..Said' where nothing that the law and all that it calls make is longer than what came in: it says more and counts as full. Else prove '..UptoSaid'. A law counts once. -/
mutual
def uptoBulk {H : Type} : DataW H → Nat
  | .lit (.string bytes) => bytes.length + 1
  | .lit _ => 1
  | .nil => 1
  | .ptr d => uptoBulk d + 1
  | .slice elems spare => uptoBulkAll elems + uptoBulkAll spare + 1
  | .agg parts => uptoBulkAll parts + 1
  | .iface _ d => uptoBulk d + 1
  | .map entries => uptoBulkEntries entries + 1
  | .held _ => 1
def uptoBulkAll {H : Type} : List (DataW H) → Nat
  | [] => 0
  | d :: r => uptoBulk d + uptoBulkAll r
def uptoBulkEntries {H : Type} : List (Lit × DataW H) → Nat
  | [] => 0
  | x :: r => uptoBulkEntry x + uptoBulkEntries r
def uptoBulkEntry {H : Type} : Lit × DataW H → Nat
  | (.string bytes, d) => bytes.length + uptoBulk d + 1
  | (_, d) => uptoBulk d + 1
 end
def uptoSmall : (H : Type) → List (DataW H) → Bool := fun _ ds => decide (uptoBulkAll ds ≤ 1048576)
def OpenSpec.upto (s : _root_.Go.ChangeSpec) : _root_.Go.OpenSpec := { _root_.Go.OpenSpec.ofChange s with cond := some uptoSmall }

/-- 'rescriptlaw01.VarintWrites', WHERE WHAT IT READS IS OF BULK AT MOST 1048576: true; the input reads as it did. -/
def varintWritesUptoRow : OpenClaim := { program := "ytoakedonbjfgoaa", sum := "b84ed90eec7aa83c68f041e70e9fbb820d30f6cf634885914d1f9e06966569c8", func := "rescript/rescriptlaw01.VarintWrites", spec := "varintWrites", unfollowed := true, recurses := true, apart := false, narrowed := true }
def VarintWritesUptoSaid : Prop := varintWritesUptoRow.holds Try.pinned (OpenSpec.upto varintWritesSpec)

/-- 'rescriptlaw01.VarintReads', WHERE WHAT IT READS IS OF BULK AT MOST 1048576: true; the input reads as it did. -/
def varintReadsUptoRow : OpenClaim := { program := "ytoakedonbjfgoaa", sum := "b84ed90eec7aa83c68f041e70e9fbb820d30f6cf634885914d1f9e06966569c8", func := "rescript/rescriptlaw01.VarintReads", spec := "varintReads", unfollowed := true, recurses := true, apart := false, narrowed := true }
def VarintReadsUptoSaid : Prop := varintReadsUptoRow.holds Try.pinned (OpenSpec.upto varintReadsSpec)

/-- 'rescriptlaw01.VarintBack', WHERE WHAT IT READS IS OF BULK AT MOST 1048576: true; the input reads as it did. -/
def varintBackUptoRow : OpenClaim := { program := "ytoakedonbjfgoaa", sum := "b84ed90eec7aa83c68f041e70e9fbb820d30f6cf634885914d1f9e06966569c8", func := "rescript/rescriptlaw01.VarintBack", spec := "varintBack", unfollowed := true, recurses := true, apart := false, narrowed := true }
def VarintBackUptoSaid : Prop := varintBackUptoRow.holds Try.pinned (OpenSpec.upto varintBackSpec)

/-- 'rescriptlaw01.VarintZigs', WHERE WHAT IT READS IS OF BULK AT MOST 1048576: true; the input reads as it did. -/
def varintZigsUptoRow : OpenClaim := { program := "ytoakedonbjfgoaa", sum := "b84ed90eec7aa83c68f041e70e9fbb820d30f6cf634885914d1f9e06966569c8", func := "rescript/rescriptlaw01.VarintZigs", spec := "varintZigs", unfollowed := true, recurses := true, apart := false, narrowed := true }
def VarintZigsUptoSaid : Prop := varintZigsUptoRow.holds Try.pinned (OpenSpec.upto varintZigsSpec)

/-- 'rescriptlaw01.VarintAll', WHERE WHAT IT READS IS OF BULK AT MOST 1048576: true; the input reads as it did. -/
def varintAllUptoRow : OpenClaim := { program := "ytoakedonbjfgoaa", sum := "b84ed90eec7aa83c68f041e70e9fbb820d30f6cf634885914d1f9e06966569c8", func := "rescript/rescriptlaw01.VarintAll", spec := "varintAll", unfollowed := true, recurses := true, apart := false, narrowed := true }
def VarintAllUptoSaid : Prop := varintAllUptoRow.holds Try.pinned (OpenSpec.upto varintAllSpec)

/-- 'rescriptlaw02.TagMakes', WHERE WHAT IT READS IS OF BULK AT MOST 1048576: true; the input reads as it did. -/
def tagMakesUptoRow : OpenClaim := { program := "ytoakedonbjfgoaa", sum := "b84ed90eec7aa83c68f041e70e9fbb820d30f6cf634885914d1f9e06966569c8", func := "rescript/rescriptlaw02.TagMakes", spec := "tagMakes", unfollowed := true, recurses := true, apart := false, narrowed := true }
def TagMakesUptoSaid : Prop := tagMakesUptoRow.holds Try.pinned (OpenSpec.upto tagMakesSpec)

/-- 'rescriptlaw02.TagSplits', WHERE WHAT IT READS IS OF BULK AT MOST 1048576: true; the input reads as it did. -/
def tagSplitsUptoRow : OpenClaim := { program := "ytoakedonbjfgoaa", sum := "b84ed90eec7aa83c68f041e70e9fbb820d30f6cf634885914d1f9e06966569c8", func := "rescript/rescriptlaw02.TagSplits", spec := "tagSplits", unfollowed := true, recurses := true, apart := false, narrowed := true }
def TagSplitsUptoSaid : Prop := tagSplitsUptoRow.holds Try.pinned (OpenSpec.upto tagSplitsSpec)

/-- 'rescriptlaw02.TagBack', WHERE WHAT IT READS IS OF BULK AT MOST 1048576: true; the input reads as it did. -/
def tagBackUptoRow : OpenClaim := { program := "ytoakedonbjfgoaa", sum := "b84ed90eec7aa83c68f041e70e9fbb820d30f6cf634885914d1f9e06966569c8", func := "rescript/rescriptlaw02.TagBack", spec := "tagBack", unfollowed := true, recurses := true, apart := false, narrowed := true }
def TagBackUptoSaid : Prop := tagBackUptoRow.holds Try.pinned (OpenSpec.upto tagBackSpec)

/-- 'rescriptlaw02.TagFixed', WHERE WHAT IT READS IS OF BULK AT MOST 1048576: true; the input reads as it did. -/
def tagFixedUptoRow : OpenClaim := { program := "ytoakedonbjfgoaa", sum := "b84ed90eec7aa83c68f041e70e9fbb820d30f6cf634885914d1f9e06966569c8", func := "rescript/rescriptlaw02.TagFixed", spec := "tagFixed", unfollowed := true, recurses := true, apart := false, narrowed := true }
def TagFixedUptoSaid : Prop := tagFixedUptoRow.holds Try.pinned (OpenSpec.upto tagFixedSpec)

/-- 'rescripttop.WholeHeads', WHERE WHAT IT READS IS OF BULK AT MOST 1048576: true; the input reads as it did. -/
def wholeHeadsUptoRow : OpenClaim := { program := "ytoakedonbjfgoaa", sum := "b84ed90eec7aa83c68f041e70e9fbb820d30f6cf634885914d1f9e06966569c8", func := "rescript/rescripttop.WholeHeads", spec := "wholeHeads", unfollowed := true, recurses := true, apart := false, narrowed := true }
def WholeHeadsUptoSaid : Prop := wholeHeadsUptoRow.holds Try.pinned (OpenSpec.upto wholeHeadsSpec)

end Rows
end Go.Proofs.Ytoakedonbjfgoaa
