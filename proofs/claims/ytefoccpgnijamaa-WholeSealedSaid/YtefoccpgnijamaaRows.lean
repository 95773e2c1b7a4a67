/-
  No cell of these rows narrows 'for every input' (looked for: loops, veiled, ifaces, maps, wideKeys, modest, calm, conditions, laid).
  DERIVED. THE GIVEN ROWS OF THIS SEAT. 5 by the template 'for every input the law returns true; each argument reads behind the call as it read before'; 0 by the template 'total and deterministic' (their statements: YtefoccpgnijamaaTotals.lean).
  GIVEN WITH THE SEED: the statements are not yours to turn. If you find one false, say at which input.
  Laid BY PROGRAM, IN A SANDBOX (cutbox-rows.mjs): the forced cells as the released guide's own fill.sh prints them over the translation a6b508e5dcd910c2… (all of the seat's roots in one cut). By AI agents, Wed Nov 11 2026. No macro, syntax, notation, axiom, sorry.
-/
import Derived.Test.YtefoccpgnijamaaChecked
import GoSem.Claim
import GoSem.ClaimJoined
import GoSem.ClaimMapViews
import Derived.JoinedTies
import Derived.KernelRfl
namespace Go.Proofs.Ytefoccpgnijamaa
/- THE CELL 'sum', in the pinned program and in every row, IS THE sha256 OF THE DUMP (.gsa) THAT YtefoccpgnijamaaProg.lean LOADS. Nothing in Lean hashes anything: it is a label: what it is worth is what the hold of that sum in a sandbox is worth. -/
noncomputable def Try.pinned : Pinned := { name := "ytefoccpgnijamaa", sum := "a6b508e5dcd910c2874aa811c4e7590e542aaa1cc13827178c3ebce24578ffed", checked := Try.checked }
namespace Rows
def none {H : Type} : Left H := { results := [], args := [] }

/-- 'rescriptlaw08.SchemaTells': WHATEVER THE INPUT: true; the input reads as it did. -/
def schemaTellsSpec : ChangeSpec := { name := "schemaTells", fn := fun _ => fun
  | [d1, d2, d3] => { results := [.lit (.bool true)], args := [d1, d2, d3] }
  | _ => none }
def schemaTellsRow : OpenClaim := { program := "ytefoccpgnijamaa", sum := "a6b508e5dcd910c2874aa811c4e7590e542aaa1cc13827178c3ebce24578ffed", func := "rescript/rescriptlaw08.SchemaTells", spec := "schemaTells", unfollowed := true, recurses := true, apart := false }
def SchemaTellsSaid : Prop := schemaTellsRow.holds Try.pinned (OpenSpec.ofChange schemaTellsSpec)

/-- ITS FALSE NEIGHBOUR: 'it returns false'. Refute it at one input. -/
def schemaTellsWrong : ChangeSpec := { name := "schemaTells", fn := fun _ => fun
  | [d1, d2, d3] => { results := [.lit (.bool false)], args := [d1, d2, d3] }
  | _ => none }
def SchemaTellsWrongFalsely : Prop := schemaTellsRow.holds Try.pinned (OpenSpec.ofChange schemaTellsWrong)

/-- 'rescriptlaw08.SchemaGrows': WHATEVER THE INPUT: true; the input reads as it did. -/
def schemaGrowsSpec : ChangeSpec := { name := "schemaGrows", fn := fun _ => fun
  | [d1, d2, d3] => { results := [.lit (.bool true)], args := [d1, d2, d3] }
  | _ => none }
def schemaGrowsRow : OpenClaim := { program := "ytefoccpgnijamaa", sum := "a6b508e5dcd910c2874aa811c4e7590e542aaa1cc13827178c3ebce24578ffed", func := "rescript/rescriptlaw08.SchemaGrows", spec := "schemaGrows", unfollowed := true, recurses := true, apart := false }
def SchemaGrowsSaid : Prop := schemaGrowsRow.holds Try.pinned (OpenSpec.ofChange schemaGrowsSpec)

/-- ITS FALSE NEIGHBOUR: 'it returns false'. Refute it at one input. -/
def schemaGrowsWrong : ChangeSpec := { name := "schemaGrows", fn := fun _ => fun
  | [d1, d2, d3] => { results := [.lit (.bool false)], args := [d1, d2, d3] }
  | _ => none }
def SchemaGrowsWrongFalsely : Prop := schemaGrowsRow.holds Try.pinned (OpenSpec.ofChange schemaGrowsWrong)

/-- 'rescripttop.WholePut': WHATEVER THE INPUT: true; the input reads as it did. -/
def wholePutSpec : ChangeSpec := { name := "wholePut", fn := fun _ => fun
  | [d1, d2] => { results := [.lit (.bool true)], args := [d1, d2] }
  | _ => none }
def wholePutRow : OpenClaim := { program := "ytefoccpgnijamaa", sum := "a6b508e5dcd910c2874aa811c4e7590e542aaa1cc13827178c3ebce24578ffed", func := "rescript/rescripttop.WholePut", spec := "wholePut", unfollowed := true, recurses := true, apart := false }
def WholePutSaid : Prop := wholePutRow.holds Try.pinned (OpenSpec.ofChange wholePutSpec)

/-- ITS FALSE NEIGHBOUR: 'it returns false'. Refute it at one input. -/
def wholePutWrong : ChangeSpec := { name := "wholePut", fn := fun _ => fun
  | [d1, d2] => { results := [.lit (.bool false)], args := [d1, d2] }
  | _ => none }
def WholePutWrongFalsely : Prop := wholePutRow.holds Try.pinned (OpenSpec.ofChange wholePutWrong)

/-- 'rescripttop.WholeSealed': WHATEVER THE INPUT: true; the input reads as it did. -/
def wholeSealedSpec : ChangeSpec := { name := "wholeSealed", fn := fun _ => fun
  | [d1, d2, d3] => { results := [.lit (.bool true)], args := [d1, d2, d3] }
  | _ => none }
def wholeSealedRow : OpenClaim := { program := "ytefoccpgnijamaa", sum := "a6b508e5dcd910c2874aa811c4e7590e542aaa1cc13827178c3ebce24578ffed", func := "rescript/rescripttop.WholeSealed", spec := "wholeSealed", unfollowed := true, recurses := true, apart := false }
def WholeSealedSaid : Prop := wholeSealedRow.holds Try.pinned (OpenSpec.ofChange wholeSealedSpec)

/-- ITS FALSE NEIGHBOUR: 'it returns false'. Refute it at one input. -/
def wholeSealedWrong : ChangeSpec := { name := "wholeSealed", fn := fun _ => fun
  | [d1, d2, d3] => { results := [.lit (.bool false)], args := [d1, d2, d3] }
  | _ => none }
def WholeSealedWrongFalsely : Prop := wholeSealedRow.holds Try.pinned (OpenSpec.ofChange wholeSealedWrong)

/-- 'rescripttop.WholeTypes': WHATEVER THE INPUT: true; the input reads as it did. -/
def wholeTypesSpec : ChangeSpec := { name := "wholeTypes", fn := fun _ => fun
  | [d1, d2, d3, d4] => { results := [.lit (.bool true)], args := [d1, d2, d3, d4] }
  | _ => none }
def wholeTypesRow : OpenClaim := { program := "ytefoccpgnijamaa", sum := "a6b508e5dcd910c2874aa811c4e7590e542aaa1cc13827178c3ebce24578ffed", func := "rescript/rescripttop.WholeTypes", spec := "wholeTypes", unfollowed := true, recurses := true, apart := false }
def WholeTypesSaid : Prop := wholeTypesRow.holds Try.pinned (OpenSpec.ofChange wholeTypesSpec)

/-- ITS FALSE NEIGHBOUR: 'it returns false'. Refute it at one input. -/
def wholeTypesWrong : ChangeSpec := { name := "wholeTypes", fn := fun _ => fun
  | [d1, d2, d3, d4] => { results := [.lit (.bool false)], args := [d1, d2, d3, d4] }
  | _ => none }
def WholeTypesWrongFalsely : Prop := wholeTypesRow.holds Try.pinned (OpenSpec.ofChange wholeTypesWrong)

/- THE SECOND FORM. 'bulk': how many values and letters a reading holds, each counted each time it is reached (what is shared counts as often as it is met; a slice's spare places count too). A statement '..UptoSaid' is the law's where the arguments, and the package variables that the reading takes, are together of bulk at most 1048576: NARROWER than '..Said'. Prove '..Said' where nothing that the law and all that it calls make is longer than what came in: it says more and counts as full. Else prove '..UptoSaid'. A law counts once. -/
mutual
def uptoBulk {H : Type} : DataW H → Nat
  | .lit (.string bytes) => bytes.length + 1
  | .lit _ => 1
  | .nil => 1
  | .ptr d => uptoBulk d + 1
  | .slice elems spare => uptoBulkAll elems + uptoBulkAll spare + 1
  | .agg parts => uptoBulkAll parts + 1
  | .iface _ d => uptoBulk d + 1
  | .map entries => uptoBulkEntries entries + 1
  | .held _ => 1
def uptoBulkAll {H : Type} : List (DataW H) → Nat
  | [] => 0
  | d :: r => uptoBulk d + uptoBulkAll r
def uptoBulkEntries {H : Type} : List (Lit × DataW H) → Nat
  | [] => 0
  | x :: r => uptoBulkEntry x + uptoBulkEntries r
def uptoBulkEntry {H : Type} : Lit × DataW H → Nat
  | (.string bytes, d) => bytes.length + uptoBulk d + 1
  | (_, d) => uptoBulk d + 1
 end
def uptoSmall : (H : Type) → List (DataW H) → Bool := fun _ ds => decide (uptoBulkAll ds ≤ 1048576)
def OpenSpec.upto (s : _root_.Go.ChangeSpec) : _root_.Go.OpenSpec := { _root_.Go.OpenSpec.ofChange s with cond := some uptoSmall }

/-- 'rescriptlaw08.SchemaTells', WHERE WHAT IT READS IS OF BULK AT MOST 1048576: true; the input reads as it did. -/
def schemaTellsUptoRow : OpenClaim := { program := "ytefoccpgnijamaa", sum := "a6b508e5dcd910c2874aa811c4e7590e542aaa1cc13827178c3ebce24578ffed", func := "rescript/rescriptlaw08.SchemaTells", spec := "schemaTells", unfollowed := true, recurses := true, apart := false, narrowed := true }
def SchemaTellsUptoSaid : Prop := schemaTellsUptoRow.holds Try.pinned (OpenSpec.upto schemaTellsSpec)

/-- 'rescriptlaw08.SchemaGrows', WHERE WHAT IT READS IS OF BULK AT MOST 1048576: true; the input reads as it did. -/
def schemaGrowsUptoRow : OpenClaim := { program := "ytefoccpgnijamaa", sum := "a6b508e5dcd910c2874aa811c4e7590e542aaa1cc13827178c3ebce24578ffed", func := "rescript/rescriptlaw08.SchemaGrows", spec := "schemaGrows", unfollowed := true, recurses := true, apart := false, narrowed := true }
def SchemaGrowsUptoSaid : Prop := schemaGrowsUptoRow.holds Try.pinned (OpenSpec.upto schemaGrowsSpec)

/-- 'rescripttop.WholePut', WHERE WHAT IT READS IS OF BULK AT MOST 1048576: true; the input reads as it did. -/
def wholePutUptoRow : OpenClaim := { program := "ytefoccpgnijamaa", sum := "a6b508e5dcd910c2874aa811c4e7590e542aaa1cc13827178c3ebce24578ffed", func := "rescript/rescripttop.WholePut", spec := "wholePut", unfollowed := true, recurses := true, apart := false, narrowed := true }
def WholePutUptoSaid : Prop := wholePutUptoRow.holds Try.pinned (OpenSpec.upto wholePutSpec)

/-- 'rescripttop.WholeSealed', WHERE WHAT IT READS IS OF BULK AT MOST 1048576: true; the input reads as it did. -/
def wholeSealedUptoRow : OpenClaim := { program := "ytefoccpgnijamaa", sum := "a6b508e5dcd910c2874aa811c4e7590e542aaa1cc13827178c3ebce24578ffed", func := "rescript/rescripttop.WholeSealed", spec := "wholeSealed", unfollowed := true, recurses := true, apart := false, narrowed := true }
def WholeSealedUptoSaid : Prop := wholeSealedUptoRow.holds Try.pinned (OpenSpec.upto wholeSealedSpec)

/-- 'rescripttop.WholeTypes', WHERE WHAT IT READS IS OF BULK AT MOST 1048576: true; the input reads as it did. -/
def wholeTypesUptoRow : OpenClaim := { program := "ytefoccpgnijamaa", sum := "a6b508e5dcd910c2874aa811c4e7590e542aaa1cc13827178c3ebce24578ffed", func := "rescript/rescripttop.WholeTypes", spec := "wholeTypes", unfollowed := true, recurses := true, apart := false, narrowed := true }
def WholeTypesUptoSaid : Prop := wholeTypesUptoRow.holds Try.pinned (OpenSpec.upto wholeTypesSpec)

end Rows
end Go.Proofs.Ytefoccpgnijamaa
