/-
  No cell of these rows narrows 'for every input' (looked for: loops, veiled, ifaces, maps, wideKeys, modest, calm, conditions, laid).
  DERIVED. THE GIVEN ROWS OF THIS SEAT. 7 by the template 'for every input the law returns true; each argument reads behind the call as it read before'; 0 by the template 'total and deterministic' (their statements: YtehjibbjkadoiaaTotals.lean).
  GIVEN WITH THE SEED: the statements are not yours to turn. If you find one false, say at which input.
  Laid BY PROGRAM, IN A SANDBOX (cutbox-rows.mjs): the forced cells as the released guide's own fill.sh prints them over the translation 6ad3343e97985d00… (all of the seat's roots in one cut). By AI agents, Wed Nov 11 2026. No macro, syntax, notation, axiom, sorry.
-/
import Derived.Test.YtehjibbjkadoiaaChecked
import GoSem.Claim
import GoSem.ClaimJoined
import GoSem.ClaimMapViews
import Derived.JoinedTies
import Derived.KernelRfl
namespace Go.Proofs.Ytehjibbjkadoiaa
/- THE CELL 'sum', in the pinned program and in every row, IS THE sha256 OF THE DUMP (.gsa) THAT YtehjibbjkadoiaaProg.lean LOADS. Nothing in Lean hashes anything: it is a label: what it is worth is what the hold of that sum in a sandbox is worth. -/
noncomputable def Try.pinned : Pinned := { name := "ytehjibbjkadoiaa", sum := "6ad3343e97985d003fcd0221b7c71fcc0e2d4c7ea76b64344eb8b7db84afa2ac", checked := Try.checked }
namespace Rows
def none {H : Type} : Left H := { results := [], args := [] }

/-- 'rescriptlaw09.ValueCopies': WHATEVER THE INPUT: true; the input reads as it did. -/
def valueCopiesSpec : ChangeSpec := { name := "valueCopies", fn := fun _ => fun
  | [d1, d2, d3] => { results := [.lit (.bool true)], args := [d1, d2, d3] }
  | _ => none }
def valueCopiesRow : OpenClaim := { program := "ytehjibbjkadoiaa", sum := "6ad3343e97985d003fcd0221b7c71fcc0e2d4c7ea76b64344eb8b7db84afa2ac", func := "rescript/rescriptlaw09.ValueCopies", spec := "valueCopies", unfollowed := true, recurses := true, apart := false }
def ValueCopiesSaid : Prop := valueCopiesRow.holds Try.pinned (OpenSpec.ofChange valueCopiesSpec)

/-- ITS FALSE NEIGHBOUR: 'it returns false'. Refute it at one input. -/
def valueCopiesWrong : ChangeSpec := { name := "valueCopies", fn := fun _ => fun
  | [d1, d2, d3] => { results := [.lit (.bool false)], args := [d1, d2, d3] }
  | _ => none }
def ValueCopiesWrongFalsely : Prop := valueCopiesRow.holds Try.pinned (OpenSpec.ofChange valueCopiesWrong)

/-- 'rescriptlaw10.EncodeBytes': WHATEVER THE INPUT: true; the input reads as it did. -/
def encodeBytesSpec : ChangeSpec := { name := "encodeBytes", fn := fun _ => fun
  | [d1, d2] => { results := [.lit (.bool true)], args := [d1, d2] }
  | _ => none }
def encodeBytesRow : OpenClaim := { program := "ytehjibbjkadoiaa", sum := "6ad3343e97985d003fcd0221b7c71fcc0e2d4c7ea76b64344eb8b7db84afa2ac", func := "rescript/rescriptlaw10.EncodeBytes", spec := "encodeBytes", unfollowed := true, recurses := true, apart := false }
def EncodeBytesSaid : Prop := encodeBytesRow.holds Try.pinned (OpenSpec.ofChange encodeBytesSpec)

/-- ITS FALSE NEIGHBOUR: 'it returns false'. Refute it at one input. -/
def encodeBytesWrong : ChangeSpec := { name := "encodeBytes", fn := fun _ => fun
  | [d1, d2] => { results := [.lit (.bool false)], args := [d1, d2] }
  | _ => none }
def EncodeBytesWrongFalsely : Prop := encodeBytesRow.holds Try.pinned (OpenSpec.ofChange encodeBytesWrong)

/-- 'rescriptlaw10.EncodeFields': WHATEVER THE INPUT: true; the input reads as it did. -/
def encodeFieldsSpec : ChangeSpec := { name := "encodeFields", fn := fun _ => fun
  | [d1, d2] => { results := [.lit (.bool true)], args := [d1, d2] }
  | _ => none }
def encodeFieldsRow : OpenClaim := { program := "ytehjibbjkadoiaa", sum := "6ad3343e97985d003fcd0221b7c71fcc0e2d4c7ea76b64344eb8b7db84afa2ac", func := "rescript/rescriptlaw10.EncodeFields", spec := "encodeFields", unfollowed := true, recurses := true, apart := false }
def EncodeFieldsSaid : Prop := encodeFieldsRow.holds Try.pinned (OpenSpec.ofChange encodeFieldsSpec)

/-- ITS FALSE NEIGHBOUR: 'it returns false'. Refute it at one input. -/
def encodeFieldsWrong : ChangeSpec := { name := "encodeFields", fn := fun _ => fun
  | [d1, d2] => { results := [.lit (.bool false)], args := [d1, d2] }
  | _ => none }
def EncodeFieldsWrongFalsely : Prop := encodeFieldsRow.holds Try.pinned (OpenSpec.ofChange encodeFieldsWrong)

/-- 'rescriptlaw10.EncodeSmall': WHATEVER THE INPUT: true; the input reads as it did. -/
def encodeSmallSpec : ChangeSpec := { name := "encodeSmall", fn := fun _ => fun
  | [d1, d2] => { results := [.lit (.bool true)], args := [d1, d2] }
  | _ => none }
def encodeSmallRow : OpenClaim := { program := "ytehjibbjkadoiaa", sum := "6ad3343e97985d003fcd0221b7c71fcc0e2d4c7ea76b64344eb8b7db84afa2ac", func := "rescript/rescriptlaw10.EncodeSmall", spec := "encodeSmall", unfollowed := true, recurses := true, apart := false }
def EncodeSmallSaid : Prop := encodeSmallRow.holds Try.pinned (OpenSpec.ofChange encodeSmallSpec)

/-- ITS FALSE NEIGHBOUR: 'it returns false'. Refute it at one input. -/
def encodeSmallWrong : ChangeSpec := { name := "encodeSmall", fn := fun _ => fun
  | [d1, d2] => { results := [.lit (.bool false)], args := [d1, d2] }
  | _ => none }
def EncodeSmallWrongFalsely : Prop := encodeSmallRow.holds Try.pinned (OpenSpec.ofChange encodeSmallWrong)

/-- 'rescriptlaw10.EncodeApart': WHATEVER THE INPUT: true; the input reads as it did. -/
def encodeApartSpec : ChangeSpec := { name := "encodeApart", fn := fun _ => fun
  | [d1, d2, d3] => { results := [.lit (.bool true)], args := [d1, d2, d3] }
  | _ => none }
def encodeApartRow : OpenClaim := { program := "ytehjibbjkadoiaa", sum := "6ad3343e97985d003fcd0221b7c71fcc0e2d4c7ea76b64344eb8b7db84afa2ac", func := "rescript/rescriptlaw10.EncodeApart", spec := "encodeApart", unfollowed := true, recurses := true, apart := false }
def EncodeApartSaid : Prop := encodeApartRow.holds Try.pinned (OpenSpec.ofChange encodeApartSpec)

/-- ITS FALSE NEIGHBOUR: 'it returns false'. Refute it at one input. -/
def encodeApartWrong : ChangeSpec := { name := "encodeApart", fn := fun _ => fun
  | [d1, d2, d3] => { results := [.lit (.bool false)], args := [d1, d2, d3] }
  | _ => none }
def EncodeApartWrongFalsely : Prop := encodeApartRow.holds Try.pinned (OpenSpec.ofChange encodeApartWrong)

/-- 'rescripttop.WholeWithout': WHATEVER THE INPUT: true; the input reads as it did. -/
def wholeWithoutSpec : ChangeSpec := { name := "wholeWithout", fn := fun _ => fun
  | [d1, d2, d3] => { results := [.lit (.bool true)], args := [d1, d2, d3] }
  | _ => none }
def wholeWithoutRow : OpenClaim := { program := "ytehjibbjkadoiaa", sum := "6ad3343e97985d003fcd0221b7c71fcc0e2d4c7ea76b64344eb8b7db84afa2ac", func := "rescript/rescripttop.WholeWithout", spec := "wholeWithout", unfollowed := true, recurses := true, apart := false }
def WholeWithoutSaid : Prop := wholeWithoutRow.holds Try.pinned (OpenSpec.ofChange wholeWithoutSpec)

/-- ITS FALSE NEIGHBOUR: 'it returns false'. Refute it at one input. -/
def wholeWithoutWrong : ChangeSpec := { name := "wholeWithout", fn := fun _ => fun
  | [d1, d2, d3] => { results := [.lit (.bool false)], args := [d1, d2, d3] }
  | _ => none }
def WholeWithoutWrongFalsely : Prop := wholeWithoutRow.holds Try.pinned (OpenSpec.ofChange wholeWithoutWrong)

/-- 'rescripttop.WholeParts': WHATEVER THE INPUT: true; the input reads as it did. -/
def wholePartsSpec : ChangeSpec := { name := "wholeParts", fn := fun _ => fun
  | [d1, d2] => { results := [.lit (.bool true)], args := [d1, d2] }
  | _ => none }
def wholePartsRow : OpenClaim := { program := "ytehjibbjkadoiaa", sum := "6ad3343e97985d003fcd0221b7c71fcc0e2d4c7ea76b64344eb8b7db84afa2ac", func := "rescript/rescripttop.WholeParts", spec := "wholeParts", unfollowed := true, recurses := true, apart := false }
def WholePartsSaid : Prop := wholePartsRow.holds Try.pinned (OpenSpec.ofChange wholePartsSpec)

/-- ITS FALSE NEIGHBOUR: 'it returns false'. Refute it at one input. -/
def wholePartsWrong : ChangeSpec := { name := "wholeParts", fn := fun _ => fun
  | [d1, d2] => { results := [.lit (.bool false)], args := [d1, d2] }
  | _ => none }
def WholePartsWrongFalsely : Prop := wholePartsRow.holds Try.pinned (OpenSpec.ofChange wholePartsWrong)

/- THE SECOND FORM. 'bulk': how many values and letters a reading holds, each counted each time it is reached (what is shared counts as often as it is met; a slice's spare places count too). A statement '..UptoSaid' is the law's where the arguments, and the package variables that the reading takes, are together of bulk at most 1048576: NARROWER than '..Said'. Prove '..Said' where nothing that the law and all that it calls make is longer than what came in: it says more and counts as full. Else prove '..UptoSaid'. A law counts once. -/
mutual
def uptoBulk {H : Type} : DataW H → Nat
  | .lit (.string bytes) => bytes.length + 1
  | .lit _ => 1
  | .nil => 1
  | .ptr d => uptoBulk d + 1
  | .slice elems spare => uptoBulkAll elems + uptoBulkAll spare + 1
  | .agg parts => uptoBulkAll parts + 1
  | .iface _ d => uptoBulk d + 1
  | .map entries => uptoBulkEntries entries + 1
  | .held _ => 1
def uptoBulkAll {H : Type} : List (DataW H) → Nat
  | [] => 0
  | d :: r => uptoBulk d + uptoBulkAll r
def uptoBulkEntries {H : Type} : List (Lit × DataW H) → Nat
  | [] => 0
  | x :: r => uptoBulkEntry x + uptoBulkEntries r
def uptoBulkEntry {H : Type} : Lit × DataW H → Nat
  | (.string bytes, d) => bytes.length + uptoBulk d + 1
  | (_, d) => uptoBulk d + 1
 end
def uptoSmall : (H : Type) → List (DataW H) → Bool := fun _ ds => decide (uptoBulkAll ds ≤ 1048576)
def OpenSpec.upto (s : _root_.Go.ChangeSpec) : _root_.Go.OpenSpec := { _root_.Go.OpenSpec.ofChange s with cond := some uptoSmall }

/-- 'rescriptlaw09.ValueCopies', WHERE WHAT IT READS IS OF BULK AT MOST 1048576: true; the input reads as it did. -/
def valueCopiesUptoRow : OpenClaim := { program := "ytehjibbjkadoiaa", sum := "6ad3343e97985d003fcd0221b7c71fcc0e2d4c7ea76b64344eb8b7db84afa2ac", func := "rescript/rescriptlaw09.ValueCopies", spec := "valueCopies", unfollowed := true, recurses := true, apart := false, narrowed := true }
def ValueCopiesUptoSaid : Prop := valueCopiesUptoRow.holds Try.pinned (OpenSpec.upto valueCopiesSpec)

/-- 'rescriptlaw10.EncodeBytes', WHERE WHAT IT READS IS OF BULK AT MOST 1048576: true; the input reads as it did. -/
def encodeBytesUptoRow : OpenClaim := { program := "ytehjibbjkadoiaa", sum := "6ad3343e97985d003fcd0221b7c71fcc0e2d4c7ea76b64344eb8b7db84afa2ac", func := "rescript/rescriptlaw10.EncodeBytes", spec := "encodeBytes", unfollowed := true, recurses := true, apart := false, narrowed := true }
def EncodeBytesUptoSaid : Prop := encodeBytesUptoRow.holds Try.pinned (OpenSpec.upto encodeBytesSpec)

/-- 'rescriptlaw10.EncodeFields', WHERE WHAT IT READS IS OF BULK AT MOST 1048576: true; the input reads as it did. -/
def encodeFieldsUptoRow : OpenClaim := { program := "ytehjibbjkadoiaa", sum := "6ad3343e97985d003fcd0221b7c71fcc0e2d4c7ea76b64344eb8b7db84afa2ac", func := "rescript/rescriptlaw10.EncodeFields", spec := "encodeFields", unfollowed := true, recurses := true, apart := false, narrowed := true }
def EncodeFieldsUptoSaid : Prop := encodeFieldsUptoRow.holds Try.pinned (OpenSpec.upto encodeFieldsSpec)

/-- 'rescriptlaw10.EncodeSmall', WHERE WHAT IT READS IS OF BULK AT MOST 1048576: true; the input reads as it did. -/
def encodeSmallUptoRow : OpenClaim := { program := "ytehjibbjkadoiaa", sum := "6ad3343e97985d003fcd0221b7c71fcc0e2d4c7ea76b64344eb8b7db84afa2ac", func := "rescript/rescriptlaw10.EncodeSmall", spec := "encodeSmall", unfollowed := true, recurses := true, apart := false, narrowed := true }
def EncodeSmallUptoSaid : Prop := encodeSmallUptoRow.holds Try.pinned (OpenSpec.upto encodeSmallSpec)

/-- 'rescriptlaw10.EncodeApart', WHERE WHAT IT READS IS OF BULK AT MOST 1048576: true; the input reads as it did. -/
def encodeApartUptoRow : OpenClaim := { program := "ytehjibbjkadoiaa", sum := "6ad3343e97985d003fcd0221b7c71fcc0e2d4c7ea76b64344eb8b7db84afa2ac", func := "rescript/rescriptlaw10.EncodeApart", spec := "encodeApart", unfollowed := true, recurses := true, apart := false, narrowed := true }
def EncodeApartUptoSaid : Prop := encodeApartUptoRow.holds Try.pinned (OpenSpec.upto encodeApartSpec)

/-- 'rescripttop.WholeWithout', WHERE WHAT IT READS IS OF BULK AT MOST 1048576: true; the input reads as it did. -/
def wholeWithoutUptoRow : OpenClaim := { program := "ytehjibbjkadoiaa", sum := "6ad3343e97985d003fcd0221b7c71fcc0e2d4c7ea76b64344eb8b7db84afa2ac", func := "rescript/rescripttop.WholeWithout", spec := "wholeWithout", unfollowed := true, recurses := true, apart := false, narrowed := true }
def WholeWithoutUptoSaid : Prop := wholeWithoutUptoRow.holds Try.pinned (OpenSpec.upto wholeWithoutSpec)

/-- 'rescripttop.WholeParts', WHERE WHAT IT READS IS OF BULK AT MOST 1048576: true; the input reads as it did. -/
def wholePartsUptoRow : OpenClaim := { program := "ytehjibbjkadoiaa", sum := "6ad3343e97985d003fcd0221b7c71fcc0e2d4c7ea76b64344eb8b7db84afa2ac", func := "rescript/rescripttop.WholeParts", spec := "wholeParts", unfollowed := true, recurses := true, apart := false, narrowed := true }
def WholePartsUptoSaid : Prop := wholePartsUptoRow.holds Try.pinned (OpenSpec.upto wholePartsSpec)

end Rows
end Go.Proofs.Ytehjibbjkadoiaa
