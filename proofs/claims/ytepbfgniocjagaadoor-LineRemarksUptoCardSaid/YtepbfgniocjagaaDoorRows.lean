/-
  NARROWER THAN 'FOR EVERY INPUT', by the rows' own cells (each row's printed sentence says how): LineRemarks: laid · TokReads: laid · TokLines: laid · TokNests: laid · TokDoubles: laid.
  DERIVED. THE GIVEN ROWS OF THIS SEAT. 5 by the template 'for every input the law returns true; each argument reads behind the call as it read before'; 0 by the template 'total and deterministic' (their statements: YtepbfgniocjagaaDoorTotals.lean).
  GIVEN WITH THE SEED: the statements are not yours to turn. If you find one false, say at which input.
  Laid BY PROGRAM, IN A SANDBOX (cutbox-rows.mjs): the forced cells as the released guide's own fill.sh prints them over the translation f23f2ff4a3906cae… (all of the seat's roots in one cut). By AI agents, Wed Nov 11 2026. No macro, syntax, notation, axiom, sorry.
-/
import Derived.Test.YtepbfgniocjagaaDoorChecked
import GoSem.PinnedTables
import GoSem.Claim
import GoSem.ClaimJoined
import GoSem.ClaimMapViews
import Derived.JoinedTies
import Derived.KernelRfl
namespace Go.Proofs.YtepbfgniocjagaaDoor
/- THE CELL 'sum', in the pinned program and in every row, IS THE sha256 OF THE DUMP (.gsa) THAT YtepbfgniocjagaaDoorProg.lean LOADS. Nothing in Lean hashes anything: it is a label: what it is worth is what the hold of that sum in a sandbox is worth. -/
noncomputable def Tryd.pinned : Pinned := { name := "ytepbfgniocjagaadoor", sum := "f23f2ff4a3906cae0a8375c204ac66f8e94cb67ce5ee44e36ddbd13906584051", checked := Tryd.checked }
namespace Rows
def none {H : Type} : Left H := { results := [], args := [] }

/- WHAT THE LISTED PACKAGE-LEVEL VARIABLES READ AS WHEN THE CALL BEGINS. Each datum BY PROGRAM (the guide's laid-datum.mjs) off the statement by which the dump's own 'gosem.cut.vars' lays the variable. In a bare row this is a premise. The card (YtepbfgniocjagaaDoorCards.lean) ties it to the program's text. -/
def laid_unicode_utf8_acceptRanges {H : Type} : DataW H := .agg [.agg [.lit (.int .u8 128), .lit (.int .u8 191)], .agg [.lit (.int .u8 160), .lit (.int .u8 191)], .agg [.lit (.int .u8 128), .lit (.int .u8 159)], .agg [.lit (.int .u8 144), .lit (.int .u8 191)], .agg [.lit (.int .u8 128), .lit (.int .u8 143)], .agg [.lit (.int .u8 0), .lit (.int .u8 0)], .agg [.lit (.int .u8 0), .lit (.int .u8 0)], .agg [.lit (.int .u8 0), .lit (.int .u8 0)], .agg [.lit (.int .u8 0), .lit (.int .u8 0)], .agg [.lit (.int .u8 0), .lit (.int .u8 0)], .agg [.lit (.int .u8 0), .lit (.int .u8 0)], .agg [.lit (.int .u8 0), .lit (.int .u8 0)], .agg [.lit (.int .u8 0), .lit (.int .u8 0)], .agg [.lit (.int .u8 0), .lit (.int .u8 0)], .agg [.lit (.int .u8 0), .lit (.int .u8 0)], .agg [.lit (.int .u8 0), .lit (.int .u8 0)]]
/-- One of Go's own tables, pinned by name: the form's constant. -/
def laid_unicode_utf8_first : DataW Unit := Go.Pinned.utf8First

/-- 'rescriptlaw17.LineRemarks': WHATEVER THE INPUT: true; the input reads as it did. -/
def lineRemarksSpec : ChangeSpec := { name := "lineRemarks", fn := fun _ => fun
  | [d1, d2, d3] => { results := [.lit (.bool true)], args := [d1, d2, d3] }
  | _ => none }
def lineRemarksRow : OpenClaim := { program := "ytepbfgniocjagaadoor", sum := "f23f2ff4a3906cae0a8375c204ac66f8e94cb67ce5ee44e36ddbd13906584051", func := "rescript/rescriptlaw17.LineRemarks", spec := "lineRemarks", inPlace := ["internal/bytealg.CountString", "internal/bytealg.IndexByteString", "internal/bytealg.IndexString", "internal/abi.NoEscape", "internal/bytealg.MakeNoZero"], unfollowed := true, recurses := true, named := ["internal/bytealg.MaxLen", "unicode/utf8.first", "unicode/utf8.acceptRanges"], apart := false, laid := [("unicode/utf8.acceptRanges", laid_unicode_utf8_acceptRanges), ("unicode/utf8.first", laid_unicode_utf8_first)] }
def LineRemarksSaid : Prop := lineRemarksRow.holds Tryd.pinned (OpenSpec.ofChange lineRemarksSpec)

/-- ITS FALSE NEIGHBOUR: 'it returns false'. Refute it at one input. -/
def lineRemarksWrong : ChangeSpec := { name := "lineRemarks", fn := fun _ => fun
  | [d1, d2, d3] => { results := [.lit (.bool false)], args := [d1, d2, d3] }
  | _ => none }
def LineRemarksWrongFalsely : Prop := lineRemarksRow.holds Tryd.pinned (OpenSpec.ofChange lineRemarksWrong)

/-- 'rescriptlaw19.TokReads': WHATEVER THE INPUT: true; the input reads as it did. -/
def tokReadsSpec : ChangeSpec := { name := "tokReads", fn := fun _ => fun
  | [d] => { results := [.lit (.bool true)], args := [d] }
  | _ => none }
def tokReadsRow : OpenClaim := { program := "ytepbfgniocjagaadoor", sum := "f23f2ff4a3906cae0a8375c204ac66f8e94cb67ce5ee44e36ddbd13906584051", func := "rescript/rescriptlaw19.TokReads", spec := "tokReads", inPlace := ["internal/bytealg.CountString", "internal/bytealg.IndexByteString", "internal/bytealg.IndexString"], unfollowed := true, recurses := true, named := ["internal/bytealg.MaxLen", "unicode/utf8.first", "unicode/utf8.acceptRanges"], apart := false, laid := [("unicode/utf8.acceptRanges", laid_unicode_utf8_acceptRanges), ("unicode/utf8.first", laid_unicode_utf8_first)] }
def TokReadsSaid : Prop := tokReadsRow.holds Tryd.pinned (OpenSpec.ofChange tokReadsSpec)

/-- ITS FALSE NEIGHBOUR: 'it returns false'. Refute it at one input. -/
def tokReadsWrong : ChangeSpec := { name := "tokReads", fn := fun _ => fun
  | [d] => { results := [.lit (.bool false)], args := [d] }
  | _ => none }
def TokReadsWrongFalsely : Prop := tokReadsRow.holds Tryd.pinned (OpenSpec.ofChange tokReadsWrong)

/-- 'rescriptlaw19.TokLines': WHATEVER THE INPUT: true; the input reads as it did. -/
def tokLinesSpec : ChangeSpec := { name := "tokLines", fn := fun _ => fun
  | [d] => { results := [.lit (.bool true)], args := [d] }
  | _ => none }
def tokLinesRow : OpenClaim := { program := "ytepbfgniocjagaadoor", sum := "f23f2ff4a3906cae0a8375c204ac66f8e94cb67ce5ee44e36ddbd13906584051", func := "rescript/rescriptlaw19.TokLines", spec := "tokLines", inPlace := ["internal/bytealg.CountString", "internal/bytealg.IndexByteString", "internal/bytealg.IndexString"], unfollowed := true, recurses := true, named := ["internal/bytealg.MaxLen", "unicode/utf8.first", "unicode/utf8.acceptRanges"], apart := false, laid := [("unicode/utf8.acceptRanges", laid_unicode_utf8_acceptRanges), ("unicode/utf8.first", laid_unicode_utf8_first)] }
def TokLinesSaid : Prop := tokLinesRow.holds Tryd.pinned (OpenSpec.ofChange tokLinesSpec)

/-- ITS FALSE NEIGHBOUR: 'it returns false'. Refute it at one input. -/
def tokLinesWrong : ChangeSpec := { name := "tokLines", fn := fun _ => fun
  | [d] => { results := [.lit (.bool false)], args := [d] }
  | _ => none }
def TokLinesWrongFalsely : Prop := tokLinesRow.holds Tryd.pinned (OpenSpec.ofChange tokLinesWrong)

/-- 'rescriptlaw19.TokNests': WHATEVER THE INPUT: true; the input reads as it did. -/
def tokNestsSpec : ChangeSpec := { name := "tokNests", fn := fun _ => fun
  | [d1, d2] => { results := [.lit (.bool true)], args := [d1, d2] }
  | _ => none }
def tokNestsRow : OpenClaim := { program := "ytepbfgniocjagaadoor", sum := "f23f2ff4a3906cae0a8375c204ac66f8e94cb67ce5ee44e36ddbd13906584051", func := "rescript/rescriptlaw19.TokNests", spec := "tokNests", inPlace := ["internal/bytealg.CountString", "internal/bytealg.IndexByteString", "internal/bytealg.IndexString"], unfollowed := true, recurses := true, named := ["internal/bytealg.MaxLen", "unicode/utf8.first", "unicode/utf8.acceptRanges"], apart := false, laid := [("unicode/utf8.acceptRanges", laid_unicode_utf8_acceptRanges), ("unicode/utf8.first", laid_unicode_utf8_first)] }
def TokNestsSaid : Prop := tokNestsRow.holds Tryd.pinned (OpenSpec.ofChange tokNestsSpec)

/-- ITS FALSE NEIGHBOUR: 'it returns false'. Refute it at one input. -/
def tokNestsWrong : ChangeSpec := { name := "tokNests", fn := fun _ => fun
  | [d1, d2] => { results := [.lit (.bool false)], args := [d1, d2] }
  | _ => none }
def TokNestsWrongFalsely : Prop := tokNestsRow.holds Tryd.pinned (OpenSpec.ofChange tokNestsWrong)

/-- 'rescriptlaw19.TokDoubles': WHATEVER THE INPUT: true; the input reads as it did. -/
def tokDoublesSpec : ChangeSpec := { name := "tokDoubles", fn := fun _ => fun
  | [d] => { results := [.lit (.bool true)], args := [d] }
  | _ => none }
def tokDoublesRow : OpenClaim := { program := "ytepbfgniocjagaadoor", sum := "f23f2ff4a3906cae0a8375c204ac66f8e94cb67ce5ee44e36ddbd13906584051", func := "rescript/rescriptlaw19.TokDoubles", spec := "tokDoubles", inPlace := ["internal/bytealg.CountString", "internal/bytealg.IndexByteString", "internal/bytealg.IndexString", "internal/abi.NoEscape", "internal/bytealg.MakeNoZero"], unfollowed := true, recurses := true, named := ["internal/bytealg.MaxLen", "unicode/utf8.first", "unicode/utf8.acceptRanges"], apart := false, laid := [("unicode/utf8.acceptRanges", laid_unicode_utf8_acceptRanges), ("unicode/utf8.first", laid_unicode_utf8_first)] }
def TokDoublesSaid : Prop := tokDoublesRow.holds Tryd.pinned (OpenSpec.ofChange tokDoublesSpec)

/-- ITS FALSE NEIGHBOUR: 'it returns false'. Refute it at one input. -/
def tokDoublesWrong : ChangeSpec := { name := "tokDoubles", fn := fun _ => fun
  | [d] => { results := [.lit (.bool false)], args := [d] }
  | _ => none }
def TokDoublesWrongFalsely : Prop := tokDoublesRow.holds Tryd.pinned (OpenSpec.ofChange tokDoublesWrong)

/- THE SECOND FORM. 'bulk': how many values and letters a reading holds, each counted each time it is reached (what is shared counts as often as it is met; a slice's spare places count too). A statement '..UptoSaid' is the law's where the arguments, and the package variables that the reading takes, are together of bulk at most 1048576: NARROWER than '..Said'. Prove '..Said' where nothing that the law and all that it calls make is longer than what came in: it says more and counts as full. Else prove '..UptoSaid'. A law counts once. -/
mutual
def uptoBulk {H : Type} : DataW H → Nat
  | .lit (.string bytes) => bytes.length + 1
  | .lit _ => 1
  | .nil => 1
  | .ptr d => uptoBulk d + 1
  | .slice elems spare => uptoBulkAll elems + uptoBulkAll spare + 1
  | .agg parts => uptoBulkAll parts + 1
  | .iface _ d => uptoBulk d + 1
  | .map entries => uptoBulkEntries entries + 1
  | .held _ => 1
def uptoBulkAll {H : Type} : List (DataW H) → Nat
  | [] => 0
  | d :: r => uptoBulk d + uptoBulkAll r
def uptoBulkEntries {H : Type} : List (Lit × DataW H) → Nat
  | [] => 0
  | x :: r => uptoBulkEntry x + uptoBulkEntries r
def uptoBulkEntry {H : Type} : Lit × DataW H → Nat
  | (.string bytes, d) => bytes.length + uptoBulk d + 1
  | (_, d) => uptoBulk d + 1
 end
def uptoSmall : (H : Type) → List (DataW H) → Bool := fun _ ds => decide (uptoBulkAll ds ≤ 1048576)
def OpenSpec.upto (s : _root_.Go.ChangeSpec) : _root_.Go.OpenSpec := { _root_.Go.OpenSpec.ofChange s with cond := some uptoSmall }

/-- 'rescriptlaw17.LineRemarks', WHERE WHAT IT READS IS OF BULK AT MOST 1048576: true; the input reads as it did. -/
def lineRemarksUptoRow : OpenClaim := { program := "ytepbfgniocjagaadoor", sum := "f23f2ff4a3906cae0a8375c204ac66f8e94cb67ce5ee44e36ddbd13906584051", func := "rescript/rescriptlaw17.LineRemarks", spec := "lineRemarks", inPlace := ["internal/bytealg.CountString", "internal/bytealg.IndexByteString", "internal/bytealg.IndexString", "internal/abi.NoEscape", "internal/bytealg.MakeNoZero"], unfollowed := true, recurses := true, named := ["internal/bytealg.MaxLen", "unicode/utf8.first", "unicode/utf8.acceptRanges"], apart := false, laid := [("unicode/utf8.acceptRanges", laid_unicode_utf8_acceptRanges), ("unicode/utf8.first", laid_unicode_utf8_first)], narrowed := true }
def LineRemarksUptoSaid : Prop := lineRemarksUptoRow.holds Tryd.pinned (OpenSpec.upto lineRemarksSpec)

/-- 'rescriptlaw19.TokReads', WHERE WHAT IT READS IS OF BULK AT MOST 1048576: true; the input reads as it did. -/
def tokReadsUptoRow : OpenClaim := { program := "ytepbfgniocjagaadoor", sum := "f23f2ff4a3906cae0a8375c204ac66f8e94cb67ce5ee44e36ddbd13906584051", func := "rescript/rescriptlaw19.TokReads", spec := "tokReads", inPlace := ["internal/bytealg.CountString", "internal/bytealg.IndexByteString", "internal/bytealg.IndexString"], unfollowed := true, recurses := true, named := ["internal/bytealg.MaxLen", "unicode/utf8.first", "unicode/utf8.acceptRanges"], apart := false, laid := [("unicode/utf8.acceptRanges", laid_unicode_utf8_acceptRanges), ("unicode/utf8.first", laid_unicode_utf8_first)], narrowed := true }
def TokReadsUptoSaid : Prop := tokReadsUptoRow.holds Tryd.pinned (OpenSpec.upto tokReadsSpec)

/-- 'rescriptlaw19.TokLines', WHERE WHAT IT READS IS OF BULK AT MOST 1048576: true; the input reads as it did. -/
def tokLinesUptoRow : OpenClaim := { program := "ytepbfgniocjagaadoor", sum := "f23f2ff4a3906cae0a8375c204ac66f8e94cb67ce5ee44e36ddbd13906584051", func := "rescript/rescriptlaw19.TokLines", spec := "tokLines", inPlace := ["internal/bytealg.CountString", "internal/bytealg.IndexByteString", "internal/bytealg.IndexString"], unfollowed := true, recurses := true, named := ["internal/bytealg.MaxLen", "unicode/utf8.first", "unicode/utf8.acceptRanges"], apart := false, laid := [("unicode/utf8.acceptRanges", laid_unicode_utf8_acceptRanges), ("unicode/utf8.first", laid_unicode_utf8_first)], narrowed := true }
def TokLinesUptoSaid : Prop := tokLinesUptoRow.holds Tryd.pinned (OpenSpec.upto tokLinesSpec)

/-- 'rescriptlaw19.TokNests', WHERE WHAT IT READS IS OF BULK AT MOST 1048576: true; the input reads as it did. -/
def tokNestsUptoRow : OpenClaim := { program := "ytepbfgniocjagaadoor", sum := "f23f2ff4a3906cae0a8375c204ac66f8e94cb67ce5ee44e36ddbd13906584051", func := "rescript/rescriptlaw19.TokNests", spec := "tokNests", inPlace := ["internal/bytealg.CountString", "internal/bytealg.IndexByteString", "internal/bytealg.IndexString"], unfollowed := true, recurses := true, named := ["internal/bytealg.MaxLen", "unicode/utf8.first", "unicode/utf8.acceptRanges"], apart := false, laid := [("unicode/utf8.acceptRanges", laid_unicode_utf8_acceptRanges), ("unicode/utf8.first", laid_unicode_utf8_first)], narrowed := true }
def TokNestsUptoSaid : Prop := tokNestsUptoRow.holds Tryd.pinned (OpenSpec.upto tokNestsSpec)

/-- 'rescriptlaw19.TokDoubles', WHERE WHAT IT READS IS OF BULK AT MOST 1048576: true; the input reads as it did. -/
def tokDoublesUptoRow : OpenClaim := { program := "ytepbfgniocjagaadoor", sum := "f23f2ff4a3906cae0a8375c204ac66f8e94cb67ce5ee44e36ddbd13906584051", func := "rescript/rescriptlaw19.TokDoubles", spec := "tokDoubles", inPlace := ["internal/bytealg.CountString", "internal/bytealg.IndexByteString", "internal/bytealg.IndexString", "internal/abi.NoEscape", "internal/bytealg.MakeNoZero"], unfollowed := true, recurses := true, named := ["internal/bytealg.MaxLen", "unicode/utf8.first", "unicode/utf8.acceptRanges"], apart := false, laid := [("unicode/utf8.acceptRanges", laid_unicode_utf8_acceptRanges), ("unicode/utf8.first", laid_unicode_utf8_first)], narrowed := true }
def TokDoublesUptoSaid : Prop := tokDoublesUptoRow.holds Tryd.pinned (OpenSpec.upto tokDoublesSpec)

end Rows
end Go.Proofs.YtepbfgniocjagaaDoor
