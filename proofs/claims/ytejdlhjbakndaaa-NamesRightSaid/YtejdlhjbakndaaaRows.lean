/-
  NARROWER THAN 'FOR EVERY INPUT', by the rows' own cells (each row's printed sentence says how): NamesChecks: loops · NamesRefs: loops · NamesRight: loops · BoundsChecks: loops · BoundsReal: loops · BoundsPoints: loops.
  DERIVED. THE GIVEN ROWS OF THIS SEAT. 6 by the template 'for every input the law returns true; each argument reads behind the call as it read before'; 0 by the template 'total and deterministic' (their statements: YtejdlhjbakndaaaTotals.lean).
  GIVEN WITH THE SEED: the statements are not yours to turn. If you find one false, say at which input.
  Laid BY PROGRAM, IN A SANDBOX (cutbox-rows.mjs): the forced cells as the released guide's own fill.sh prints them over the translation c4572e1330a30704… (all of the seat's roots in one cut). By AI agents, Wed Nov 11 2026. No macro, syntax, notation, axiom, sorry.
-/
import Derived.Test.YtejdlhjbakndaaaChecked
import GoSem.Claim
import GoSem.ClaimJoined
import GoSem.ClaimMapViews
import Derived.JoinedTies
import Derived.KernelRfl
namespace Go.Proofs.Ytejdlhjbakndaaa
/- THE CELL 'sum', in the pinned program and in every row, IS THE sha256 OF THE DUMP (.gsa) THAT YtejdlhjbakndaaaProg.lean LOADS. Nothing in Lean hashes anything: it is a label: what it is worth is what the hold of that sum in a sandbox is worth. -/
noncomputable def Try.pinned : Pinned := { name := "ytejdlhjbakndaaa", sum := "c4572e1330a30704cba59ef5fddc117861bb65450a39de346d5bd9511e123326", checked := Try.checked }
namespace Rows
def none {H : Type} : Left H := { results := [], args := [] }

/-- 'rescriptlaw25.NamesChecks': WHATEVER THE INPUT: true; the input reads as it did. -/
def namesChecksSpec : ChangeSpec := { name := "namesChecks", fn := fun _ => fun
  | [d1, d2] => { results := [.lit (.bool true)], args := [d1, d2] }
  | _ => none }
def namesChecksRow : OpenClaim := { program := "ytejdlhjbakndaaa", sum := "c4572e1330a30704cba59ef5fddc117861bb65450a39de346d5bd9511e123326", func := "rescript/rescriptlaw25.NamesChecks", spec := "namesChecks", inPlace := ["internal/bytealg.IndexByteString"], unfollowed := true, recurses := true, loops := true, plainKeys := false, apart := false }
def NamesChecksSaid : Prop := namesChecksRow.holds Try.pinned (OpenSpec.ofChange namesChecksSpec)

/-- ITS FALSE NEIGHBOUR: 'it returns false'. Refute it at one input. -/
def namesChecksWrong : ChangeSpec := { name := "namesChecks", fn := fun _ => fun
  | [d1, d2] => { results := [.lit (.bool false)], args := [d1, d2] }
  | _ => none }
def NamesChecksWrongFalsely : Prop := namesChecksRow.holds Try.pinned (OpenSpec.ofChange namesChecksWrong)

/-- 'rescriptlaw25.NamesRefs': WHATEVER THE INPUT: true; the input reads as it did. -/
def namesRefsSpec : ChangeSpec := { name := "namesRefs", fn := fun _ => fun
  | [d] => { results := [.lit (.bool true)], args := [d] }
  | _ => none }
def namesRefsRow : OpenClaim := { program := "ytejdlhjbakndaaa", sum := "c4572e1330a30704cba59ef5fddc117861bb65450a39de346d5bd9511e123326", func := "rescript/rescriptlaw25.NamesRefs", spec := "namesRefs", inPlace := ["internal/bytealg.IndexByteString"], unfollowed := true, recurses := true, loops := true, plainKeys := false, apart := false }
def NamesRefsSaid : Prop := namesRefsRow.holds Try.pinned (OpenSpec.ofChange namesRefsSpec)

/-- ITS FALSE NEIGHBOUR: 'it returns false'. Refute it at one input. -/
def namesRefsWrong : ChangeSpec := { name := "namesRefs", fn := fun _ => fun
  | [d] => { results := [.lit (.bool false)], args := [d] }
  | _ => none }
def NamesRefsWrongFalsely : Prop := namesRefsRow.holds Try.pinned (OpenSpec.ofChange namesRefsWrong)

/-- 'rescriptlaw25.NamesRight': WHATEVER THE INPUT: true; the input reads as it did. -/
def namesRightSpec : ChangeSpec := { name := "namesRight", fn := fun _ => fun
  | [d] => { results := [.lit (.bool true)], args := [d] }
  | _ => none }
def namesRightRow : OpenClaim := { program := "ytejdlhjbakndaaa", sum := "c4572e1330a30704cba59ef5fddc117861bb65450a39de346d5bd9511e123326", func := "rescript/rescriptlaw25.NamesRight", spec := "namesRight", inPlace := ["internal/bytealg.IndexByteString"], unfollowed := true, recurses := true, loops := true, plainKeys := false, apart := false }
def NamesRightSaid : Prop := namesRightRow.holds Try.pinned (OpenSpec.ofChange namesRightSpec)

/-- ITS FALSE NEIGHBOUR: 'it returns false'. Refute it at one input. -/
def namesRightWrong : ChangeSpec := { name := "namesRight", fn := fun _ => fun
  | [d] => { results := [.lit (.bool false)], args := [d] }
  | _ => none }
def NamesRightWrongFalsely : Prop := namesRightRow.holds Try.pinned (OpenSpec.ofChange namesRightWrong)

/-- 'rescriptlaw27.BoundsChecks': WHATEVER THE INPUT: true; the input reads as it did. -/
def boundsChecksSpec : ChangeSpec := { name := "boundsChecks", fn := fun _ => fun
  | [d] => { results := [.lit (.bool true)], args := [d] }
  | _ => none }
def boundsChecksRow : OpenClaim := { program := "ytejdlhjbakndaaa", sum := "c4572e1330a30704cba59ef5fddc117861bb65450a39de346d5bd9511e123326", func := "rescript/rescriptlaw27.BoundsChecks", spec := "boundsChecks", unfollowed := true, recurses := true, loops := true, plainKeys := false, apart := false }
def BoundsChecksSaid : Prop := boundsChecksRow.holds Try.pinned (OpenSpec.ofChange boundsChecksSpec)

/-- ITS FALSE NEIGHBOUR: 'it returns false'. Refute it at one input. -/
def boundsChecksWrong : ChangeSpec := { name := "boundsChecks", fn := fun _ => fun
  | [d] => { results := [.lit (.bool false)], args := [d] }
  | _ => none }
def BoundsChecksWrongFalsely : Prop := boundsChecksRow.holds Try.pinned (OpenSpec.ofChange boundsChecksWrong)

/-- 'rescriptlaw27.BoundsReal': WHATEVER THE INPUT: true; the input reads as it did. -/
def boundsRealSpec : ChangeSpec := { name := "boundsReal", fn := fun _ => fun
  | [d] => { results := [.lit (.bool true)], args := [d] }
  | _ => none }
def boundsRealRow : OpenClaim := { program := "ytejdlhjbakndaaa", sum := "c4572e1330a30704cba59ef5fddc117861bb65450a39de346d5bd9511e123326", func := "rescript/rescriptlaw27.BoundsReal", spec := "boundsReal", unfollowed := true, recurses := true, loops := true, plainKeys := false, apart := false }
def BoundsRealSaid : Prop := boundsRealRow.holds Try.pinned (OpenSpec.ofChange boundsRealSpec)

/-- ITS FALSE NEIGHBOUR: 'it returns false'. Refute it at one input. -/
def boundsRealWrong : ChangeSpec := { name := "boundsReal", fn := fun _ => fun
  | [d] => { results := [.lit (.bool false)], args := [d] }
  | _ => none }
def BoundsRealWrongFalsely : Prop := boundsRealRow.holds Try.pinned (OpenSpec.ofChange boundsRealWrong)

/-- 'rescriptlaw27.BoundsPoints': WHATEVER THE INPUT: true; the input reads as it did. -/
def boundsPointsSpec : ChangeSpec := { name := "boundsPoints", fn := fun _ => fun
  | [d] => { results := [.lit (.bool true)], args := [d] }
  | _ => none }
def boundsPointsRow : OpenClaim := { program := "ytejdlhjbakndaaa", sum := "c4572e1330a30704cba59ef5fddc117861bb65450a39de346d5bd9511e123326", func := "rescript/rescriptlaw27.BoundsPoints", spec := "boundsPoints", unfollowed := true, recurses := true, loops := true, plainKeys := false, apart := false }
def BoundsPointsSaid : Prop := boundsPointsRow.holds Try.pinned (OpenSpec.ofChange boundsPointsSpec)

/-- ITS FALSE NEIGHBOUR: 'it returns false'. Refute it at one input. -/
def boundsPointsWrong : ChangeSpec := { name := "boundsPoints", fn := fun _ => fun
  | [d] => { results := [.lit (.bool false)], args := [d] }
  | _ => none }
def BoundsPointsWrongFalsely : Prop := boundsPointsRow.holds Try.pinned (OpenSpec.ofChange boundsPointsWrong)

/- THE SECOND FORM. 'bulk': how many values and letters a reading holds, each counted each time it is reached (what is shared counts as often as it is met; a slice's spare places count too). A statement '..UptoSaid' is the law's where the arguments, and the package variables that the reading takes, are together of bulk at most 1048576: NARROWER than '..Said'. Prove '..Said' where nothing that the law and all that it calls make is longer than what came in: it says more and counts as full. Else prove '..UptoSaid'. A law counts once. -/
mutual
def uptoBulk {H : Type} : DataW H → Nat
  | .lit (.string bytes) => bytes.length + 1
  | .lit _ => 1
  | .nil => 1
  | .ptr d => uptoBulk d + 1
  | .slice elems spare => uptoBulkAll elems + uptoBulkAll spare + 1
  | .agg parts => uptoBulkAll parts + 1
  | .iface _ d => uptoBulk d + 1
  | .map entries => uptoBulkEntries entries + 1
  | .held _ => 1
def uptoBulkAll {H : Type} : List (DataW H) → Nat
  | [] => 0
  | d :: r => uptoBulk d + uptoBulkAll r
def uptoBulkEntries {H : Type} : List (Lit × DataW H) → Nat
  | [] => 0
  | x :: r => uptoBulkEntry x + uptoBulkEntries r
def uptoBulkEntry {H : Type} : Lit × DataW H → Nat
  | (.string bytes, d) => bytes.length + uptoBulk d + 1
  | (_, d) => uptoBulk d + 1
 end
def uptoSmall : (H : Type) → List (DataW H) → Bool := fun _ ds => decide (uptoBulkAll ds ≤ 1048576)
def OpenSpec.upto (s : _root_.Go.ChangeSpec) : _root_.Go.OpenSpec := { _root_.Go.OpenSpec.ofChange s with cond := some uptoSmall }

/-- 'rescriptlaw25.NamesChecks', WHERE WHAT IT READS IS OF BULK AT MOST 1048576: true; the input reads as it did. -/
def namesChecksUptoRow : OpenClaim := { program := "ytejdlhjbakndaaa", sum := "c4572e1330a30704cba59ef5fddc117861bb65450a39de346d5bd9511e123326", func := "rescript/rescriptlaw25.NamesChecks", spec := "namesChecks", inPlace := ["internal/bytealg.IndexByteString"], unfollowed := true, recurses := true, loops := true, plainKeys := false, apart := false, narrowed := true }
def NamesChecksUptoSaid : Prop := namesChecksUptoRow.holds Try.pinned (OpenSpec.upto namesChecksSpec)

/-- 'rescriptlaw25.NamesRefs', WHERE WHAT IT READS IS OF BULK AT MOST 1048576: true; the input reads as it did. -/
def namesRefsUptoRow : OpenClaim := { program := "ytejdlhjbakndaaa", sum := "c4572e1330a30704cba59ef5fddc117861bb65450a39de346d5bd9511e123326", func := "rescript/rescriptlaw25.NamesRefs", spec := "namesRefs", inPlace := ["internal/bytealg.IndexByteString"], unfollowed := true, recurses := true, loops := true, plainKeys := false, apart := false, narrowed := true }
def NamesRefsUptoSaid : Prop := namesRefsUptoRow.holds Try.pinned (OpenSpec.upto namesRefsSpec)

/-- 'rescriptlaw25.NamesRight', WHERE WHAT IT READS IS OF BULK AT MOST 1048576: true; the input reads as it did. -/
def namesRightUptoRow : OpenClaim := { program := "ytejdlhjbakndaaa", sum := "c4572e1330a30704cba59ef5fddc117861bb65450a39de346d5bd9511e123326", func := "rescript/rescriptlaw25.NamesRight", spec := "namesRight", inPlace := ["internal/bytealg.IndexByteString"], unfollowed := true, recurses := true, loops := true, plainKeys := false, apart := false, narrowed := true }
def NamesRightUptoSaid : Prop := namesRightUptoRow.holds Try.pinned (OpenSpec.upto namesRightSpec)

/-- 'rescriptlaw27.BoundsChecks', WHERE WHAT IT READS IS OF BULK AT MOST 1048576: true; the input reads as it did. -/
def boundsChecksUptoRow : OpenClaim := { program := "ytejdlhjbakndaaa", sum := "c4572e1330a30704cba59ef5fddc117861bb65450a39de346d5bd9511e123326", func := "rescript/rescriptlaw27.BoundsChecks", spec := "boundsChecks", unfollowed := true, recurses := true, loops := true, plainKeys := false, apart := false, narrowed := true }
def BoundsChecksUptoSaid : Prop := boundsChecksUptoRow.holds Try.pinned (OpenSpec.upto boundsChecksSpec)

/-- 'rescriptlaw27.BoundsReal', WHERE WHAT IT READS IS OF BULK AT MOST 1048576: true; the input reads as it did. -/
def boundsRealUptoRow : OpenClaim := { program := "ytejdlhjbakndaaa", sum := "c4572e1330a30704cba59ef5fddc117861bb65450a39de346d5bd9511e123326", func := "rescript/rescriptlaw27.BoundsReal", spec := "boundsReal", unfollowed := true, recurses := true, loops := true, plainKeys := false, apart := false, narrowed := true }
def BoundsRealUptoSaid : Prop := boundsRealUptoRow.holds Try.pinned (OpenSpec.upto boundsRealSpec)

/-- 'rescriptlaw27.BoundsPoints', WHERE WHAT IT READS IS OF BULK AT MOST 1048576: true; the input reads as it did. -/
def boundsPointsUptoRow : OpenClaim := { program := "ytejdlhjbakndaaa", sum := "c4572e1330a30704cba59ef5fddc117861bb65450a39de346d5bd9511e123326", func := "rescript/rescriptlaw27.BoundsPoints", spec := "boundsPoints", unfollowed := true, recurses := true, loops := true, plainKeys := false, apart := false, narrowed := true }
def BoundsPointsUptoSaid : Prop := boundsPointsUptoRow.holds Try.pinned (OpenSpec.upto boundsPointsSpec)

end Rows
end Go.Proofs.Ytejdlhjbakndaaa
