/-
  DERIVED. GIVEN WITH THE SEED: THE CARDS: each row of YtepbfgniocjagaaDoorRows.lean that lists a variable, with what it lists TIED to the program's text (the seventh form; the later family's looks); each row that meets fmt, with fmt's text TOLD by the authors' own Lean function (tested against real Go, not proved from fmt's source: count such statements apart). THE CARD IS WHAT COUNTS. Prove the row's statement (the work); the ties are given (YtepbfgniocjagaaDoorTie.lean); close each card by the builder's one call (the guide's Derived/Test/ToyasCard.lean, 'card_holds'). Laid BY PROGRAM, IN A SANDBOX (cutbox-door.mjs). By AI agents, Wed Nov 11 2026. No macro, syntax, notation, axiom, sorry.
-/
import Derived.Test.YtepbfgniocjagaaDoorRows
import GoSem.ClaimSeven
namespace Go.Proofs.YtepbfgniocjagaaDoor
namespace Rows

/-- THE TIED CARD OF 'rescriptlaw17.LineRemarks'. -/
def lineRemarksCard : Claim7 := { stood := { row := lineRemarksRow, standIns := [], harness := (true, "a2f5e2151700a2ae6723088cd67d439f8121d8525f8ad04a1a2c2b80490604d9"), looks := false }, kinds := [], alts := [], laidByText := true, laidKinds := [.data, .pinned], laidTests := true, laidLooks := .later }
def LineRemarksCardSaid : Prop := Claim7.holds Tryd.pinned (.plain (OpenSpec.ofChange lineRemarksSpec)) lineRemarksCard

/-- THE TIED CARD OF 'rescriptlaw19.TokReads'. -/
def tokReadsCard : Claim7 := { stood := { row := tokReadsRow, standIns := [], harness := (true, "a2f5e2151700a2ae6723088cd67d439f8121d8525f8ad04a1a2c2b80490604d9"), looks := false }, kinds := [], alts := [], laidByText := true, laidKinds := [.data, .pinned], laidTests := true, laidLooks := .later }
def TokReadsCardSaid : Prop := Claim7.holds Tryd.pinned (.plain (OpenSpec.ofChange tokReadsSpec)) tokReadsCard

/-- THE TIED CARD OF 'rescriptlaw19.TokLines'. -/
def tokLinesCard : Claim7 := { stood := { row := tokLinesRow, standIns := [], harness := (true, "a2f5e2151700a2ae6723088cd67d439f8121d8525f8ad04a1a2c2b80490604d9"), looks := false }, kinds := [], alts := [], laidByText := true, laidKinds := [.data, .pinned], laidTests := true, laidLooks := .later }
def TokLinesCardSaid : Prop := Claim7.holds Tryd.pinned (.plain (OpenSpec.ofChange tokLinesSpec)) tokLinesCard

/-- THE TIED CARD OF 'rescriptlaw19.TokNests'. -/
def tokNestsCard : Claim7 := { stood := { row := tokNestsRow, standIns := [], harness := (true, "a2f5e2151700a2ae6723088cd67d439f8121d8525f8ad04a1a2c2b80490604d9"), looks := false }, kinds := [], alts := [], laidByText := true, laidKinds := [.data, .pinned], laidTests := true, laidLooks := .later }
def TokNestsCardSaid : Prop := Claim7.holds Tryd.pinned (.plain (OpenSpec.ofChange tokNestsSpec)) tokNestsCard

/-- THE TIED CARD OF 'rescriptlaw19.TokDoubles'. -/
def tokDoublesCard : Claim7 := { stood := { row := tokDoublesRow, standIns := [], harness := (true, "a2f5e2151700a2ae6723088cd67d439f8121d8525f8ad04a1a2c2b80490604d9"), looks := false }, kinds := [], alts := [], laidByText := true, laidKinds := [.data, .pinned], laidTests := true, laidLooks := .later }
def TokDoublesCardSaid : Prop := Claim7.holds Tryd.pinned (.plain (OpenSpec.ofChange tokDoublesSpec)) tokDoublesCard

/-- THE SECOND FORM's CARD OF 'rescriptlaw17.LineRemarks'. -/
def lineRemarksUptoCard : Claim7 := { stood := { row := lineRemarksUptoRow, standIns := [], harness := (true, "a2f5e2151700a2ae6723088cd67d439f8121d8525f8ad04a1a2c2b80490604d9"), looks := false }, kinds := [], alts := [], laidByText := true, laidKinds := [.data, .pinned], laidTests := true, laidLooks := .later }
def LineRemarksUptoCardSaid : Prop := Claim7.holds Tryd.pinned (.plain (OpenSpec.upto lineRemarksSpec)) lineRemarksUptoCard

/-- THE SECOND FORM's CARD OF 'rescriptlaw19.TokReads'. -/
def tokReadsUptoCard : Claim7 := { stood := { row := tokReadsUptoRow, standIns := [], harness := (true, "a2f5e2151700a2ae6723088cd67d439f8121d8525f8ad04a1a2c2b80490604d9"), looks := false }, kinds := [], alts := [], laidByText := true, laidKinds := [.data, .pinned], laidTests := true, laidLooks := .later }
def TokReadsUptoCardSaid : Prop := Claim7.holds Tryd.pinned (.plain (OpenSpec.upto tokReadsSpec)) tokReadsUptoCard

/-- THE SECOND FORM's CARD OF 'rescriptlaw19.TokLines'. -/
def tokLinesUptoCard : Claim7 := { stood := { row := tokLinesUptoRow, standIns := [], harness := (true, "a2f5e2151700a2ae6723088cd67d439f8121d8525f8ad04a1a2c2b80490604d9"), looks := false }, kinds := [], alts := [], laidByText := true, laidKinds := [.data, .pinned], laidTests := true, laidLooks := .later }
def TokLinesUptoCardSaid : Prop := Claim7.holds Tryd.pinned (.plain (OpenSpec.upto tokLinesSpec)) tokLinesUptoCard

/-- THE SECOND FORM's CARD OF 'rescriptlaw19.TokNests'. -/
def tokNestsUptoCard : Claim7 := { stood := { row := tokNestsUptoRow, standIns := [], harness := (true, "a2f5e2151700a2ae6723088cd67d439f8121d8525f8ad04a1a2c2b80490604d9"), looks := false }, kinds := [], alts := [], laidByText := true, laidKinds := [.data, .pinned], laidTests := true, laidLooks := .later }
def TokNestsUptoCardSaid : Prop := Claim7.holds Tryd.pinned (.plain (OpenSpec.upto tokNestsSpec)) tokNestsUptoCard

/-- THE SECOND FORM's CARD OF 'rescriptlaw19.TokDoubles'. -/
def tokDoublesUptoCard : Claim7 := { stood := { row := tokDoublesUptoRow, standIns := [], harness := (true, "a2f5e2151700a2ae6723088cd67d439f8121d8525f8ad04a1a2c2b80490604d9"), looks := false }, kinds := [], alts := [], laidByText := true, laidKinds := [.data, .pinned], laidTests := true, laidLooks := .later }
def TokDoublesUptoCardSaid : Prop := Claim7.holds Tryd.pinned (.plain (OpenSpec.upto tokDoublesSpec)) tokDoublesUptoCard
end Rows
end Go.Proofs.YtepbfgniocjagaaDoor
