/-
  DERIVED. GIVEN WITH THE SEED: THE CARDS: each row of YtihkjopplmdkkaaDoorRows.lean that lists a variable, with what it lists TIED to the program's text (the seventh form; the later family's looks); each row that meets fmt, with fmt's text TOLD by the authors' own Lean function (tested against real Go, not proved from fmt's source: count such statements apart). THE CARD IS WHAT COUNTS. Prove the row's statement (the work); the ties are given (YtihkjopplmdkkaaDoorTie.lean); close each card by the builder's one call (the guide's Derived/Test/ToyasCard.lean, 'card_holds'). Laid BY PROGRAM, IN A SANDBOX (cutbox-door.mjs). By AI agents, Wed Nov 11 2026. No macro, syntax, notation, axiom, sorry.
-/
import Derived.Test.YtihkjopplmdkkaaDoorRows
import GoSem.ClaimSeven
namespace Go.Proofs.YtihkjopplmdkkaaDoor
namespace Rows

/-- THE TIED CARD OF 'rescriptlaw17.LineReads'. -/
def lineReadsCard : Claim7 := { stood := { row := lineReadsRow, standIns := [], harness := (true, "b91eb717b36f1f3a3b4fe573a2c5ec05158807b510a14ac399c9832dcfe52544"), looks := true }, kinds := [], alts := [], laidByText := true, laidKinds := [.data, .pinned], laidTests := true, laidLooks := .later }
def LineReadsCardSaid : Prop := Claim7.holds Tryd.pinned (.plain (OpenSpec.ofChange lineReadsSpec)) lineReadsCard

/-- THE TIED CARD OF 'rescriptlaw17.LineJoins'. -/
def lineJoinsCard : Claim7 := { stood := { row := lineJoinsRow, standIns := [], harness := (true, "b91eb717b36f1f3a3b4fe573a2c5ec05158807b510a14ac399c9832dcfe52544"), looks := true }, kinds := [], alts := [], laidByText := true, laidKinds := [.data, .pinned], laidTests := true, laidLooks := .later }
def LineJoinsCardSaid : Prop := Claim7.holds Tryd.pinned (.plain (OpenSpec.ofChange lineJoinsSpec)) lineJoinsCard

/-- THE TIED CARD OF 'rescriptlaw17.LineRemarks'. -/
def lineRemarksCard : Claim7 := { stood := { row := lineRemarksRow, standIns := [], harness := (true, "b91eb717b36f1f3a3b4fe573a2c5ec05158807b510a14ac399c9832dcfe52544"), looks := true }, kinds := [], alts := [], laidByText := true, laidKinds := [.data, .pinned], laidTests := true, laidLooks := .later }
def LineRemarksCardSaid : Prop := Claim7.holds Tryd.pinned (.plain (OpenSpec.ofChange lineRemarksSpec)) lineRemarksCard

/-- THE TIED CARD OF 'rescriptlaw18.ScalarReads'. -/
def scalarReadsCard : Claim7 := { stood := { row := scalarReadsRow, standIns := [], harness := (true, "b91eb717b36f1f3a3b4fe573a2c5ec05158807b510a14ac399c9832dcfe52544"), looks := true }, kinds := [], alts := [], laidByText := true, laidKinds := [.data, .data, .data, .sentinel, .sentinel], laidTests := true, laidLooks := .later }
def ScalarReadsCardSaid : Prop := Claim7.holds Tryd.pinned (.plain (OpenSpec.ofChange scalarReadsSpec)) scalarReadsCard

/-- THE TIED CARD OF 'rescriptlaw18.ScalarPuts'. -/
def scalarPutsCard : Claim7 := { stood := { row := scalarPutsRow, standIns := [], harness := (true, "b91eb717b36f1f3a3b4fe573a2c5ec05158807b510a14ac399c9832dcfe52544"), looks := true }, kinds := [], alts := [], laidByText := true, laidKinds := [.data, .data, .data, .sentinel, .sentinel], laidTests := true, laidLooks := .later }
def ScalarPutsCardSaid : Prop := Claim7.holds Tryd.pinned (.plain (OpenSpec.ofChange scalarPutsSpec)) scalarPutsCard

/-- THE TIED CARD OF 'rescriptlaw18.ScalarBack'. -/
def scalarBackCard : Claim7 := { stood := { row := scalarBackRow, standIns := [], harness := (true, "b91eb717b36f1f3a3b4fe573a2c5ec05158807b510a14ac399c9832dcfe52544"), looks := true }, kinds := [], alts := [], laidByText := true, laidKinds := [.data, .data, .data, .sentinel, .sentinel], laidTests := true, laidLooks := .later }
def ScalarBackCardSaid : Prop := Claim7.holds Tryd.pinned (.plain (OpenSpec.ofChange scalarBackSpec)) scalarBackCard

/-- THE TIED CARD OF 'rescriptlaw18.ScalarNumbers'. -/
def scalarNumbersCard : Claim7 := { stood := { row := scalarNumbersRow, standIns := [], harness := (true, "b91eb717b36f1f3a3b4fe573a2c5ec05158807b510a14ac399c9832dcfe52544"), looks := true }, kinds := [], alts := [], laidByText := true, laidKinds := [.data, .data, .data, .sentinel, .sentinel], laidTests := true, laidLooks := .later }
def ScalarNumbersCardSaid : Prop := Claim7.holds Tryd.pinned (.plain (OpenSpec.ofChange scalarNumbersSpec)) scalarNumbersCard

/-- THE TIED CARD OF 'rescripttop.WholeLines'. -/
def wholeLinesCard : Claim7 := { stood := { row := wholeLinesRow, standIns := [], harness := (true, "b91eb717b36f1f3a3b4fe573a2c5ec05158807b510a14ac399c9832dcfe52544"), looks := true }, kinds := [], alts := [], laidByText := true, laidKinds := [.data, .pinned], laidTests := true, laidLooks := .later }
def WholeLinesCardSaid : Prop := Claim7.holds Tryd.pinned (.plain (OpenSpec.ofChange wholeLinesSpec)) wholeLinesCard

/-- THE SECOND FORM's CARD OF 'rescriptlaw17.LineReads'. -/
def lineReadsUptoCard : Claim7 := { stood := { row := lineReadsUptoRow, standIns := [], harness := (true, "b91eb717b36f1f3a3b4fe573a2c5ec05158807b510a14ac399c9832dcfe52544"), looks := true }, kinds := [], alts := [], laidByText := true, laidKinds := [.data, .pinned], laidTests := true, laidLooks := .later }
def LineReadsUptoCardSaid : Prop := Claim7.holds Tryd.pinned (.plain (OpenSpec.upto lineReadsSpec)) lineReadsUptoCard

/-- THE SECOND FORM's CARD OF 'rescriptlaw17.LineJoins'. -/
def lineJoinsUptoCard : Claim7 := { stood := { row := lineJoinsUptoRow, standIns := [], harness := (true, "b91eb717b36f1f3a3b4fe573a2c5ec05158807b510a14ac399c9832dcfe52544"), looks := true }, kinds := [], alts := [], laidByText := true, laidKinds := [.data, .pinned], laidTests := true, laidLooks := .later }
def LineJoinsUptoCardSaid : Prop := Claim7.holds Tryd.pinned (.plain (OpenSpec.upto lineJoinsSpec)) lineJoinsUptoCard

/-- THE SECOND FORM's CARD OF 'rescriptlaw17.LineRemarks'. -/
def lineRemarksUptoCard : Claim7 := { stood := { row := lineRemarksUptoRow, standIns := [], harness := (true, "b91eb717b36f1f3a3b4fe573a2c5ec05158807b510a14ac399c9832dcfe52544"), looks := true }, kinds := [], alts := [], laidByText := true, laidKinds := [.data, .pinned], laidTests := true, laidLooks := .later }
def LineRemarksUptoCardSaid : Prop := Claim7.holds Tryd.pinned (.plain (OpenSpec.upto lineRemarksSpec)) lineRemarksUptoCard

/-- THE SECOND FORM's CARD OF 'rescriptlaw18.ScalarReads'. -/
def scalarReadsUptoCard : Claim7 := { stood := { row := scalarReadsUptoRow, standIns := [], harness := (true, "b91eb717b36f1f3a3b4fe573a2c5ec05158807b510a14ac399c9832dcfe52544"), looks := true }, kinds := [], alts := [], laidByText := true, laidKinds := [.data, .data, .data, .sentinel, .sentinel], laidTests := true, laidLooks := .later }
def ScalarReadsUptoCardSaid : Prop := Claim7.holds Tryd.pinned (.plain (OpenSpec.upto scalarReadsSpec)) scalarReadsUptoCard

/-- THE SECOND FORM's CARD OF 'rescriptlaw18.ScalarPuts'. -/
def scalarPutsUptoCard : Claim7 := { stood := { row := scalarPutsUptoRow, standIns := [], harness := (true, "b91eb717b36f1f3a3b4fe573a2c5ec05158807b510a14ac399c9832dcfe52544"), looks := true }, kinds := [], alts := [], laidByText := true, laidKinds := [.data, .data, .data, .sentinel, .sentinel], laidTests := true, laidLooks := .later }
def ScalarPutsUptoCardSaid : Prop := Claim7.holds Tryd.pinned (.plain (OpenSpec.upto scalarPutsSpec)) scalarPutsUptoCard

/-- THE SECOND FORM's CARD OF 'rescriptlaw18.ScalarBack'. -/
def scalarBackUptoCard : Claim7 := { stood := { row := scalarBackUptoRow, standIns := [], harness := (true, "b91eb717b36f1f3a3b4fe573a2c5ec05158807b510a14ac399c9832dcfe52544"), looks := true }, kinds := [], alts := [], laidByText := true, laidKinds := [.data, .data, .data, .sentinel, .sentinel], laidTests := true, laidLooks := .later }
def ScalarBackUptoCardSaid : Prop := Claim7.holds Tryd.pinned (.plain (OpenSpec.upto scalarBackSpec)) scalarBackUptoCard

/-- THE SECOND FORM's CARD OF 'rescriptlaw18.ScalarNumbers'. -/
def scalarNumbersUptoCard : Claim7 := { stood := { row := scalarNumbersUptoRow, standIns := [], harness := (true, "b91eb717b36f1f3a3b4fe573a2c5ec05158807b510a14ac399c9832dcfe52544"), looks := true }, kinds := [], alts := [], laidByText := true, laidKinds := [.data, .data, .data, .sentinel, .sentinel], laidTests := true, laidLooks := .later }
def ScalarNumbersUptoCardSaid : Prop := Claim7.holds Tryd.pinned (.plain (OpenSpec.upto scalarNumbersSpec)) scalarNumbersUptoCard

/-- THE SECOND FORM's CARD OF 'rescripttop.WholeLines'. -/
def wholeLinesUptoCard : Claim7 := { stood := { row := wholeLinesUptoRow, standIns := [], harness := (true, "b91eb717b36f1f3a3b4fe573a2c5ec05158807b510a14ac399c9832dcfe52544"), looks := true }, kinds := [], alts := [], laidByText := true, laidKinds := [.data, .pinned], laidTests := true, laidLooks := .later }
def WholeLinesUptoCardSaid : Prop := Claim7.holds Tryd.pinned (.plain (OpenSpec.upto wholeLinesSpec)) wholeLinesUptoCard
end Rows
end Go.Proofs.YtihkjopplmdkkaaDoor
