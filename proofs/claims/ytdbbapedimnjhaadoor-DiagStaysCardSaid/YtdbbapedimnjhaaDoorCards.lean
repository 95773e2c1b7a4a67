/-
  DERIVED. GIVEN WITH THE SEED: THE CARDS: each row of YtdbbapedimnjhaaDoorRows.lean that lists a variable, with what it lists TIED to the program's text (the seventh form; the later family's looks); each row that meets fmt, with fmt's text TOLD by the authors' own Lean function (tested against real Go, not proved from fmt's source: count such statements apart). THE CARD IS WHAT COUNTS. Prove the row's statement (the work); the ties are given (YtdbbapedimnjhaaDoorTie.lean); close each card by the builder's one call (the guide's Derived/Test/ToyasCard.lean, 'card_holds'). Laid BY PROGRAM, IN A SANDBOX (cutbox-door.mjs). By AI agents, Wed Nov 11 2026. No macro, syntax, notation, axiom, sorry.
-/
import Derived.Test.YtdbbapedimnjhaaDoorRows
import GoSem.ClaimSeven
namespace Go.Proofs.YtdbbapedimnjhaaDoor
namespace Rows

/-- THE TIED CARD OF 'rescriptlaw24.DiagSorts'. -/
def diagSortsCard : Claim7 := { stood := { row := diagSortsRow, standIns := [], harness := (true, "a96bd92ab24da81f45a9c73953cfc5458528a27a36a85b18719de01888a86d72"), looks := false }, kinds := [], alts := [], laidByText := true, laidKinds := [.data, .data, .data], laidTests := true, laidLooks := .later }
def DiagSortsCardSaid : Prop := Claim7.holds Tryd.pinned (.plain (OpenSpec.ofChange diagSortsSpec)) diagSortsCard

/-- THE TIED CARD OF 'rescriptlaw24.DiagTexts'. -/
def diagTextsCard : Claim7 := { stood := { row := diagTextsRow, standIns := [], harness := (true, "a96bd92ab24da81f45a9c73953cfc5458528a27a36a85b18719de01888a86d72"), looks := false }, kinds := [], alts := [], laidByText := true, laidKinds := [.data, .data, .data], laidTests := true, laidLooks := .later }
def DiagTextsCardSaid : Prop := Claim7.holds Tryd.pinned (.plain (OpenSpec.ofChange diagTextsSpec)) diagTextsCard

/-- THE TIED CARD OF 'rescriptlaw24.DiagStays'. -/
def diagStaysCard : Claim7 := { stood := { row := diagStaysRow, standIns := [], harness := (true, "a96bd92ab24da81f45a9c73953cfc5458528a27a36a85b18719de01888a86d72"), looks := false }, kinds := [], alts := [], laidByText := true, laidKinds := [.data, .data, .data], laidTests := true, laidLooks := .later }
def DiagStaysCardSaid : Prop := Claim7.holds Tryd.pinned (.plain (OpenSpec.ofChange diagStaysSpec)) diagStaysCard

/-- THE SECOND FORM's CARD OF 'rescriptlaw24.DiagSorts'. -/
def diagSortsUptoCard : Claim7 := { stood := { row := diagSortsUptoRow, standIns := [], harness := (true, "a96bd92ab24da81f45a9c73953cfc5458528a27a36a85b18719de01888a86d72"), looks := false }, kinds := [], alts := [], laidByText := true, laidKinds := [.data, .data, .data], laidTests := true, laidLooks := .later }
def DiagSortsUptoCardSaid : Prop := Claim7.holds Tryd.pinned (.plain (OpenSpec.upto diagSortsSpec)) diagSortsUptoCard

/-- THE SECOND FORM's CARD OF 'rescriptlaw24.DiagTexts'. -/
def diagTextsUptoCard : Claim7 := { stood := { row := diagTextsUptoRow, standIns := [], harness := (true, "a96bd92ab24da81f45a9c73953cfc5458528a27a36a85b18719de01888a86d72"), looks := false }, kinds := [], alts := [], laidByText := true, laidKinds := [.data, .data, .data], laidTests := true, laidLooks := .later }
def DiagTextsUptoCardSaid : Prop := Claim7.holds Tryd.pinned (.plain (OpenSpec.upto diagTextsSpec)) diagTextsUptoCard

/-- THE SECOND FORM's CARD OF 'rescriptlaw24.DiagStays'. -/
def diagStaysUptoCard : Claim7 := { stood := { row := diagStaysUptoRow, standIns := [], harness := (true, "a96bd92ab24da81f45a9c73953cfc5458528a27a36a85b18719de01888a86d72"), looks := false }, kinds := [], alts := [], laidByText := true, laidKinds := [.data, .data, .data], laidTests := true, laidLooks := .later }
def DiagStaysUptoCardSaid : Prop := Claim7.holds Tryd.pinned (.plain (OpenSpec.upto diagStaysSpec)) diagStaysUptoCard
end Rows
end Go.Proofs.YtdbbapedimnjhaaDoor
