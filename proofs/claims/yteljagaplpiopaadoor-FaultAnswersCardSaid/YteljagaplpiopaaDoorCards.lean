/-
  DERIVED. GIVEN WITH THE SEED: THE CARDS: each row of YteljagaplpiopaaDoorRows.lean that lists a variable, with what it lists TIED to the program's text (the seventh form; the later family's looks); each row that meets fmt, with fmt's text TOLD by the authors' own Lean function (tested against real Go, not proved from fmt's source: count such statements apart). THE CARD IS WHAT COUNTS. Prove the row's statement (the work); the ties are given (YteljagaplpiopaaDoorTie.lean); close each card by the builder's one call (the guide's Derived/Test/ToyasCard.lean, 'card_holds'). Laid BY PROGRAM, IN A SANDBOX (cutbox-door.mjs). By AI agents, Wed Nov 11 2026. No macro, syntax, notation, axiom, sorry.
-/
import Derived.Test.YteljagaplpiopaaDoorRows
import GoSem.ClaimSeven
namespace Go.Proofs.YteljagaplpiopaaDoor
namespace Rows

/-- THE TIED CARD OF 'paternosterlaw21.FaultCodes'. -/
def faultCodesCard : Claim7 := { stood := { row := faultCodesRow, standIns := [], harness := (true, "34c95d64086ee628f81532ec05e725f81ffc68dd2488fe223c7871e1b9607a1d"), looks := false }, kinds := [], alts := [], laidByText := true, laidKinds := [.data], laidTests := true, laidLooks := .later }
def FaultCodesCardSaid : Prop := Claim7.holds Tryd.pinned (.plain (OpenSpec.ofChange faultCodesSpec)) faultCodesCard

/-- THE TIED CARD OF 'paternosterlaw21.FaultAnswers'. -/
def faultAnswersCard : Claim7 := { stood := { row := faultAnswersRow, standIns := [], harness := (true, "34c95d64086ee628f81532ec05e725f81ffc68dd2488fe223c7871e1b9607a1d"), looks := false }, kinds := [], alts := [], laidByText := true, laidKinds := [.data, .data], laidTests := true, laidLooks := .later }
def FaultAnswersCardSaid : Prop := Claim7.holds Tryd.pinned (.plain (OpenSpec.ofChange faultAnswersSpec)) faultAnswersCard

/-- THE TIED CARD OF 'paternosterlaw21.FaultAll'. -/
def faultAllCard : Claim7 := { stood := { row := faultAllRow, standIns := [], harness := (true, "34c95d64086ee628f81532ec05e725f81ffc68dd2488fe223c7871e1b9607a1d"), looks := false }, kinds := [], alts := [], laidByText := true, laidKinds := [.data], laidTests := true, laidLooks := .later }
def FaultAllCardSaid : Prop := Claim7.holds Tryd.pinned (.plain (OpenSpec.ofChange faultAllSpec)) faultAllCard

/-- THE SECOND FORM's CARD OF 'paternosterlaw21.FaultCodes'. -/
def faultCodesUptoCard : Claim7 := { stood := { row := faultCodesUptoRow, standIns := [], harness := (true, "34c95d64086ee628f81532ec05e725f81ffc68dd2488fe223c7871e1b9607a1d"), looks := false }, kinds := [], alts := [], laidByText := true, laidKinds := [.data], laidTests := true, laidLooks := .later }
def FaultCodesUptoCardSaid : Prop := Claim7.holds Tryd.pinned (.plain (OpenSpec.upto faultCodesSpec)) faultCodesUptoCard

/-- THE SECOND FORM's CARD OF 'paternosterlaw21.FaultAnswers'. -/
def faultAnswersUptoCard : Claim7 := { stood := { row := faultAnswersUptoRow, standIns := [], harness := (true, "34c95d64086ee628f81532ec05e725f81ffc68dd2488fe223c7871e1b9607a1d"), looks := false }, kinds := [], alts := [], laidByText := true, laidKinds := [.data, .data], laidTests := true, laidLooks := .later }
def FaultAnswersUptoCardSaid : Prop := Claim7.holds Tryd.pinned (.plain (OpenSpec.upto faultAnswersSpec)) faultAnswersUptoCard

/-- THE SECOND FORM's CARD OF 'paternosterlaw21.FaultAll'. -/
def faultAllUptoCard : Claim7 := { stood := { row := faultAllUptoRow, standIns := [], harness := (true, "34c95d64086ee628f81532ec05e725f81ffc68dd2488fe223c7871e1b9607a1d"), looks := false }, kinds := [], alts := [], laidByText := true, laidKinds := [.data], laidTests := true, laidLooks := .later }
def FaultAllUptoCardSaid : Prop := Claim7.holds Tryd.pinned (.plain (OpenSpec.upto faultAllSpec)) faultAllUptoCard
end Rows
end Go.Proofs.YteljagaplpiopaaDoor
