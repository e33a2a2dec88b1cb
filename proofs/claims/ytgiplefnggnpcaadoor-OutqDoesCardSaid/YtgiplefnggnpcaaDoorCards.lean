/-
  DERIVED. GIVEN WITH THE SEED: THE CARDS: each row of YtgiplefnggnpcaaDoorRows.lean that lists a variable, with what it lists TIED to the program's text (the seventh form; the later family's looks); each row that meets fmt, with fmt's text TOLD by the authors' own Lean function (tested against real Go, not proved from fmt's source: count such statements apart). THE CARD IS WHAT COUNTS. Prove the row's statement (the work); the ties are given (YtgiplefnggnpcaaDoorTie.lean); close each card by the builder's one call (the guide's Derived/Test/ToyasCard.lean, 'card_holds'). Laid BY PROGRAM, IN A SANDBOX (cutbox-door.mjs). By AI agents, Wed Nov 11 2026. No macro, syntax, notation, axiom, sorry.
-/
import Derived.Test.YtgiplefnggnpcaaDoorRows
import GoSem.ClaimSeven
namespace Go.Proofs.YtgiplefnggnpcaaDoor
namespace Rows

/-- THE TIED CARD OF 'paternosterlaw25.OutqDoes'. -/
def outqDoesCard : Claim7 := { stood := { row := outqDoesRow, standIns := [], harness := (true, "0998cdf8d0b29c5ac174c4290f69bcb7eab681d1069f902b2f2f9deb6245c08e"), looks := false }, kinds := [], alts := [], laidByText := true, laidKinds := [.data], laidTests := true, laidLooks := .later }
def OutqDoesCardSaid : Prop := Claim7.holds Tryd.pinned (.plain (OpenSpec.ofChange outqDoesSpec)) outqDoesCard

/-- THE TIED CARD OF 'paternosterlaw25.OutqSums'. -/
def outqSumsCard : Claim7 := { stood := { row := outqSumsRow, standIns := [], harness := (true, "0998cdf8d0b29c5ac174c4290f69bcb7eab681d1069f902b2f2f9deb6245c08e"), looks := false }, kinds := [], alts := [], laidByText := true, laidKinds := [.data], laidTests := true, laidLooks := .later }
def OutqSumsCardSaid : Prop := Claim7.holds Tryd.pinned (.plain (OpenSpec.ofChange outqSumsSpec)) outqSumsCard

/-- THE TIED CARD OF 'paternosterlaw25.OutqNone'. -/
def outqNoneCard : Claim7 := { stood := { row := outqNoneRow, standIns := [], harness := (true, "0998cdf8d0b29c5ac174c4290f69bcb7eab681d1069f902b2f2f9deb6245c08e"), looks := false }, kinds := [], alts := [], laidByText := true, laidKinds := [.data], laidTests := true, laidLooks := .later }
def OutqNoneCardSaid : Prop := Claim7.holds Tryd.pinned (.plain (OpenSpec.ofChange outqNoneSpec)) outqNoneCard

/-- THE SECOND FORM's CARD OF 'paternosterlaw25.OutqDoes'. -/
def outqDoesUptoCard : Claim7 := { stood := { row := outqDoesUptoRow, standIns := [], harness := (true, "0998cdf8d0b29c5ac174c4290f69bcb7eab681d1069f902b2f2f9deb6245c08e"), looks := false }, kinds := [], alts := [], laidByText := true, laidKinds := [.data], laidTests := true, laidLooks := .later }
def OutqDoesUptoCardSaid : Prop := Claim7.holds Tryd.pinned (.plain (OpenSpec.upto outqDoesSpec)) outqDoesUptoCard

/-- THE SECOND FORM's CARD OF 'paternosterlaw25.OutqSums'. -/
def outqSumsUptoCard : Claim7 := { stood := { row := outqSumsUptoRow, standIns := [], harness := (true, "0998cdf8d0b29c5ac174c4290f69bcb7eab681d1069f902b2f2f9deb6245c08e"), looks := false }, kinds := [], alts := [], laidByText := true, laidKinds := [.data], laidTests := true, laidLooks := .later }
def OutqSumsUptoCardSaid : Prop := Claim7.holds Tryd.pinned (.plain (OpenSpec.upto outqSumsSpec)) outqSumsUptoCard

/-- THE SECOND FORM's CARD OF 'paternosterlaw25.OutqNone'. -/
def outqNoneUptoCard : Claim7 := { stood := { row := outqNoneUptoRow, standIns := [], harness := (true, "0998cdf8d0b29c5ac174c4290f69bcb7eab681d1069f902b2f2f9deb6245c08e"), looks := false }, kinds := [], alts := [], laidByText := true, laidKinds := [.data], laidTests := true, laidLooks := .later }
def OutqNoneUptoCardSaid : Prop := Claim7.holds Tryd.pinned (.plain (OpenSpec.upto outqNoneSpec)) outqNoneUptoCard
end Rows
end Go.Proofs.YtgiplefnggnpcaaDoor
