/-
  DERIVED. GIVEN WITH THE SEED: THE CARDS: each row of YtjgoklccnecjcaaDoorRows.lean that lists a variable, with what it lists TIED to the program's text (the seventh form; the later family's looks); each row that meets fmt, with fmt's text TOLD by the authors' own Lean function (tested against real Go, not proved from fmt's source: count such statements apart). THE CARD IS WHAT COUNTS. Prove the row's statement (the work); the ties are given (YtjgoklccnecjcaaDoorTie.lean); close each card by the builder's one call (the guide's Derived/Test/ToyasCard.lean, 'card_holds'). Laid BY PROGRAM, IN A SANDBOX (cutbox-door.mjs). By AI agents, Wed Nov 11 2026. No macro, syntax, notation, axiom, sorry.
-/
import Derived.Test.YtjgoklccnecjcaaDoorRows
import GoSem.ClaimSeven
namespace Go.Proofs.YtjgoklccnecjcaaDoor
namespace Rows

/-- THE TIED CARD OF 'paternosterlaw02.HeaderPuts'. -/
def headerPutsCard : Claim7 := { stood := { row := headerPutsRow, standIns := [], harness := (true, "0d27a88ff03318ee6e2417360a3e268264b64e75d7892612fe13fe32a3ab7ace"), looks := false }, kinds := [], alts := [], laidByText := true, laidKinds := [.data], laidTests := true, laidLooks := .later }
def HeaderPutsCardSaid : Prop := Claim7.holds Tryd.pinned (.plain (OpenSpec.ofChange headerPutsSpec)) headerPutsCard

/-- THE TIED CARD OF 'paternosterlaw02.HeaderNeeds'. -/
def headerNeedsCard : Claim7 := { stood := { row := headerNeedsRow, standIns := [], harness := (true, "0d27a88ff03318ee6e2417360a3e268264b64e75d7892612fe13fe32a3ab7ace"), looks := false }, kinds := [], alts := [], laidByText := true, laidKinds := [.data], laidTests := true, laidLooks := .later }
def HeaderNeedsCardSaid : Prop := Claim7.holds Tryd.pinned (.plain (OpenSpec.ofChange headerNeedsSpec)) headerNeedsCard

/-- THE TIED CARD OF 'paternosterlaw02.HeaderBack'. -/
def headerBackCard : Claim7 := { stood := { row := headerBackRow, standIns := [], harness := (true, "0d27a88ff03318ee6e2417360a3e268264b64e75d7892612fe13fe32a3ab7ace"), looks := false }, kinds := [], alts := [], laidByText := true, laidKinds := [.data], laidTests := true, laidLooks := .later }
def HeaderBackCardSaid : Prop := Claim7.holds Tryd.pinned (.plain (OpenSpec.ofChange headerBackSpec)) headerBackCard

/-- THE SECOND FORM's CARD OF 'paternosterlaw02.HeaderPuts'. -/
def headerPutsUptoCard : Claim7 := { stood := { row := headerPutsUptoRow, standIns := [], harness := (true, "0d27a88ff03318ee6e2417360a3e268264b64e75d7892612fe13fe32a3ab7ace"), looks := false }, kinds := [], alts := [], laidByText := true, laidKinds := [.data], laidTests := true, laidLooks := .later }
def HeaderPutsUptoCardSaid : Prop := Claim7.holds Tryd.pinned (.plain (OpenSpec.upto headerPutsSpec)) headerPutsUptoCard

/-- THE SECOND FORM's CARD OF 'paternosterlaw02.HeaderNeeds'. -/
def headerNeedsUptoCard : Claim7 := { stood := { row := headerNeedsUptoRow, standIns := [], harness := (true, "0d27a88ff03318ee6e2417360a3e268264b64e75d7892612fe13fe32a3ab7ace"), looks := false }, kinds := [], alts := [], laidByText := true, laidKinds := [.data], laidTests := true, laidLooks := .later }
def HeaderNeedsUptoCardSaid : Prop := Claim7.holds Tryd.pinned (.plain (OpenSpec.upto headerNeedsSpec)) headerNeedsUptoCard

/-- THE SECOND FORM's CARD OF 'paternosterlaw02.HeaderBack'. -/
def headerBackUptoCard : Claim7 := { stood := { row := headerBackUptoRow, standIns := [], harness := (true, "0d27a88ff03318ee6e2417360a3e268264b64e75d7892612fe13fe32a3ab7ace"), looks := false }, kinds := [], alts := [], laidByText := true, laidKinds := [.data], laidTests := true, laidLooks := .later }
def HeaderBackUptoCardSaid : Prop := Claim7.holds Tryd.pinned (.plain (OpenSpec.upto headerBackSpec)) headerBackUptoCard
end Rows
end Go.Proofs.YtjgoklccnecjcaaDoor
