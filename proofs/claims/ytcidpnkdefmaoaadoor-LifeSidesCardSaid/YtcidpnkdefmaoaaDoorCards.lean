/-
  DERIVED. GIVEN WITH THE SEED: THE CARDS: each row of YtcidpnkdefmaoaaDoorRows.lean that lists a variable, with what it lists TIED to the program's text (the seventh form; the later family's looks); each row that meets fmt, with fmt's text TOLD by the authors' own Lean function (tested against real Go, not proved from fmt's source: count such statements apart). THE CARD IS WHAT COUNTS. Prove the row's statement (the work); the ties are given (YtcidpnkdefmaoaaDoorTie.lean); close each card by the builder's one call (the guide's Derived/Test/ToyasCard.lean, 'card_holds'). Laid BY PROGRAM, IN A SANDBOX (cutbox-door.mjs). By AI agents, Wed Nov 11 2026. No macro, syntax, notation, axiom, sorry.
-/
import Derived.Test.YtcidpnkdefmaoaaDoorRows
import GoSem.ClaimSeven
namespace Go.Proofs.YtcidpnkdefmaoaaDoor
namespace Rows

/-- THE TIED CARD OF 'paternosterlaw12.LifeNext'. -/
def lifeNextCard : Claim7 := { stood := { row := lifeNextRow, standIns := [], harness := (true, "5a9282394f477a74a22dadb1752f80a2ab52cc8ec99124d089d26ebf48030505"), looks := false }, kinds := [], alts := [], laidByText := true, laidKinds := [.data], laidTests := true, laidLooks := .later }
def LifeNextCardSaid : Prop := Claim7.holds Tryd.pinned (.plain (OpenSpec.ofChange lifeNextSpec)) lifeNextCard

/-- THE TIED CARD OF 'paternosterlaw12.LifeGoes'. -/
def lifeGoesCard : Claim7 := { stood := { row := lifeGoesRow, standIns := [], harness := (true, "5a9282394f477a74a22dadb1752f80a2ab52cc8ec99124d089d26ebf48030505"), looks := false }, kinds := [], alts := [], laidByText := true, laidKinds := [.data], laidTests := true, laidLooks := .later }
def LifeGoesCardSaid : Prop := Claim7.holds Tryd.pinned (.plain (OpenSpec.ofChange lifeGoesSpec)) lifeGoesCard

/-- THE TIED CARD OF 'paternosterlaw12.LifeSides'. -/
def lifeSidesCard : Claim7 := { stood := { row := lifeSidesRow, standIns := [], harness := (true, "5a9282394f477a74a22dadb1752f80a2ab52cc8ec99124d089d26ebf48030505"), looks := false }, kinds := [], alts := [], laidByText := true, laidKinds := [.data], laidTests := true, laidLooks := .later }
def LifeSidesCardSaid : Prop := Claim7.holds Tryd.pinned (.plain (OpenSpec.ofChange lifeSidesSpec)) lifeSidesCard

/-- THE TIED CARD OF 'paternosterlaw12.LifeNone'. -/
def lifeNoneCard : Claim7 := { stood := { row := lifeNoneRow, standIns := [], harness := (true, "5a9282394f477a74a22dadb1752f80a2ab52cc8ec99124d089d26ebf48030505"), looks := false }, kinds := [], alts := [], laidByText := true, laidKinds := [.data], laidTests := true, laidLooks := .later }
def LifeNoneCardSaid : Prop := Claim7.holds Tryd.pinned (.plain (OpenSpec.ofChange lifeNoneSpec)) lifeNoneCard

/-- THE SECOND FORM's CARD OF 'paternosterlaw12.LifeNext'. -/
def lifeNextUptoCard : Claim7 := { stood := { row := lifeNextUptoRow, standIns := [], harness := (true, "5a9282394f477a74a22dadb1752f80a2ab52cc8ec99124d089d26ebf48030505"), looks := false }, kinds := [], alts := [], laidByText := true, laidKinds := [.data], laidTests := true, laidLooks := .later }
def LifeNextUptoCardSaid : Prop := Claim7.holds Tryd.pinned (.plain (OpenSpec.upto lifeNextSpec)) lifeNextUptoCard

/-- THE SECOND FORM's CARD OF 'paternosterlaw12.LifeGoes'. -/
def lifeGoesUptoCard : Claim7 := { stood := { row := lifeGoesUptoRow, standIns := [], harness := (true, "5a9282394f477a74a22dadb1752f80a2ab52cc8ec99124d089d26ebf48030505"), looks := false }, kinds := [], alts := [], laidByText := true, laidKinds := [.data], laidTests := true, laidLooks := .later }
def LifeGoesUptoCardSaid : Prop := Claim7.holds Tryd.pinned (.plain (OpenSpec.upto lifeGoesSpec)) lifeGoesUptoCard

/-- THE SECOND FORM's CARD OF 'paternosterlaw12.LifeSides'. -/
def lifeSidesUptoCard : Claim7 := { stood := { row := lifeSidesUptoRow, standIns := [], harness := (true, "5a9282394f477a74a22dadb1752f80a2ab52cc8ec99124d089d26ebf48030505"), looks := false }, kinds := [], alts := [], laidByText := true, laidKinds := [.data], laidTests := true, laidLooks := .later }
def LifeSidesUptoCardSaid : Prop := Claim7.holds Tryd.pinned (.plain (OpenSpec.upto lifeSidesSpec)) lifeSidesUptoCard

/-- THE SECOND FORM's CARD OF 'paternosterlaw12.LifeNone'. -/
def lifeNoneUptoCard : Claim7 := { stood := { row := lifeNoneUptoRow, standIns := [], harness := (true, "5a9282394f477a74a22dadb1752f80a2ab52cc8ec99124d089d26ebf48030505"), looks := false }, kinds := [], alts := [], laidByText := true, laidKinds := [.data], laidTests := true, laidLooks := .later }
def LifeNoneUptoCardSaid : Prop := Claim7.holds Tryd.pinned (.plain (OpenSpec.upto lifeNoneSpec)) lifeNoneUptoCard
end Rows
end Go.Proofs.YtcidpnkdefmaoaaDoor
