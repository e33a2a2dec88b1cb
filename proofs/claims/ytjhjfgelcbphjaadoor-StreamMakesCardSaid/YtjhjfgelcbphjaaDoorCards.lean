/-
  DERIVED. GIVEN WITH THE SEED: THE CARDS: each row of YtjhjfgelcbphjaaDoorRows.lean that lists a variable, with what it lists TIED to the program's text (the seventh form; the later family's looks); each row that meets fmt, with fmt's text TOLD by the authors' own Lean function (tested against real Go, not proved from fmt's source: count such statements apart). THE CARD IS WHAT COUNTS. Prove the row's statement (the work); the ties are given (YtjhjfgelcbphjaaDoorTie.lean); close each card by the builder's one call (the guide's Derived/Test/ToyasCard.lean, 'card_holds'). Laid BY PROGRAM, IN A SANDBOX (cutbox-door.mjs). By AI agents, Wed Nov 11 2026. No macro, syntax, notation, axiom, sorry.
-/
import Derived.Test.YtjhjfgelcbphjaaDoorRows
import GoSem.ClaimSeven
namespace Go.Proofs.YtjhjfgelcbphjaaDoor
namespace Rows

/-- THE TIED CARD OF 'paternosterlaw24.StreamMakes'. -/
def streamMakesCard : Claim7 := { stood := { row := streamMakesRow, standIns := [], harness := (true, "a1a8515527c65656e8c3b6cae8c90ecb35bd62688b5cf4bbb5626aa84c0b695b"), looks := false }, kinds := [], alts := [], laidByText := true, laidKinds := [.data], laidTests := true, laidLooks := .later }
def StreamMakesCardSaid : Prop := Claim7.holds Tryd.pinned (.plain (OpenSpec.ofChange streamMakesSpec)) streamMakesCard

/-- THE TIED CARD OF 'paternosterlaw24.StreamWhole'. -/
def streamWholeCard : Claim7 := { stood := { row := streamWholeRow, standIns := [], harness := (true, "a1a8515527c65656e8c3b6cae8c90ecb35bd62688b5cf4bbb5626aa84c0b695b"), looks := false }, kinds := [], alts := [], laidByText := true, laidKinds := [.data], laidTests := true, laidLooks := .later }
def StreamWholeCardSaid : Prop := Claim7.holds Tryd.pinned (.plain (OpenSpec.ofChange streamWholeSpec)) streamWholeCard

/-- THE TIED CARD OF 'paternosterlaw24.StreamComes'. -/
def streamComesCard : Claim7 := { stood := { row := streamComesRow, standIns := [], harness := (true, "a1a8515527c65656e8c3b6cae8c90ecb35bd62688b5cf4bbb5626aa84c0b695b"), looks := false }, kinds := [], alts := [], laidByText := true, laidKinds := [.data], laidTests := true, laidLooks := .later }
def StreamComesCardSaid : Prop := Claim7.holds Tryd.pinned (.plain (OpenSpec.ofChange streamComesSpec)) streamComesCard

/-- THE TIED CARD OF 'paternosterlaw24.StreamEnds'. -/
def streamEndsCard : Claim7 := { stood := { row := streamEndsRow, standIns := [], harness := (true, "a1a8515527c65656e8c3b6cae8c90ecb35bd62688b5cf4bbb5626aa84c0b695b"), looks := false }, kinds := [], alts := [], laidByText := true, laidKinds := [.data], laidTests := true, laidLooks := .later }
def StreamEndsCardSaid : Prop := Claim7.holds Tryd.pinned (.plain (OpenSpec.ofChange streamEndsSpec)) streamEndsCard

/-- THE TIED CARD OF 'paternosterlaw24.StreamNone'. -/
def streamNoneCard : Claim7 := { stood := { row := streamNoneRow, standIns := [], harness := (true, "a1a8515527c65656e8c3b6cae8c90ecb35bd62688b5cf4bbb5626aa84c0b695b"), looks := false }, kinds := [], alts := [], laidByText := true, laidKinds := [.data], laidTests := true, laidLooks := .later }
def StreamNoneCardSaid : Prop := Claim7.holds Tryd.pinned (.plain (OpenSpec.ofChange streamNoneSpec)) streamNoneCard

/-- THE SECOND FORM's CARD OF 'paternosterlaw24.StreamMakes'. -/
def streamMakesUptoCard : Claim7 := { stood := { row := streamMakesUptoRow, standIns := [], harness := (true, "a1a8515527c65656e8c3b6cae8c90ecb35bd62688b5cf4bbb5626aa84c0b695b"), looks := false }, kinds := [], alts := [], laidByText := true, laidKinds := [.data], laidTests := true, laidLooks := .later }
def StreamMakesUptoCardSaid : Prop := Claim7.holds Tryd.pinned (.plain (OpenSpec.upto streamMakesSpec)) streamMakesUptoCard

/-- THE SECOND FORM's CARD OF 'paternosterlaw24.StreamWhole'. -/
def streamWholeUptoCard : Claim7 := { stood := { row := streamWholeUptoRow, standIns := [], harness := (true, "a1a8515527c65656e8c3b6cae8c90ecb35bd62688b5cf4bbb5626aa84c0b695b"), looks := false }, kinds := [], alts := [], laidByText := true, laidKinds := [.data], laidTests := true, laidLooks := .later }
def StreamWholeUptoCardSaid : Prop := Claim7.holds Tryd.pinned (.plain (OpenSpec.upto streamWholeSpec)) streamWholeUptoCard

/-- THE SECOND FORM's CARD OF 'paternosterlaw24.StreamComes'. -/
def streamComesUptoCard : Claim7 := { stood := { row := streamComesUptoRow, standIns := [], harness := (true, "a1a8515527c65656e8c3b6cae8c90ecb35bd62688b5cf4bbb5626aa84c0b695b"), looks := false }, kinds := [], alts := [], laidByText := true, laidKinds := [.data], laidTests := true, laidLooks := .later }
def StreamComesUptoCardSaid : Prop := Claim7.holds Tryd.pinned (.plain (OpenSpec.upto streamComesSpec)) streamComesUptoCard

/-- THE SECOND FORM's CARD OF 'paternosterlaw24.StreamEnds'. -/
def streamEndsUptoCard : Claim7 := { stood := { row := streamEndsUptoRow, standIns := [], harness := (true, "a1a8515527c65656e8c3b6cae8c90ecb35bd62688b5cf4bbb5626aa84c0b695b"), looks := false }, kinds := [], alts := [], laidByText := true, laidKinds := [.data], laidTests := true, laidLooks := .later }
def StreamEndsUptoCardSaid : Prop := Claim7.holds Tryd.pinned (.plain (OpenSpec.upto streamEndsSpec)) streamEndsUptoCard

/-- THE SECOND FORM's CARD OF 'paternosterlaw24.StreamNone'. -/
def streamNoneUptoCard : Claim7 := { stood := { row := streamNoneUptoRow, standIns := [], harness := (true, "a1a8515527c65656e8c3b6cae8c90ecb35bd62688b5cf4bbb5626aa84c0b695b"), looks := false }, kinds := [], alts := [], laidByText := true, laidKinds := [.data], laidTests := true, laidLooks := .later }
def StreamNoneUptoCardSaid : Prop := Claim7.holds Tryd.pinned (.plain (OpenSpec.upto streamNoneSpec)) streamNoneUptoCard
end Rows
end Go.Proofs.YtjhjfgelcbphjaaDoor
