/-
  NARROWER THAN 'FOR EVERY INPUT', by the rows' own cells (each row's printed sentence says how): HeaderPuts: laid · HeaderNeeds: laid · HeaderBack: laid.
  DERIVED. THE GIVEN ROWS OF THIS SEAT. 3 by the template 'for every input the law returns true; each argument reads behind the call as it read before'; 0 by the template 'total and deterministic' (their statements: YtjgoklccnecjcaaDoorTotals.lean).
  GIVEN WITH THE SEED: the statements are not yours to turn. If you find one false, say at which input.
  Laid BY PROGRAM, IN A SANDBOX (cutbox-rows.mjs): the forced cells as the released guide's own fill.sh prints them over the translation 1a1e4b170dd65950… (all of the seat's roots in one cut). By AI agents, Wed Nov 11 2026. No macro, syntax, notation, axiom, sorry.
-/
import Derived.Test.YtjgoklccnecjcaaDoorChecked
import GoSem.Claim
import GoSem.ClaimJoined
import GoSem.ClaimMapViews
import Derived.JoinedTies
import Derived.KernelRfl
namespace Go.Proofs.YtjgoklccnecjcaaDoor
/- THE CELL 'sum', in the pinned program and in every row, IS THE sha256 OF THE DUMP (.gsa) THAT YtjgoklccnecjcaaDoorProg.lean LOADS. Nothing in Lean hashes anything: it is a label: what it is worth is what the hold of that sum in a sandbox is worth. -/
noncomputable def Tryd.pinned : Pinned := { name := "ytjgoklccnecjcaadoor", sum := "1a1e4b170dd65950626ce7bee5c5ca9c631e121536ab84226801b1f55ed7c548", checked := Tryd.checked }
namespace Rows
def none {H : Type} : Left H := { results := [], args := [] }

/- WHAT THE LISTED PACKAGE-LEVEL VARIABLES READ AS WHEN THE CALL BEGINS. Each datum BY PROGRAM (the guide's laid-datum.mjs) off the statement by which the dump's own 'gosem.cut.vars' lays the variable. In a bare row this is a premise. The card (YtjgoklccnecjcaaDoorCards.lean) ties it to the program's text. -/
def laid_paternoster_header_needs {H : Type} : DataW H := .agg [.agg [.lit (.bool false), .lit (.bool true), .lit (.int .i64 (-1)), .lit (.int .i64 1)], .agg [.lit (.bool false), .lit (.bool true), .lit (.int .i64 (-1)), .lit (.int .i64 1)], .agg [.lit (.bool false), .lit (.bool true), .lit (.int .i64 8), .lit (.int .i64 0)], .agg [.lit (.bool false), .lit (.bool true), .lit (.int .i64 8), .lit (.int .i64 0)], .agg [.lit (.bool false), .lit (.bool true), .lit (.int .i64 4), .lit (.int .i64 0)], .agg [.lit (.bool true), .lit (.bool false), .lit (.int .i64 (-2)), .lit (.int .i64 0)], .agg [.lit (.bool true), .lit (.bool false), .lit (.int .i64 0), .lit (.int .i64 0)], .agg [.lit (.bool true), .lit (.bool false), .lit (.int .i64 8), .lit (.int .i64 0)], .agg [.lit (.bool true), .lit (.bool false), .lit (.int .i64 8), .lit (.int .i64 0)], .agg [.lit (.bool true), .lit (.bool false), .lit (.int .i64 8), .lit (.int .i64 0)], .agg [.lit (.bool true), .lit (.bool true), .lit (.int .i64 4), .lit (.int .i64 0)], .agg [.lit (.bool false), .lit (.bool true), .lit (.int .i64 4), .lit (.int .i64 0)]]

/-- 'paternosterlaw02.HeaderPuts': WHATEVER THE INPUT: true; the input reads as it did. -/
def headerPutsSpec : ChangeSpec := { name := "headerPuts", fn := fun _ => fun
  | [d1, d2] => { results := [.lit (.bool true)], args := [d1, d2] }
  | _ => none }
def headerPutsRow : OpenClaim := { program := "ytjgoklccnecjcaadoor", sum := "1a1e4b170dd65950626ce7bee5c5ca9c631e121536ab84226801b1f55ed7c548", func := "paternoster/paternosterlaw02.HeaderPuts", spec := "headerPuts", unfollowed := true, recurses := true, named := ["paternoster/header.needs"], apart := false, laid := [("paternoster/header.needs", laid_paternoster_header_needs)] }
def HeaderPutsSaid : Prop := headerPutsRow.holds Tryd.pinned (OpenSpec.ofChange headerPutsSpec)

/-- ITS FALSE NEIGHBOUR: 'it returns false'. Refute it at one input. -/
def headerPutsWrong : ChangeSpec := { name := "headerPuts", fn := fun _ => fun
  | [d1, d2] => { results := [.lit (.bool false)], args := [d1, d2] }
  | _ => none }
def HeaderPutsWrongFalsely : Prop := headerPutsRow.holds Tryd.pinned (OpenSpec.ofChange headerPutsWrong)

/-- 'paternosterlaw02.HeaderNeeds': WHATEVER THE INPUT: true; the input reads as it did. -/
def headerNeedsSpec : ChangeSpec := { name := "headerNeeds", fn := fun _ => fun
  | [d] => { results := [.lit (.bool true)], args := [d] }
  | _ => none }
def headerNeedsRow : OpenClaim := { program := "ytjgoklccnecjcaadoor", sum := "1a1e4b170dd65950626ce7bee5c5ca9c631e121536ab84226801b1f55ed7c548", func := "paternoster/paternosterlaw02.HeaderNeeds", spec := "headerNeeds", unfollowed := true, recurses := true, named := ["paternoster/header.needs"], apart := false, laid := [("paternoster/header.needs", laid_paternoster_header_needs)] }
def HeaderNeedsSaid : Prop := headerNeedsRow.holds Tryd.pinned (OpenSpec.ofChange headerNeedsSpec)

/-- ITS FALSE NEIGHBOUR: 'it returns false'. Refute it at one input. -/
def headerNeedsWrong : ChangeSpec := { name := "headerNeeds", fn := fun _ => fun
  | [d] => { results := [.lit (.bool false)], args := [d] }
  | _ => none }
def HeaderNeedsWrongFalsely : Prop := headerNeedsRow.holds Tryd.pinned (OpenSpec.ofChange headerNeedsWrong)

/-- 'paternosterlaw02.HeaderBack': WHATEVER THE INPUT: true; the input reads as it did. -/
def headerBackSpec : ChangeSpec := { name := "headerBack", fn := fun _ => fun
  | [d1, d2, d3] => { results := [.lit (.bool true)], args := [d1, d2, d3] }
  | _ => none }
def headerBackRow : OpenClaim := { program := "ytjgoklccnecjcaadoor", sum := "1a1e4b170dd65950626ce7bee5c5ca9c631e121536ab84226801b1f55ed7c548", func := "paternoster/paternosterlaw02.HeaderBack", spec := "headerBack", unfollowed := true, recurses := true, named := ["paternoster/header.needs"], apart := false, laid := [("paternoster/header.needs", laid_paternoster_header_needs)] }
def HeaderBackSaid : Prop := headerBackRow.holds Tryd.pinned (OpenSpec.ofChange headerBackSpec)

/-- ITS FALSE NEIGHBOUR: 'it returns false'. Refute it at one input. -/
def headerBackWrong : ChangeSpec := { name := "headerBack", fn := fun _ => fun
  | [d1, d2, d3] => { results := [.lit (.bool false)], args := [d1, d2, d3] }
  | _ => none }
def HeaderBackWrongFalsely : Prop := headerBackRow.holds Tryd.pinned (OpenSpec.ofChange headerBackWrong)

/- THE SECOND FORM. 'bulk': how many values and letters a reading holds, each counted each time it is reached (what is shared counts as often as it is met; a slice's spare places count too). A statement '..UptoSaid' is the law's where the arguments, and the package variables that the reading takes, are together of bulk at most 1048576: NARROWER than '..Said'. Prove '..Said' where nothing that the law and all that it calls make is longer than what came in: it says more and counts as full. Else prove '..UptoSaid'. A law counts once. -/
mutual
def uptoBulk {H : Type} : DataW H → Nat
  | .lit (.string bytes) => bytes.length + 1
  | .lit _ => 1
  | .nil => 1
  | .ptr d => uptoBulk d + 1
  | .slice elems spare => uptoBulkAll elems + uptoBulkAll spare + 1
  | .agg parts => uptoBulkAll parts + 1
  | .iface _ d => uptoBulk d + 1
  | .map entries => uptoBulkEntries entries + 1
  | .held _ => 1
def uptoBulkAll {H : Type} : List (DataW H) → Nat
  | [] => 0
  | d :: r => uptoBulk d + uptoBulkAll r
def uptoBulkEntries {H : Type} : List (Lit × DataW H) → Nat
  | [] => 0
  | x :: r => uptoBulkEntry x + uptoBulkEntries r
def uptoBulkEntry {H : Type} : Lit × DataW H → Nat
  | (.string bytes, d) => bytes.length + uptoBulk d + 1
  | (_, d) => uptoBulk d + 1
 end
def uptoSmall : (H : Type) → List (DataW H) → Bool := fun _ ds => decide (uptoBulkAll ds ≤ 1048576)
def OpenSpec.upto (s : _root_.Go.ChangeSpec) : _root_.Go.OpenSpec := { _root_.Go.OpenSpec.ofChange s with cond := some uptoSmall }

/-- 'paternosterlaw02.HeaderPuts', WHERE WHAT IT READS IS OF BULK AT MOST 1048576: true; the input reads as it did. -/
def headerPutsUptoRow : OpenClaim := { program := "ytjgoklccnecjcaadoor", sum := "1a1e4b170dd65950626ce7bee5c5ca9c631e121536ab84226801b1f55ed7c548", func := "paternoster/paternosterlaw02.HeaderPuts", spec := "headerPuts", unfollowed := true, recurses := true, named := ["paternoster/header.needs"], apart := false, laid := [("paternoster/header.needs", laid_paternoster_header_needs)], narrowed := true }
def HeaderPutsUptoSaid : Prop := headerPutsUptoRow.holds Tryd.pinned (OpenSpec.upto headerPutsSpec)

/-- 'paternosterlaw02.HeaderNeeds', WHERE WHAT IT READS IS OF BULK AT MOST 1048576: true; the input reads as it did. -/
def headerNeedsUptoRow : OpenClaim := { program := "ytjgoklccnecjcaadoor", sum := "1a1e4b170dd65950626ce7bee5c5ca9c631e121536ab84226801b1f55ed7c548", func := "paternoster/paternosterlaw02.HeaderNeeds", spec := "headerNeeds", unfollowed := true, recurses := true, named := ["paternoster/header.needs"], apart := false, laid := [("paternoster/header.needs", laid_paternoster_header_needs)], narrowed := true }
def HeaderNeedsUptoSaid : Prop := headerNeedsUptoRow.holds Tryd.pinned (OpenSpec.upto headerNeedsSpec)

/-- 'paternosterlaw02.HeaderBack', WHERE WHAT IT READS IS OF BULK AT MOST 1048576: true; the input reads as it did. -/
def headerBackUptoRow : OpenClaim := { program := "ytjgoklccnecjcaadoor", sum := "1a1e4b170dd65950626ce7bee5c5ca9c631e121536ab84226801b1f55ed7c548", func := "paternoster/paternosterlaw02.HeaderBack", spec := "headerBack", unfollowed := true, recurses := true, named := ["paternoster/header.needs"], apart := false, laid := [("paternoster/header.needs", laid_paternoster_header_needs)], narrowed := true }
def HeaderBackUptoSaid : Prop := headerBackUptoRow.holds Tryd.pinned (OpenSpec.upto headerBackSpec)

end Rows
end Go.Proofs.YtjgoklccnecjcaaDoor
