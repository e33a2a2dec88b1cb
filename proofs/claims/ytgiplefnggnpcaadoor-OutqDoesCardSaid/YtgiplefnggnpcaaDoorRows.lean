/-
  NARROWER THAN 'FOR EVERY INPUT', by the rows' own cells (each row's printed sentence says how): OutqDoes: laid · OutqSums: laid · OutqNone: laid.
  DERIVED. THE GIVEN ROWS OF THIS SEAT. 3 by the template 'for every input the law returns true; each argument reads behind the call as it read before'; 0 by the template 'total and deterministic' (their statements: YtgiplefnggnpcaaDoorTotals.lean).
  GIVEN WITH THE SEED: the statements are not yours to turn. If you find one false, say at which input.
  Laid BY PROGRAM, IN A SANDBOX (cutbox-rows.mjs): the forced cells as the released guide's own fill.sh prints them over the translation 944a0f54002dc601… (all of the seat's roots in one cut). By AI agents, Wed Nov 11 2026. No macro, syntax, notation, axiom, sorry.
-/
import Derived.Test.YtgiplefnggnpcaaDoorChecked
import GoSem.Claim
import GoSem.ClaimJoined
import GoSem.ClaimMapViews
import Derived.JoinedTies
import Derived.KernelRfl
namespace Go.Proofs.YtgiplefnggnpcaaDoor
/- THE CELL 'sum', in the pinned program and in every row, IS THE sha256 OF THE DUMP (.gsa) THAT YtgiplefnggnpcaaDoorProg.lean LOADS. Nothing in Lean hashes anything: it is a label: what it is worth is what the hold of that sum in a sandbox is worth. -/
noncomputable def Tryd.pinned : Pinned := { name := "ytgiplefnggnpcaadoor", sum := "944a0f54002dc601120b3ecfc2c939890a850c471d361dd9c758061541dd3828", checked := Tryd.checked }
namespace Rows
def none {H : Type} : Left H := { results := [], args := [] }

/- WHAT THE LISTED PACKAGE-LEVEL VARIABLES READ AS WHEN THE CALL BEGINS. Each datum BY PROGRAM (the guide's laid-datum.mjs) off the statement by which the dump's own 'gosem.cut.vars' lays the variable. In a bare row this is a premise. The card (YtgiplefnggnpcaaDoorCards.lean) ties it to the program's text. -/
def laid_paternoster_header_needs {H : Type} : DataW H := .agg [.agg [.lit (.bool false), .lit (.bool true), .lit (.int .i64 (-1)), .lit (.int .i64 1)], .agg [.lit (.bool false), .lit (.bool true), .lit (.int .i64 (-1)), .lit (.int .i64 1)], .agg [.lit (.bool false), .lit (.bool true), .lit (.int .i64 8), .lit (.int .i64 0)], .agg [.lit (.bool false), .lit (.bool true), .lit (.int .i64 8), .lit (.int .i64 0)], .agg [.lit (.bool false), .lit (.bool true), .lit (.int .i64 4), .lit (.int .i64 0)], .agg [.lit (.bool true), .lit (.bool false), .lit (.int .i64 (-2)), .lit (.int .i64 0)], .agg [.lit (.bool true), .lit (.bool false), .lit (.int .i64 0), .lit (.int .i64 0)], .agg [.lit (.bool true), .lit (.bool false), .lit (.int .i64 8), .lit (.int .i64 0)], .agg [.lit (.bool true), .lit (.bool false), .lit (.int .i64 8), .lit (.int .i64 0)], .agg [.lit (.bool true), .lit (.bool false), .lit (.int .i64 8), .lit (.int .i64 0)], .agg [.lit (.bool true), .lit (.bool true), .lit (.int .i64 4), .lit (.int .i64 0)], .agg [.lit (.bool false), .lit (.bool true), .lit (.int .i64 4), .lit (.int .i64 0)]]

/-- 'paternosterlaw25.OutqDoes': WHATEVER THE INPUT: true; the input reads as it did. -/
def outqDoesSpec : ChangeSpec := { name := "outqDoes", fn := fun _ => fun
  | [d] => { results := [.lit (.bool true)], args := [d] }
  | _ => none }
def outqDoesRow : OpenClaim := { program := "ytgiplefnggnpcaadoor", sum := "944a0f54002dc601120b3ecfc2c939890a850c471d361dd9c758061541dd3828", func := "paternoster/paternosterlaw25.OutqDoes", spec := "outqDoes", unfollowed := true, recurses := true, named := ["paternoster/header.needs"], apart := false, laid := [("paternoster/header.needs", laid_paternoster_header_needs)] }
def OutqDoesSaid : Prop := outqDoesRow.holds Tryd.pinned (OpenSpec.ofChange outqDoesSpec)

/-- ITS FALSE NEIGHBOUR: 'it returns false'. Refute it at one input. -/
def outqDoesWrong : ChangeSpec := { name := "outqDoes", fn := fun _ => fun
  | [d] => { results := [.lit (.bool false)], args := [d] }
  | _ => none }
def OutqDoesWrongFalsely : Prop := outqDoesRow.holds Tryd.pinned (OpenSpec.ofChange outqDoesWrong)

/-- 'paternosterlaw25.OutqSums': WHATEVER THE INPUT: true; the input reads as it did. -/
def outqSumsSpec : ChangeSpec := { name := "outqSums", fn := fun _ => fun
  | [d] => { results := [.lit (.bool true)], args := [d] }
  | _ => none }
def outqSumsRow : OpenClaim := { program := "ytgiplefnggnpcaadoor", sum := "944a0f54002dc601120b3ecfc2c939890a850c471d361dd9c758061541dd3828", func := "paternoster/paternosterlaw25.OutqSums", spec := "outqSums", unfollowed := true, recurses := true, named := ["paternoster/header.needs"], apart := false, laid := [("paternoster/header.needs", laid_paternoster_header_needs)] }
def OutqSumsSaid : Prop := outqSumsRow.holds Tryd.pinned (OpenSpec.ofChange outqSumsSpec)

/-- ITS FALSE NEIGHBOUR: 'it returns false'. Refute it at one input. -/
def outqSumsWrong : ChangeSpec := { name := "outqSums", fn := fun _ => fun
  | [d] => { results := [.lit (.bool false)], args := [d] }
  | _ => none }
def OutqSumsWrongFalsely : Prop := outqSumsRow.holds Tryd.pinned (OpenSpec.ofChange outqSumsWrong)

/-- 'paternosterlaw25.OutqNone': WHATEVER THE INPUT: true; the input reads as it did. -/
def outqNoneSpec : ChangeSpec := { name := "outqNone", fn := fun _ => fun
  | [d] => { results := [.lit (.bool true)], args := [d] }
  | _ => none }
def outqNoneRow : OpenClaim := { program := "ytgiplefnggnpcaadoor", sum := "944a0f54002dc601120b3ecfc2c939890a850c471d361dd9c758061541dd3828", func := "paternoster/paternosterlaw25.OutqNone", spec := "outqNone", unfollowed := true, recurses := true, named := ["paternoster/header.needs"], apart := false, laid := [("paternoster/header.needs", laid_paternoster_header_needs)] }
def OutqNoneSaid : Prop := outqNoneRow.holds Tryd.pinned (OpenSpec.ofChange outqNoneSpec)

/-- ITS FALSE NEIGHBOUR: 'it returns false'. Refute it at one input. -/
def outqNoneWrong : ChangeSpec := { name := "outqNone", fn := fun _ => fun
  | [d] => { results := [.lit (.bool false)], args := [d] }
  | _ => none }
def OutqNoneWrongFalsely : Prop := outqNoneRow.holds Tryd.pinned (OpenSpec.ofChange outqNoneWrong)

/- THE SECOND FORM. 'bulk': how many values and letters a reading holds, each counted each time it is reached (what is shared counts as often as it is met; a slice's spare places count too). A statement '..UptoSaid' is the law's where the arguments, and the package variables that the reading takes, are together of bulk at most 1048576: NARROWER than '..Said'. Prove '..Said' where nothing that the law and all that it calls make is longer than what came in: it says more and counts as full. Else prove '..UptoSaid'. A law counts once. -/
mutual
def uptoBulk {H : Type} : DataW H → Nat
  | .lit (.string bytes) => bytes.length + 1
  | .lit _ => 1
  | .nil => 1
  | .ptr d => uptoBulk d + 1
  | .slice elems spare => uptoBulkAll elems + uptoBulkAll spare + 1
  | .agg parts => uptoBulkAll parts + 1
  | .iface _ d => uptoBulk d + 1
  | .map entries => uptoBulkEntries entries + 1
  | .held _ => 1
def uptoBulkAll {H : Type} : List (DataW H) → Nat
  | [] => 0
  | d :: r => uptoBulk d + uptoBulkAll r
def uptoBulkEntries {H : Type} : List (Lit × DataW H) → Nat
  | [] => 0
  | x :: r => uptoBulkEntry x + uptoBulkEntries r
def uptoBulkEntry {H : Type} : Lit × DataW H → Nat
  | (.string bytes, d) => bytes.length + uptoBulk d + 1
  | (_, d) => uptoBulk d + 1
 end
def uptoSmall : (H : Type) → List (DataW H) → Bool := fun _ ds => decide (uptoBulkAll ds ≤ 1048576)
def OpenSpec.upto (s : _root_.Go.ChangeSpec) : _root_.Go.OpenSpec := { _root_.Go.OpenSpec.ofChange s with cond := some uptoSmall }

/-- 'paternosterlaw25.OutqDoes', WHERE WHAT IT READS IS OF BULK AT MOST 1048576: true; the input reads as it did. -/
def outqDoesUptoRow : OpenClaim := { program := "ytgiplefnggnpcaadoor", sum := "944a0f54002dc601120b3ecfc2c939890a850c471d361dd9c758061541dd3828", func := "paternoster/paternosterlaw25.OutqDoes", spec := "outqDoes", unfollowed := true, recurses := true, named := ["paternoster/header.needs"], apart := false, laid := [("paternoster/header.needs", laid_paternoster_header_needs)], narrowed := true }
def OutqDoesUptoSaid : Prop := outqDoesUptoRow.holds Tryd.pinned (OpenSpec.upto outqDoesSpec)

/-- 'paternosterlaw25.OutqSums', WHERE WHAT IT READS IS OF BULK AT MOST 1048576: true; the input reads as it did. -/
def outqSumsUptoRow : OpenClaim := { program := "ytgiplefnggnpcaadoor", sum := "944a0f54002dc601120b3ecfc2c939890a850c471d361dd9c758061541dd3828", func := "paternoster/paternosterlaw25.OutqSums", spec := "outqSums", unfollowed := true, recurses := true, named := ["paternoster/header.needs"], apart := false, laid := [("paternoster/header.needs", laid_paternoster_header_needs)], narrowed := true }
def OutqSumsUptoSaid : Prop := outqSumsUptoRow.holds Tryd.pinned (OpenSpec.upto outqSumsSpec)

/-- 'paternosterlaw25.OutqNone', WHERE WHAT IT READS IS OF BULK AT MOST 1048576: true; the input reads as it did. -/
def outqNoneUptoRow : OpenClaim := { program := "ytgiplefnggnpcaadoor", sum := "944a0f54002dc601120b3ecfc2c939890a850c471d361dd9c758061541dd3828", func := "paternoster/paternosterlaw25.OutqNone", spec := "outqNone", unfollowed := true, recurses := true, named := ["paternoster/header.needs"], apart := false, laid := [("paternoster/header.needs", laid_paternoster_header_needs)], narrowed := true }
def OutqNoneUptoSaid : Prop := outqNoneUptoRow.holds Tryd.pinned (OpenSpec.upto outqNoneSpec)

end Rows
end Go.Proofs.YtgiplefnggnpcaaDoor
