/-
  NARROWER THAN 'FOR EVERY INPUT', by the rows' own cells (each row's printed sentence says how): FaultCodes: laid · FaultAnswers: laid · FaultAll: laid.
  DERIVED. THE GIVEN ROWS OF THIS SEAT. 3 by the template 'for every input the law returns true; each argument reads behind the call as it read before'; 0 by the template 'total and deterministic' (their statements: YteljagaplpiopaaDoorTotals.lean).
  GIVEN WITH THE SEED: the statements are not yours to turn. If you find one false, say at which input.
  Laid BY PROGRAM, IN A SANDBOX (cutbox-rows.mjs): the forced cells as the released guide's own fill.sh prints them over the translation 4bb8688606aa250f… (all of the seat's roots in one cut). By AI agents, Wed Nov 11 2026. No macro, syntax, notation, axiom, sorry.
-/
import Derived.Test.YteljagaplpiopaaDoorChecked
import GoSem.Claim
import GoSem.ClaimJoined
import GoSem.ClaimMapViews
import Derived.JoinedTies
import Derived.KernelRfl
namespace Go.Proofs.YteljagaplpiopaaDoor
/- THE CELL 'sum', in the pinned program and in every row, IS THE sha256 OF THE DUMP (.gsa) THAT YteljagaplpiopaaDoorProg.lean LOADS. Nothing in Lean hashes anything: it is a label: what it is worth is what the hold of that sum in a sandbox is worth. -/
noncomputable def Tryd.pinned : Pinned := { name := "yteljagaplpiopaadoor", sum := "4bb8688606aa250f6eabb25cf0a32477face8d3553893045e179b2297d3eebf3", checked := Tryd.checked }
namespace Rows
def none {H : Type} : Left H := { results := [], args := [] }

/- WHAT THE LISTED PACKAGE-LEVEL VARIABLES READ AS WHEN THE CALL BEGINS. Each datum BY PROGRAM (the guide's laid-datum.mjs) off the statement by which the dump's own 'gosem.cut.vars' lays the variable. In a bare row this is a premise. The card (YteljagaplpiopaaDoorCards.lean) ties it to the program's text. -/
def laid_paternoster_fault_rows {H : Type} : DataW H := .agg [.agg [.lit (.int .i64 1), .lit (.bool true)], .agg [.lit (.int .i64 1), .lit (.bool true)], .agg [.lit (.int .i64 1), .lit (.bool true)], .agg [.lit (.int .i64 7), .lit (.bool false)], .agg [.lit (.int .i64 7), .lit (.bool false)], .agg [.lit (.int .i64 1), .lit (.bool true)], .agg [.lit (.int .i64 1), .lit (.bool false)], .agg [.lit (.int .i64 5), .lit (.bool false)], .agg [.lit (.int .i64 3), .lit (.bool false)], .agg [.lit (.int .i64 3), .lit (.bool true)], .agg [.lit (.int .i64 9), .lit (.bool false)], .agg [.lit (.int .i64 1), .lit (.bool false)], .agg [.lit (.int .i64 1), .lit (.bool true)], .agg [.lit (.int .i64 3), .lit (.bool false)], .agg [.lit (.int .i64 3), .lit (.bool true)], .agg [.lit (.int .i64 1), .lit (.bool true)], .agg [.lit (.int .i64 4), .lit (.bool true)], .agg [.lit (.int .i64 3), .lit (.bool true)], .agg [.lit (.int .i64 11), .lit (.bool true)], .agg [.lit (.int .i64 10), .lit (.bool true)], .agg [.lit (.int .i64 12), .lit (.bool true)]]
def laid_paternoster_header_needs {H : Type} : DataW H := .agg [.agg [.lit (.bool false), .lit (.bool true), .lit (.int .i64 (-1)), .lit (.int .i64 1)], .agg [.lit (.bool false), .lit (.bool true), .lit (.int .i64 (-1)), .lit (.int .i64 1)], .agg [.lit (.bool false), .lit (.bool true), .lit (.int .i64 8), .lit (.int .i64 0)], .agg [.lit (.bool false), .lit (.bool true), .lit (.int .i64 8), .lit (.int .i64 0)], .agg [.lit (.bool false), .lit (.bool true), .lit (.int .i64 4), .lit (.int .i64 0)], .agg [.lit (.bool true), .lit (.bool false), .lit (.int .i64 (-2)), .lit (.int .i64 0)], .agg [.lit (.bool true), .lit (.bool false), .lit (.int .i64 0), .lit (.int .i64 0)], .agg [.lit (.bool true), .lit (.bool false), .lit (.int .i64 8), .lit (.int .i64 0)], .agg [.lit (.bool true), .lit (.bool false), .lit (.int .i64 8), .lit (.int .i64 0)], .agg [.lit (.bool true), .lit (.bool false), .lit (.int .i64 8), .lit (.int .i64 0)], .agg [.lit (.bool true), .lit (.bool true), .lit (.int .i64 4), .lit (.int .i64 0)], .agg [.lit (.bool false), .lit (.bool true), .lit (.int .i64 4), .lit (.int .i64 0)]]

/-- 'paternosterlaw21.FaultCodes': WHATEVER THE INPUT: true; the input reads as it did. -/
def faultCodesSpec : ChangeSpec := { name := "faultCodes", fn := fun _ => fun
  | [d] => { results := [.lit (.bool true)], args := [d] }
  | _ => none }
def faultCodesRow : OpenClaim := { program := "yteljagaplpiopaadoor", sum := "4bb8688606aa250f6eabb25cf0a32477face8d3553893045e179b2297d3eebf3", func := "paternoster/paternosterlaw21.FaultCodes", spec := "faultCodes", unfollowed := true, recurses := true, named := ["paternoster/fault.rows"], apart := false, laid := [("paternoster/fault.rows", laid_paternoster_fault_rows)] }
def FaultCodesSaid : Prop := faultCodesRow.holds Tryd.pinned (OpenSpec.ofChange faultCodesSpec)

/-- ITS FALSE NEIGHBOUR: 'it returns false'. Refute it at one input. -/
def faultCodesWrong : ChangeSpec := { name := "faultCodes", fn := fun _ => fun
  | [d] => { results := [.lit (.bool false)], args := [d] }
  | _ => none }
def FaultCodesWrongFalsely : Prop := faultCodesRow.holds Tryd.pinned (OpenSpec.ofChange faultCodesWrong)

/-- 'paternosterlaw21.FaultAnswers': WHATEVER THE INPUT: true; the input reads as it did. -/
def faultAnswersSpec : ChangeSpec := { name := "faultAnswers", fn := fun _ => fun
  | [d1, d2] => { results := [.lit (.bool true)], args := [d1, d2] }
  | _ => none }
def faultAnswersRow : OpenClaim := { program := "yteljagaplpiopaadoor", sum := "4bb8688606aa250f6eabb25cf0a32477face8d3553893045e179b2297d3eebf3", func := "paternoster/paternosterlaw21.FaultAnswers", spec := "faultAnswers", unfollowed := true, recurses := true, named := ["paternoster/fault.rows", "paternoster/header.needs"], apart := false, laid := [("paternoster/fault.rows", laid_paternoster_fault_rows), ("paternoster/header.needs", laid_paternoster_header_needs)] }
def FaultAnswersSaid : Prop := faultAnswersRow.holds Tryd.pinned (OpenSpec.ofChange faultAnswersSpec)

/-- ITS FALSE NEIGHBOUR: 'it returns false'. Refute it at one input. -/
def faultAnswersWrong : ChangeSpec := { name := "faultAnswers", fn := fun _ => fun
  | [d1, d2] => { results := [.lit (.bool false)], args := [d1, d2] }
  | _ => none }
def FaultAnswersWrongFalsely : Prop := faultAnswersRow.holds Tryd.pinned (OpenSpec.ofChange faultAnswersWrong)

/-- 'paternosterlaw21.FaultAll': WHATEVER THE INPUT: true; the input reads as it did. -/
def faultAllSpec : ChangeSpec := { name := "faultAll", fn := fun _ => fun
  | [d] => { results := [.lit (.bool true)], args := [d] }
  | _ => none }
def faultAllRow : OpenClaim := { program := "yteljagaplpiopaadoor", sum := "4bb8688606aa250f6eabb25cf0a32477face8d3553893045e179b2297d3eebf3", func := "paternoster/paternosterlaw21.FaultAll", spec := "faultAll", unfollowed := true, recurses := true, named := ["paternoster/fault.rows"], apart := false, laid := [("paternoster/fault.rows", laid_paternoster_fault_rows)] }
def FaultAllSaid : Prop := faultAllRow.holds Tryd.pinned (OpenSpec.ofChange faultAllSpec)

/-- ITS FALSE NEIGHBOUR: 'it returns false'. Refute it at one input. -/
def faultAllWrong : ChangeSpec := { name := "faultAll", fn := fun _ => fun
  | [d] => { results := [.lit (.bool false)], args := [d] }
  | _ => none }
def FaultAllWrongFalsely : Prop := faultAllRow.holds Tryd.pinned (OpenSpec.ofChange faultAllWrong)

/- THE SECOND FORM. 'bulk': how many values and letters a reading holds, each counted each time it is reached (what is shared counts as often as it is met; a slice's spare places count too). A statement '..UptoSaid' is the law's where the arguments, and the package variables that the reading takes, are together of bulk at most 1048576: NARROWER than '..Said'. Prove '..Said' where nothing that the law and all that it calls make is longer than what came in: it says more and counts as full. Else prove '..UptoSaid'. A law counts once. -/
mutual
def uptoBulk {H : Type} : DataW H → Nat
  | .lit (.string bytes) => bytes.length + 1
  | .lit _ => 1
  | .nil => 1
  | .ptr d => uptoBulk d + 1
  | .slice elems spare => uptoBulkAll elems + uptoBulkAll spare + 1
  | .agg parts => uptoBulkAll parts + 1
  | .iface _ d => uptoBulk d + 1
  | .map entries => uptoBulkEntries entries + 1
  | .held _ => 1
def uptoBulkAll {H : Type} : List (DataW H) → Nat
  | [] => 0
  | d :: r => uptoBulk d + uptoBulkAll r
def uptoBulkEntries {H : Type} : List (Lit × DataW H) → Nat
  | [] => 0
  | x :: r => uptoBulkEntry x + uptoBulkEntries r
def uptoBulkEntry {H : Type} : Lit × DataW H → Nat
  | (.string bytes, d) => bytes.length + uptoBulk d + 1
  | (_, d) => uptoBulk d + 1
 end
def uptoSmall : (H : Type) → List (DataW H) → Bool := fun _ ds => decide (uptoBulkAll ds ≤ 1048576)
def OpenSpec.upto (s : _root_.Go.ChangeSpec) : _root_.Go.OpenSpec := { _root_.Go.OpenSpec.ofChange s with cond := some uptoSmall }

/-- 'paternosterlaw21.FaultCodes', WHERE WHAT IT READS IS OF BULK AT MOST 1048576: true; the input reads as it did. -/
def faultCodesUptoRow : OpenClaim := { program := "yteljagaplpiopaadoor", sum := "4bb8688606aa250f6eabb25cf0a32477face8d3553893045e179b2297d3eebf3", func := "paternoster/paternosterlaw21.FaultCodes", spec := "faultCodes", unfollowed := true, recurses := true, named := ["paternoster/fault.rows"], apart := false, laid := [("paternoster/fault.rows", laid_paternoster_fault_rows)], narrowed := true }
def FaultCodesUptoSaid : Prop := faultCodesUptoRow.holds Tryd.pinned (OpenSpec.upto faultCodesSpec)

/-- 'paternosterlaw21.FaultAnswers', WHERE WHAT IT READS IS OF BULK AT MOST 1048576: true; the input reads as it did. -/
def faultAnswersUptoRow : OpenClaim := { program := "yteljagaplpiopaadoor", sum := "4bb8688606aa250f6eabb25cf0a32477face8d3553893045e179b2297d3eebf3", func := "paternoster/paternosterlaw21.FaultAnswers", spec := "faultAnswers", unfollowed := true, recurses := true, named := ["paternoster/fault.rows", "paternoster/header.needs"], apart := false, laid := [("paternoster/fault.rows", laid_paternoster_fault_rows), ("paternoster/header.needs", laid_paternoster_header_needs)], narrowed := true }
def FaultAnswersUptoSaid : Prop := faultAnswersUptoRow.holds Tryd.pinned (OpenSpec.upto faultAnswersSpec)

/-- 'paternosterlaw21.FaultAll', WHERE WHAT IT READS IS OF BULK AT MOST 1048576: true; the input reads as it did. -/
def faultAllUptoRow : OpenClaim := { program := "yteljagaplpiopaadoor", sum := "4bb8688606aa250f6eabb25cf0a32477face8d3553893045e179b2297d3eebf3", func := "paternoster/paternosterlaw21.FaultAll", spec := "faultAll", unfollowed := true, recurses := true, named := ["paternoster/fault.rows"], apart := false, laid := [("paternoster/fault.rows", laid_paternoster_fault_rows)], narrowed := true }
def FaultAllUptoSaid : Prop := faultAllUptoRow.holds Tryd.pinned (OpenSpec.upto faultAllSpec)

end Rows
end Go.Proofs.YteljagaplpiopaaDoor
