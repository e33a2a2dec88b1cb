/-
  No cell of these rows narrows 'for every input' (looked for: loops, veiled, ifaces, maps, wideKeys, modest, calm, conditions, laid).
  DERIVED. THE GIVEN ROWS OF THIS SEAT. 4 by the template 'for every input the law returns true; each argument reads behind the call as it read before'; 0 by the template 'total and deterministic' (their statements: YtjmnpeebddedkaaTotals.lean).
  GIVEN WITH THE SEED: the statements are not yours to turn. If you find one false, say at which input.
  Laid BY PROGRAM, IN A SANDBOX (cutbox-rows.mjs): the forced cells as the released guide's own fill.sh prints them over the translation 6bc12d3ed977e11d… (all of the seat's roots in one cut). By AI agents, Wed Nov 11 2026. No macro, syntax, notation, axiom, sorry.
-/
import Derived.Test.YtjmnpeebddedkaaChecked
import GoSem.Claim
import GoSem.ClaimJoined
import GoSem.ClaimMapViews
import Derived.JoinedTies
import Derived.KernelRfl
namespace Go.Proofs.Ytjmnpeebddedkaa
/- THE CELL 'sum', in the pinned program and in every row, IS THE sha256 OF THE DUMP (.gsa) THAT YtjmnpeebddedkaaProg.lean LOADS. Nothing in Lean hashes anything: it is a label: what it is worth is what the hold of that sum in a sandbox is worth. -/
noncomputable def Try.pinned : Pinned := { name := "ytjmnpeebddedkaa", sum := "6bc12d3ed977e11db9c185c1c6f9102c96cf50801838b097ed896fb87082cad4", checked := Try.checked }
namespace Rows
def none {H : Type} : Left H := { results := [], args := [] }

/-- 'paternosterlaw23.RxDoes': WHATEVER THE INPUT: true; the input reads as it did. -/
def rxDoesSpec : ChangeSpec := { name := "rxDoes", fn := fun _ => fun
  | [d1, d2, d3] => { results := [.lit (.bool true)], args := [d1, d2, d3] }
  | _ => none }
def rxDoesRow : OpenClaim := { program := "ytjmnpeebddedkaa", sum := "6bc12d3ed977e11db9c185c1c6f9102c96cf50801838b097ed896fb87082cad4", func := "paternoster/paternosterlaw23.RxDoes", spec := "rxDoes", unfollowed := true, recurses := true, apart := false }
def RxDoesSaid : Prop := rxDoesRow.holds Try.pinned (OpenSpec.ofChange rxDoesSpec)

/-- ITS FALSE NEIGHBOUR: 'it returns false'. Refute it at one input. -/
def rxDoesWrong : ChangeSpec := { name := "rxDoes", fn := fun _ => fun
  | [d1, d2, d3] => { results := [.lit (.bool false)], args := [d1, d2, d3] }
  | _ => none }
def RxDoesWrongFalsely : Prop := rxDoesRow.holds Try.pinned (OpenSpec.ofChange rxDoesWrong)

/-- 'paternosterlaw23.RxBounds': WHATEVER THE INPUT: true; the input reads as it did. -/
def rxBoundsSpec : ChangeSpec := { name := "rxBounds", fn := fun _ => fun
  | [d1, d2, d3] => { results := [.lit (.bool true)], args := [d1, d2, d3] }
  | _ => none }
def rxBoundsRow : OpenClaim := { program := "ytjmnpeebddedkaa", sum := "6bc12d3ed977e11db9c185c1c6f9102c96cf50801838b097ed896fb87082cad4", func := "paternoster/paternosterlaw23.RxBounds", spec := "rxBounds", unfollowed := true, recurses := true, apart := false }
def RxBoundsSaid : Prop := rxBoundsRow.holds Try.pinned (OpenSpec.ofChange rxBoundsSpec)

/-- ITS FALSE NEIGHBOUR: 'it returns false'. Refute it at one input. -/
def rxBoundsWrong : ChangeSpec := { name := "rxBounds", fn := fun _ => fun
  | [d1, d2, d3] => { results := [.lit (.bool false)], args := [d1, d2, d3] }
  | _ => none }
def RxBoundsWrongFalsely : Prop := rxBoundsRow.holds Try.pinned (OpenSpec.ofChange rxBoundsWrong)

/-- 'paternosterlaw23.RxOrder': WHATEVER THE INPUT: true; the input reads as it did. -/
def rxOrderSpec : ChangeSpec := { name := "rxOrder", fn := fun _ => fun
  | [d1, d2, d3] => { results := [.lit (.bool true)], args := [d1, d2, d3] }
  | _ => none }
def rxOrderRow : OpenClaim := { program := "ytjmnpeebddedkaa", sum := "6bc12d3ed977e11db9c185c1c6f9102c96cf50801838b097ed896fb87082cad4", func := "paternoster/paternosterlaw23.RxOrder", spec := "rxOrder", unfollowed := true, recurses := true, apart := false }
def RxOrderSaid : Prop := rxOrderRow.holds Try.pinned (OpenSpec.ofChange rxOrderSpec)

/-- ITS FALSE NEIGHBOUR: 'it returns false'. Refute it at one input. -/
def rxOrderWrong : ChangeSpec := { name := "rxOrder", fn := fun _ => fun
  | [d1, d2, d3] => { results := [.lit (.bool false)], args := [d1, d2, d3] }
  | _ => none }
def RxOrderWrongFalsely : Prop := rxOrderRow.holds Try.pinned (OpenSpec.ofChange rxOrderWrong)

/-- 'paternosterlaw23.RxNone': WHATEVER THE INPUT: true; the input reads as it did. -/
def rxNoneSpec : ChangeSpec := { name := "rxNone", fn := fun _ => fun
  | [d] => { results := [.lit (.bool true)], args := [d] }
  | _ => none }
def rxNoneRow : OpenClaim := { program := "ytjmnpeebddedkaa", sum := "6bc12d3ed977e11db9c185c1c6f9102c96cf50801838b097ed896fb87082cad4", func := "paternoster/paternosterlaw23.RxNone", spec := "rxNone", unfollowed := true, recurses := true, apart := false }
def RxNoneSaid : Prop := rxNoneRow.holds Try.pinned (OpenSpec.ofChange rxNoneSpec)

/-- ITS FALSE NEIGHBOUR: 'it returns false'. Refute it at one input. -/
def rxNoneWrong : ChangeSpec := { name := "rxNone", fn := fun _ => fun
  | [d] => { results := [.lit (.bool false)], args := [d] }
  | _ => none }
def RxNoneWrongFalsely : Prop := rxNoneRow.holds Try.pinned (OpenSpec.ofChange rxNoneWrong)

/- THE SECOND FORM. 'bulk': how many values and letters a reading holds, each counted each time it is reached (what is shared counts as often as it is met; a slice's spare places count too). A statement '..UptoSaid' is the law's where the arguments, and the package variables that the reading takes, are together of bulk at most 1048576: NARROWER than '..Said'. Prove '..Said' where nothing that the law and all that it calls make is longer than what came in: it says more and counts as full. Else prove '..UptoSaid'. A law counts once. -/
mutual
def uptoBulk {H : Type} : DataW H → Nat
  | .lit (.string bytes) => bytes.length + 1
  | .lit _ => 1
  | .nil => 1
  | .ptr d => uptoBulk d + 1
  | .slice elems spare => uptoBulkAll elems + uptoBulkAll spare + 1
  | .agg parts => uptoBulkAll parts + 1
  | .iface _ d => uptoBulk d + 1
  | .map entries => uptoBulkEntries entries + 1
  | .held _ => 1
def uptoBulkAll {H : Type} : List (DataW H) → Nat
  | [] => 0
  | d :: r => uptoBulk d + uptoBulkAll r
def uptoBulkEntries {H : Type} : List (Lit × DataW H) → Nat
  | [] => 0
  | x :: r => uptoBulkEntry x + uptoBulkEntries r
def uptoBulkEntry {H : Type} : Lit × DataW H → Nat
  | (.string bytes, d) => bytes.length + uptoBulk d + 1
  | (_, d) => uptoBulk d + 1
 end
def uptoSmall : (H : Type) → List (DataW H) → Bool := fun _ ds => decide (uptoBulkAll ds ≤ 1048576)
def OpenSpec.upto (s : _root_.Go.ChangeSpec) : _root_.Go.OpenSpec := { _root_.Go.OpenSpec.ofChange s with cond := some uptoSmall }

/-- 'paternosterlaw23.RxDoes', WHERE WHAT IT READS IS OF BULK AT MOST 1048576: true; the input reads as it did. -/
def rxDoesUptoRow : OpenClaim := { program := "ytjmnpeebddedkaa", sum := "6bc12d3ed977e11db9c185c1c6f9102c96cf50801838b097ed896fb87082cad4", func := "paternoster/paternosterlaw23.RxDoes", spec := "rxDoes", unfollowed := true, recurses := true, apart := false, narrowed := true }
def RxDoesUptoSaid : Prop := rxDoesUptoRow.holds Try.pinned (OpenSpec.upto rxDoesSpec)

/-- 'paternosterlaw23.RxBounds', WHERE WHAT IT READS IS OF BULK AT MOST 1048576: true; the input reads as it did. -/
def rxBoundsUptoRow : OpenClaim := { program := "ytjmnpeebddedkaa", sum := "6bc12d3ed977e11db9c185c1c6f9102c96cf50801838b097ed896fb87082cad4", func := "paternoster/paternosterlaw23.RxBounds", spec := "rxBounds", unfollowed := true, recurses := true, apart := false, narrowed := true }
def RxBoundsUptoSaid : Prop := rxBoundsUptoRow.holds Try.pinned (OpenSpec.upto rxBoundsSpec)

/-- 'paternosterlaw23.RxOrder', WHERE WHAT IT READS IS OF BULK AT MOST 1048576: true; the input reads as it did. -/
def rxOrderUptoRow : OpenClaim := { program := "ytjmnpeebddedkaa", sum := "6bc12d3ed977e11db9c185c1c6f9102c96cf50801838b097ed896fb87082cad4", func := "paternoster/paternosterlaw23.RxOrder", spec := "rxOrder", unfollowed := true, recurses := true, apart := false, narrowed := true }
def RxOrderUptoSaid : Prop := rxOrderUptoRow.holds Try.pinned (OpenSpec.upto rxOrderSpec)

/-- 'paternosterlaw23.RxNone', WHERE WHAT IT READS IS OF BULK AT MOST 1048576: true; the input reads as it did. -/
def rxNoneUptoRow : OpenClaim := { program := "ytjmnpeebddedkaa", sum := "6bc12d3ed977e11db9c185c1c6f9102c96cf50801838b097ed896fb87082cad4", func := "paternoster/paternosterlaw23.RxNone", spec := "rxNone", unfollowed := true, recurses := true, apart := false, narrowed := true }
def RxNoneUptoSaid : Prop := rxNoneUptoRow.holds Try.pinned (OpenSpec.upto rxNoneSpec)

end Rows
end Go.Proofs.Ytjmnpeebddedkaa
