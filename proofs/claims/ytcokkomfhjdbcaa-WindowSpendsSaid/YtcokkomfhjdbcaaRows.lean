/-
  No cell of these rows narrows 'for every input' (looked for: loops, veiled, ifaces, maps, wideKeys, modest, calm, conditions, laid).
  DERIVED. THE GIVEN ROWS OF THIS SEAT. 3 by the template 'for every input the law returns true; each argument reads behind the call as it read before'; 0 by the template 'total and deterministic' (their statements: YtcokkomfhjdbcaaTotals.lean).
  GIVEN WITH THE SEED: the statements are not yours to turn. If you find one false, say at which input.
  Laid BY PROGRAM, IN A SANDBOX (cutbox-rows.mjs): the forced cells as the released guide's own fill.sh prints them over the translation 2ffd1a033f380770… (all of the seat's roots in one cut). By AI agents, Wed Nov 11 2026. No macro, syntax, notation, axiom, sorry.
-/
import Derived.Test.YtcokkomfhjdbcaaChecked
import GoSem.Claim
import GoSem.ClaimJoined
import GoSem.ClaimMapViews
import Derived.JoinedTies
import Derived.KernelRfl
namespace Go.Proofs.Ytcokkomfhjdbcaa
/- THE CELL 'sum', in the pinned program and in every row, IS THE sha256 OF THE DUMP (.gsa) THAT YtcokkomfhjdbcaaProg.lean LOADS. Nothing in Lean hashes anything: it is a label: what it is worth is what the hold of that sum in a sandbox is worth. -/
noncomputable def Try.pinned : Pinned := { name := "ytcokkomfhjdbcaa", sum := "2ffd1a033f380770d06c1686c2ab55789ac93c38ed6a6db0b03fe67ee7044768", checked := Try.checked }
namespace Rows
def none {H : Type} : Left H := { results := [], args := [] }

/-- 'paternosterlaw05.WindowDoes': WHATEVER THE INPUT: true; the input reads as it did. -/
def windowDoesSpec : ChangeSpec := { name := "windowDoes", fn := fun _ => fun
  | [d1, d2] => { results := [.lit (.bool true)], args := [d1, d2] }
  | _ => none }
def windowDoesRow : OpenClaim := { program := "ytcokkomfhjdbcaa", sum := "2ffd1a033f380770d06c1686c2ab55789ac93c38ed6a6db0b03fe67ee7044768", func := "paternoster/paternosterlaw05.WindowDoes", spec := "windowDoes", unfollowed := true, recurses := true, apart := false }
def WindowDoesSaid : Prop := windowDoesRow.holds Try.pinned (OpenSpec.ofChange windowDoesSpec)

/-- ITS FALSE NEIGHBOUR: 'it returns false'. Refute it at one input. -/
def windowDoesWrong : ChangeSpec := { name := "windowDoes", fn := fun _ => fun
  | [d1, d2] => { results := [.lit (.bool false)], args := [d1, d2] }
  | _ => none }
def WindowDoesWrongFalsely : Prop := windowDoesRow.holds Try.pinned (OpenSpec.ofChange windowDoesWrong)

/-- 'paternosterlaw05.WindowSpends': WHATEVER THE INPUT: true; the input reads as it did. -/
def windowSpendsSpec : ChangeSpec := { name := "windowSpends", fn := fun _ => fun
  | [d1, d2] => { results := [.lit (.bool true)], args := [d1, d2] }
  | _ => none }
def windowSpendsRow : OpenClaim := { program := "ytcokkomfhjdbcaa", sum := "2ffd1a033f380770d06c1686c2ab55789ac93c38ed6a6db0b03fe67ee7044768", func := "paternoster/paternosterlaw05.WindowSpends", spec := "windowSpends", unfollowed := true, recurses := true, apart := false }
def WindowSpendsSaid : Prop := windowSpendsRow.holds Try.pinned (OpenSpec.ofChange windowSpendsSpec)

/-- ITS FALSE NEIGHBOUR: 'it returns false'. Refute it at one input. -/
def windowSpendsWrong : ChangeSpec := { name := "windowSpends", fn := fun _ => fun
  | [d1, d2] => { results := [.lit (.bool false)], args := [d1, d2] }
  | _ => none }
def WindowSpendsWrongFalsely : Prop := windowSpendsRow.holds Try.pinned (OpenSpec.ofChange windowSpendsWrong)

/-- 'paternosterlaw05.WindowNone': WHATEVER THE INPUT: true; the input reads as it did. -/
def windowNoneSpec : ChangeSpec := { name := "windowNone", fn := fun _ => fun
  | [d1, d2] => { results := [.lit (.bool true)], args := [d1, d2] }
  | _ => none }
def windowNoneRow : OpenClaim := { program := "ytcokkomfhjdbcaa", sum := "2ffd1a033f380770d06c1686c2ab55789ac93c38ed6a6db0b03fe67ee7044768", func := "paternoster/paternosterlaw05.WindowNone", spec := "windowNone", unfollowed := true, recurses := true, apart := false }
def WindowNoneSaid : Prop := windowNoneRow.holds Try.pinned (OpenSpec.ofChange windowNoneSpec)

/-- ITS FALSE NEIGHBOUR: 'it returns false'. Refute it at one input. -/
def windowNoneWrong : ChangeSpec := { name := "windowNone", fn := fun _ => fun
  | [d1, d2] => { results := [.lit (.bool false)], args := [d1, d2] }
  | _ => none }
def WindowNoneWrongFalsely : Prop := windowNoneRow.holds Try.pinned (OpenSpec.ofChange windowNoneWrong)

/- THE SECOND FORM. 'bulk': how many values and letters a reading holds, each counted each time it is reached (what is shared counts as often as it is met; a slice's spare places count too). A statement '..UptoSaid' is the law's where the arguments, and the package variables that the reading takes, are together of bulk at most 1048576: NARROWER than '..Said'. Prove '..Said' where nothing that the law and all that it calls make is longer than what came in: it says more and counts as full. Else prove '..UptoSaid'. A law counts once. -/
mutual
def uptoBulk {H : Type} : DataW H → Nat
  | .lit (.string bytes) => bytes.length + 1
  | .lit _ => 1
  | .nil => 1
  | .ptr d => uptoBulk d + 1
  | .slice elems spare => uptoBulkAll elems + uptoBulkAll spare + 1
  | .agg parts => uptoBulkAll parts + 1
  | .iface _ d => uptoBulk d + 1
  | .map entries => uptoBulkEntries entries + 1
  | .held _ => 1
def uptoBulkAll {H : Type} : List (DataW H) → Nat
  | [] => 0
  | d :: r => uptoBulk d + uptoBulkAll r
def uptoBulkEntries {H : Type} : List (Lit × DataW H) → Nat
  | [] => 0
  | x :: r => uptoBulkEntry x + uptoBulkEntries r
def uptoBulkEntry {H : Type} : Lit × DataW H → Nat
  | (.string bytes, d) => bytes.length + uptoBulk d + 1
  | (_, d) => uptoBulk d + 1
 end
def uptoSmall : (H : Type) → List (DataW H) → Bool := fun _ ds => decide (uptoBulkAll ds ≤ 1048576)
def OpenSpec.upto (s : _root_.Go.ChangeSpec) : _root_.Go.OpenSpec := { _root_.Go.OpenSpec.ofChange s with cond := some uptoSmall }

/-- 'paternosterlaw05.WindowDoes', WHERE WHAT IT READS IS OF BULK AT MOST 1048576: true; the input reads as it did. -/
def windowDoesUptoRow : OpenClaim := { program := "ytcokkomfhjdbcaa", sum := "2ffd1a033f380770d06c1686c2ab55789ac93c38ed6a6db0b03fe67ee7044768", func := "paternoster/paternosterlaw05.WindowDoes", spec := "windowDoes", unfollowed := true, recurses := true, apart := false, narrowed := true }
def WindowDoesUptoSaid : Prop := windowDoesUptoRow.holds Try.pinned (OpenSpec.upto windowDoesSpec)

/-- 'paternosterlaw05.WindowSpends', WHERE WHAT IT READS IS OF BULK AT MOST 1048576: true; the input reads as it did. -/
def windowSpendsUptoRow : OpenClaim := { program := "ytcokkomfhjdbcaa", sum := "2ffd1a033f380770d06c1686c2ab55789ac93c38ed6a6db0b03fe67ee7044768", func := "paternoster/paternosterlaw05.WindowSpends", spec := "windowSpends", unfollowed := true, recurses := true, apart := false, narrowed := true }
def WindowSpendsUptoSaid : Prop := windowSpendsUptoRow.holds Try.pinned (OpenSpec.upto windowSpendsSpec)

/-- 'paternosterlaw05.WindowNone', WHERE WHAT IT READS IS OF BULK AT MOST 1048576: true; the input reads as it did. -/
def windowNoneUptoRow : OpenClaim := { program := "ytcokkomfhjdbcaa", sum := "2ffd1a033f380770d06c1686c2ab55789ac93c38ed6a6db0b03fe67ee7044768", func := "paternoster/paternosterlaw05.WindowNone", spec := "windowNone", unfollowed := true, recurses := true, apart := false, narrowed := true }
def WindowNoneUptoSaid : Prop := windowNoneUptoRow.holds Try.pinned (OpenSpec.upto windowNoneSpec)

end Rows
end Go.Proofs.Ytcokkomfhjdbcaa
