/-
  No cell of these rows narrows 'for every input' (looked for: loops, veiled, ifaces, maps, wideKeys, modest, calm, conditions, laid).
  DERIVED. THE GIVEN ROWS OF THIS SEAT. 4 by the template 'for every input the law returns true; each argument reads behind the call as it read before'; 0 by the template 'total and deterministic' (their statements: YtlinmpcllmijaaaTotals.lean).
  GIVEN WITH THE SEED: the statements are not yours to turn. If you find one false, say at which input.
  Laid BY PROGRAM, IN A SANDBOX (cutbox-rows.mjs): the forced cells as the released guide's own fill.sh prints them over the translation af642cb88391b889… (all of the seat's roots in one cut). By AI agents, Wed Nov 11 2026. No macro, syntax, notation, axiom, sorry.
-/
import Derived.Test.YtlinmpcllmijaaaChecked
import GoSem.Claim
import GoSem.ClaimJoined
import GoSem.ClaimMapViews
import Derived.JoinedTies
import Derived.KernelRfl
namespace Go.Proofs.Ytlinmpcllmijaaa
/- THE CELL 'sum', in the pinned program and in every row, IS THE sha256 OF THE DUMP (.gsa) THAT YtlinmpcllmijaaaProg.lean LOADS. Nothing in Lean hashes anything: it is a label: what it is worth is what the hold of that sum in a sandbox is worth. -/
noncomputable def Try.pinned : Pinned := { name := "ytlinmpcllmijaaa", sum := "af642cb88391b88974156a8e787abdab06b92cd1d4404810c2c5a5ab5a39bfe2", checked := Try.checked }
namespace Rows
def none {H : Type} : Left H := { results := [], args := [] }

/-- 'paternosterlaw22.TxDoes': WHATEVER THE INPUT: true; the input reads as it did. -/
def txDoesSpec : ChangeSpec := { name := "txDoes", fn := fun _ => fun
  | [d1, d2] => { results := [.lit (.bool true)], args := [d1, d2] }
  | _ => none }
def txDoesRow : OpenClaim := { program := "ytlinmpcllmijaaa", sum := "af642cb88391b88974156a8e787abdab06b92cd1d4404810c2c5a5ab5a39bfe2", func := "paternoster/paternosterlaw22.TxDoes", spec := "txDoes", unfollowed := true, recurses := true, apart := false }
def TxDoesSaid : Prop := txDoesRow.holds Try.pinned (OpenSpec.ofChange txDoesSpec)

/-- ITS FALSE NEIGHBOUR: 'it returns false'. Refute it at one input. -/
def txDoesWrong : ChangeSpec := { name := "txDoes", fn := fun _ => fun
  | [d1, d2] => { results := [.lit (.bool false)], args := [d1, d2] }
  | _ => none }
def TxDoesWrongFalsely : Prop := txDoesRow.holds Try.pinned (OpenSpec.ofChange txDoesWrong)

/-- 'paternosterlaw22.TxOrder': WHATEVER THE INPUT: true; the input reads as it did. -/
def txOrderSpec : ChangeSpec := { name := "txOrder", fn := fun _ => fun
  | [d1, d2] => { results := [.lit (.bool true)], args := [d1, d2] }
  | _ => none }
def txOrderRow : OpenClaim := { program := "ytlinmpcllmijaaa", sum := "af642cb88391b88974156a8e787abdab06b92cd1d4404810c2c5a5ab5a39bfe2", func := "paternoster/paternosterlaw22.TxOrder", spec := "txOrder", unfollowed := true, recurses := true, apart := false }
def TxOrderSaid : Prop := txOrderRow.holds Try.pinned (OpenSpec.ofChange txOrderSpec)

/-- ITS FALSE NEIGHBOUR: 'it returns false'. Refute it at one input. -/
def txOrderWrong : ChangeSpec := { name := "txOrder", fn := fun _ => fun
  | [d1, d2] => { results := [.lit (.bool false)], args := [d1, d2] }
  | _ => none }
def TxOrderWrongFalsely : Prop := txOrderRow.holds Try.pinned (OpenSpec.ofChange txOrderWrong)

/-- 'paternosterlaw22.TxNever': WHATEVER THE INPUT: true; the input reads as it did. -/
def txNeverSpec : ChangeSpec := { name := "txNever", fn := fun _ => fun
  | [d1, d2] => { results := [.lit (.bool true)], args := [d1, d2] }
  | _ => none }
def txNeverRow : OpenClaim := { program := "ytlinmpcllmijaaa", sum := "af642cb88391b88974156a8e787abdab06b92cd1d4404810c2c5a5ab5a39bfe2", func := "paternoster/paternosterlaw22.TxNever", spec := "txNever", unfollowed := true, recurses := true, apart := false }
def TxNeverSaid : Prop := txNeverRow.holds Try.pinned (OpenSpec.ofChange txNeverSpec)

/-- ITS FALSE NEIGHBOUR: 'it returns false'. Refute it at one input. -/
def txNeverWrong : ChangeSpec := { name := "txNever", fn := fun _ => fun
  | [d1, d2] => { results := [.lit (.bool false)], args := [d1, d2] }
  | _ => none }
def TxNeverWrongFalsely : Prop := txNeverRow.holds Try.pinned (OpenSpec.ofChange txNeverWrong)

/-- 'paternosterlaw22.TxNone': WHATEVER THE INPUT: true; the input reads as it did. -/
def txNoneSpec : ChangeSpec := { name := "txNone", fn := fun _ => fun
  | [d] => { results := [.lit (.bool true)], args := [d] }
  | _ => none }
def txNoneRow : OpenClaim := { program := "ytlinmpcllmijaaa", sum := "af642cb88391b88974156a8e787abdab06b92cd1d4404810c2c5a5ab5a39bfe2", func := "paternoster/paternosterlaw22.TxNone", spec := "txNone", unfollowed := true, recurses := true, apart := false }
def TxNoneSaid : Prop := txNoneRow.holds Try.pinned (OpenSpec.ofChange txNoneSpec)

/-- ITS FALSE NEIGHBOUR: 'it returns false'. Refute it at one input. -/
def txNoneWrong : ChangeSpec := { name := "txNone", fn := fun _ => fun
  | [d] => { results := [.lit (.bool false)], args := [d] }
  | _ => none }
def TxNoneWrongFalsely : Prop := txNoneRow.holds Try.pinned (OpenSpec.ofChange txNoneWrong)

/- THE SECOND FORM. 'bulk': how many values and letters a reading holds, each counted each time it is reached (what is shared counts as often as it is met; a slice's spare places count too). A statement '..UptoSaid' is the law's where the arguments, and the package variables that the reading takes, are together of bulk at most 1048576: NARROWER than '..Said'. Prove '..Said' where nothing that the law and all that it calls make is longer than what came in: it says more and counts as full. Else prove '..UptoSaid'. A law counts once. -/
mutual
def uptoBulk {H : Type} : DataW H → Nat
  | .lit (.string bytes) => bytes.length + 1
  | .lit _ => 1
  | .nil => 1
  | .ptr d => uptoBulk d + 1
  | .slice elems spare => uptoBulkAll elems + uptoBulkAll spare + 1
  | .agg parts => uptoBulkAll parts + 1
  | .iface _ d => uptoBulk d + 1
  | .map entries => uptoBulkEntries entries + 1
  | .held _ => 1
def uptoBulkAll {H : Type} : List (DataW H) → Nat
  | [] => 0
  | d :: r => uptoBulk d + uptoBulkAll r
def uptoBulkEntries {H : Type} : List (Lit × DataW H) → Nat
  | [] => 0
  | x :: r => uptoBulkEntry x + uptoBulkEntries r
def uptoBulkEntry {H : Type} : Lit × DataW H → Nat
  | (.string bytes, d) => bytes.length + uptoBulk d + 1
  | (_, d) => uptoBulk d + 1
 end
def uptoSmall : (H : Type) → List (DataW H) → Bool := fun _ ds => decide (uptoBulkAll ds ≤ 1048576)
def OpenSpec.upto (s : _root_.Go.ChangeSpec) : _root_.Go.OpenSpec := { _root_.Go.OpenSpec.ofChange s with cond := some uptoSmall }

/-- 'paternosterlaw22.TxDoes', WHERE WHAT IT READS IS OF BULK AT MOST 1048576: true; the input reads as it did. -/
def txDoesUptoRow : OpenClaim := { program := "ytlinmpcllmijaaa", sum := "af642cb88391b88974156a8e787abdab06b92cd1d4404810c2c5a5ab5a39bfe2", func := "paternoster/paternosterlaw22.TxDoes", spec := "txDoes", unfollowed := true, recurses := true, apart := false, narrowed := true }
def TxDoesUptoSaid : Prop := txDoesUptoRow.holds Try.pinned (OpenSpec.upto txDoesSpec)

/-- 'paternosterlaw22.TxOrder', WHERE WHAT IT READS IS OF BULK AT MOST 1048576: true; the input reads as it did. -/
def txOrderUptoRow : OpenClaim := { program := "ytlinmpcllmijaaa", sum := "af642cb88391b88974156a8e787abdab06b92cd1d4404810c2c5a5ab5a39bfe2", func := "paternoster/paternosterlaw22.TxOrder", spec := "txOrder", unfollowed := true, recurses := true, apart := false, narrowed := true }
def TxOrderUptoSaid : Prop := txOrderUptoRow.holds Try.pinned (OpenSpec.upto txOrderSpec)

/-- 'paternosterlaw22.TxNever', WHERE WHAT IT READS IS OF BULK AT MOST 1048576: true; the input reads as it did. -/
def txNeverUptoRow : OpenClaim := { program := "ytlinmpcllmijaaa", sum := "af642cb88391b88974156a8e787abdab06b92cd1d4404810c2c5a5ab5a39bfe2", func := "paternoster/paternosterlaw22.TxNever", spec := "txNever", unfollowed := true, recurses := true, apart := false, narrowed := true }
def TxNeverUptoSaid : Prop := txNeverUptoRow.holds Try.pinned (OpenSpec.upto txNeverSpec)

/-- 'paternosterlaw22.TxNone', WHERE WHAT IT READS IS OF BULK AT MOST 1048576: true; the input reads as it did. -/
def txNoneUptoRow : OpenClaim := { program := "ytlinmpcllmijaaa", sum := "af642cb88391b88974156a8e787abdab06b92cd1d4404810c2c5a5ab5a39bfe2", func := "paternoster/paternosterlaw22.TxNone", spec := "txNone", unfollowed := true, recurses := true, apart := false, narrowed := true }
def TxNoneUptoSaid : Prop := txNoneUptoRow.holds Try.pinned (OpenSpec.upto txNoneSpec)

end Rows
end Go.Proofs.Ytlinmpcllmijaaa
