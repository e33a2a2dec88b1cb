/-
  No cell of these rows narrows 'for every input' (looked for: loops, veiled, ifaces, maps, wideKeys, modest, calm, conditions, laid).
  DERIVED. THE GIVEN ROWS OF THIS SEAT. 2 by the template 'for every input the law returns true; each argument reads behind the call as it read before'; 0 by the template 'total and deterministic' (their statements: YtjbemhfhhedlpaaTotals.lean).
  GIVEN WITH THE SEED: the statements are not yours to turn. If you find one false, say at which input.
  Laid BY PROGRAM, IN A SANDBOX (cutbox-rows.mjs): the forced cells as the released guide's own fill.sh prints them over the translation 3a52ad2ed9f96186… (all of the seat's roots in one cut). By AI agents, Wed Nov 11 2026. No macro, syntax, notation, axiom, sorry.
-/
import Derived.Test.YtjbemhfhhedlpaaChecked
import GoSem.Claim
import GoSem.ClaimJoined
import GoSem.ClaimMapViews
import Derived.JoinedTies
import Derived.KernelRfl
namespace Go.Proofs.Ytjbemhfhhedlpaa
/- THE CELL 'sum', in the pinned program and in every row, IS THE sha256 OF THE DUMP (.gsa) THAT YtjbemhfhhedlpaaProg.lean LOADS. Nothing in Lean hashes anything: it is a label: what it is worth is what the hold of that sum in a sandbox is worth. -/
noncomputable def Try.pinned : Pinned := { name := "ytjbemhfhhedlpaa", sum := "3a52ad2ed9f9618685160206ae8284f7f564c0f8c95304d680d34357809d43c8", checked := Try.checked }
namespace Rows
def none {H : Type} : Left H := { results := [], args := [] }

/-- 'paternosterlaw17.ShakeDoes': WHATEVER THE INPUT: true; the input reads as it did. -/
def shakeDoesSpec : ChangeSpec := { name := "shakeDoes", fn := fun _ => fun
  | [d] => { results := [.lit (.bool true)], args := [d] }
  | _ => none }
def shakeDoesRow : OpenClaim := { program := "ytjbemhfhhedlpaa", sum := "3a52ad2ed9f9618685160206ae8284f7f564c0f8c95304d680d34357809d43c8", func := "paternoster/paternosterlaw17.ShakeDoes", spec := "shakeDoes", unfollowed := true, recurses := true, apart := false }
def ShakeDoesSaid : Prop := shakeDoesRow.holds Try.pinned (OpenSpec.ofChange shakeDoesSpec)

/-- ITS FALSE NEIGHBOUR: 'it returns false'. Refute it at one input. -/
def shakeDoesWrong : ChangeSpec := { name := "shakeDoes", fn := fun _ => fun
  | [d] => { results := [.lit (.bool false)], args := [d] }
  | _ => none }
def ShakeDoesWrongFalsely : Prop := shakeDoesRow.holds Try.pinned (OpenSpec.ofChange shakeDoesWrong)

/-- 'paternosterlaw17.ShakeNone': WHATEVER THE INPUT: true; the input reads as it did. -/
def shakeNoneSpec : ChangeSpec := { name := "shakeNone", fn := fun _ => fun
  | [d] => { results := [.lit (.bool true)], args := [d] }
  | _ => none }
def shakeNoneRow : OpenClaim := { program := "ytjbemhfhhedlpaa", sum := "3a52ad2ed9f9618685160206ae8284f7f564c0f8c95304d680d34357809d43c8", func := "paternoster/paternosterlaw17.ShakeNone", spec := "shakeNone", unfollowed := true, recurses := true, apart := false }
def ShakeNoneSaid : Prop := shakeNoneRow.holds Try.pinned (OpenSpec.ofChange shakeNoneSpec)

/-- ITS FALSE NEIGHBOUR: 'it returns false'. Refute it at one input. -/
def shakeNoneWrong : ChangeSpec := { name := "shakeNone", fn := fun _ => fun
  | [d] => { results := [.lit (.bool false)], args := [d] }
  | _ => none }
def ShakeNoneWrongFalsely : Prop := shakeNoneRow.holds Try.pinned (OpenSpec.ofChange shakeNoneWrong)

/- THE SECOND FORM. 'bulk': how many values and letters a reading holds, each counted each time it is reached (what is shared counts as often as it is met; a slice's spare places count too). A statement '..UptoSaid' is the law's where the arguments, and the package variables that the reading takes, are together of bulk at most 1048576: NARROWER than '..Said'. Prove '..Said' where nothing that the law and all that it calls make is longer than what came in: it says more and counts as full. Else prove '..UptoSaid'. A law counts once. -/
mutual
def uptoBulk {H : Type} : DataW H → Nat
  | .lit (.string bytes) => bytes.length + 1
  | .lit _ => 1
  | .nil => 1
  | .ptr d => uptoBulk d + 1
  | .slice elems spare => uptoBulkAll elems + uptoBulkAll spare + 1
  | .agg parts => uptoBulkAll parts + 1
  | .iface _ d => uptoBulk d + 1
  | .map entries => uptoBulkEntries entries + 1
  | .held _ => 1
def uptoBulkAll {H : Type} : List (DataW H) → Nat
  | [] => 0
  | d :: r => uptoBulk d + uptoBulkAll r
def uptoBulkEntries {H : Type} : List (Lit × DataW H) → Nat
  | [] => 0
  | x :: r => uptoBulkEntry x + uptoBulkEntries r
def uptoBulkEntry {H : Type} : Lit × DataW H → Nat
  | (.string bytes, d) => bytes.length + uptoBulk d + 1
  | (_, d) => uptoBulk d + 1
 end
def uptoSmall : (H : Type) → List (DataW H) → Bool := fun _ ds => decide (uptoBulkAll ds ≤ 1048576)
def OpenSpec.upto (s : _root_.Go.ChangeSpec) : _root_.Go.OpenSpec := { _root_.Go.OpenSpec.ofChange s with cond := some uptoSmall }

/-- 'paternosterlaw17.ShakeDoes', WHERE WHAT IT READS IS OF BULK AT MOST 1048576: true; the input reads as it did. -/
def shakeDoesUptoRow : OpenClaim := { program := "ytjbemhfhhedlpaa", sum := "3a52ad2ed9f9618685160206ae8284f7f564c0f8c95304d680d34357809d43c8", func := "paternoster/paternosterlaw17.ShakeDoes", spec := "shakeDoes", unfollowed := true, recurses := true, apart := false, narrowed := true }
def ShakeDoesUptoSaid : Prop := shakeDoesUptoRow.holds Try.pinned (OpenSpec.upto shakeDoesSpec)

/-- 'paternosterlaw17.ShakeNone', WHERE WHAT IT READS IS OF BULK AT MOST 1048576: true; the input reads as it did. -/
def shakeNoneUptoRow : OpenClaim := { program := "ytjbemhfhhedlpaa", sum := "3a52ad2ed9f9618685160206ae8284f7f564c0f8c95304d680d34357809d43c8", func := "paternoster/paternosterlaw17.ShakeNone", spec := "shakeNone", unfollowed := true, recurses := true, apart := false, narrowed := true }
def ShakeNoneUptoSaid : Prop := shakeNoneUptoRow.holds Try.pinned (OpenSpec.upto shakeNoneSpec)

end Rows
end Go.Proofs.Ytjbemhfhhedlpaa
