/-
  No cell of these rows narrows 'for every input' (looked for: loops, veiled, ifaces, maps, wideKeys, modest, calm, conditions, laid).
  DERIVED. THE GIVEN ROWS OF THIS SEAT. 4 by the template 'for every input the law returns true; each argument reads behind the call as it read before'; 0 by the template 'total and deterministic' (their statements: YtpbdhdfbkmkopaaTotals.lean).
  GIVEN WITH THE SEED: the statements are not yours to turn. If you find one false, say at which input.
  Laid BY PROGRAM, IN A SANDBOX (cutbox-rows.mjs): the forced cells as the released guide's own fill.sh prints them over the translation 44feac1170fed91a… (all of the seat's roots in one cut). By AI agents, Wed Nov 11 2026. No macro, syntax, notation, axiom, sorry.
-/
import Derived.Test.YtpbdhdfbkmkopaaChecked
import GoSem.Claim
import GoSem.ClaimJoined
import GoSem.ClaimMapViews
import Derived.JoinedTies
import Derived.KernelRfl
namespace Go.Proofs.Ytpbdhdfbkmkopaa
/- THE CELL 'sum', in the pinned program and in every row, IS THE sha256 OF THE DUMP (.gsa) THAT YtpbdhdfbkmkopaaProg.lean LOADS. Nothing in Lean hashes anything: it is a label: what it is worth is what the hold of that sum in a sandbox is worth. -/
noncomputable def Try.pinned : Pinned := { name := "ytpbdhdfbkmkopaa", sum := "44feac1170fed91ad23e35b1d2cdbb96ceeb31fbfed4df9d74198fffd6de4755", checked := Try.checked }
namespace Rows
def none {H : Type} : Left H := { results := [], args := [] }

/-- 'paternosterlaw08.PaceDoes': WHATEVER THE INPUT: true; the input reads as it did. -/
def paceDoesSpec : ChangeSpec := { name := "paceDoes", fn := fun _ => fun
  | [d1, d2] => { results := [.lit (.bool true)], args := [d1, d2] }
  | _ => none }
def paceDoesRow : OpenClaim := { program := "ytpbdhdfbkmkopaa", sum := "44feac1170fed91ad23e35b1d2cdbb96ceeb31fbfed4df9d74198fffd6de4755", func := "paternoster/paternosterlaw08.PaceDoes", spec := "paceDoes", unfollowed := true, recurses := true, apart := false }
def PaceDoesSaid : Prop := paceDoesRow.holds Try.pinned (OpenSpec.ofChange paceDoesSpec)

/-- ITS FALSE NEIGHBOUR: 'it returns false'. Refute it at one input. -/
def paceDoesWrong : ChangeSpec := { name := "paceDoes", fn := fun _ => fun
  | [d1, d2] => { results := [.lit (.bool false)], args := [d1, d2] }
  | _ => none }
def PaceDoesWrongFalsely : Prop := paceDoesRow.holds Try.pinned (OpenSpec.ofChange paceDoesWrong)

/-- 'paternosterlaw08.PaceBounds': WHATEVER THE INPUT: true; the input reads as it did. -/
def paceBoundsSpec : ChangeSpec := { name := "paceBounds", fn := fun _ => fun
  | [d1, d2] => { results := [.lit (.bool true)], args := [d1, d2] }
  | _ => none }
def paceBoundsRow : OpenClaim := { program := "ytpbdhdfbkmkopaa", sum := "44feac1170fed91ad23e35b1d2cdbb96ceeb31fbfed4df9d74198fffd6de4755", func := "paternoster/paternosterlaw08.PaceBounds", spec := "paceBounds", unfollowed := true, recurses := true, apart := false }
def PaceBoundsSaid : Prop := paceBoundsRow.holds Try.pinned (OpenSpec.ofChange paceBoundsSpec)

/-- ITS FALSE NEIGHBOUR: 'it returns false'. Refute it at one input. -/
def paceBoundsWrong : ChangeSpec := { name := "paceBounds", fn := fun _ => fun
  | [d1, d2] => { results := [.lit (.bool false)], args := [d1, d2] }
  | _ => none }
def PaceBoundsWrongFalsely : Prop := paceBoundsRow.holds Try.pinned (OpenSpec.ofChange paceBoundsWrong)

/-- 'paternosterlaw08.PaceHalf': WHATEVER THE INPUT: true; the input reads as it did. -/
def paceHalfSpec : ChangeSpec := { name := "paceHalf", fn := fun _ => fun
  | [d1, d2] => { results := [.lit (.bool true)], args := [d1, d2] }
  | _ => none }
def paceHalfRow : OpenClaim := { program := "ytpbdhdfbkmkopaa", sum := "44feac1170fed91ad23e35b1d2cdbb96ceeb31fbfed4df9d74198fffd6de4755", func := "paternoster/paternosterlaw08.PaceHalf", spec := "paceHalf", unfollowed := true, recurses := true, apart := false }
def PaceHalfSaid : Prop := paceHalfRow.holds Try.pinned (OpenSpec.ofChange paceHalfSpec)

/-- ITS FALSE NEIGHBOUR: 'it returns false'. Refute it at one input. -/
def paceHalfWrong : ChangeSpec := { name := "paceHalf", fn := fun _ => fun
  | [d1, d2] => { results := [.lit (.bool false)], args := [d1, d2] }
  | _ => none }
def PaceHalfWrongFalsely : Prop := paceHalfRow.holds Try.pinned (OpenSpec.ofChange paceHalfWrong)

/-- 'paternosterlaw08.PaceNone': WHATEVER THE INPUT: true; the input reads as it did. -/
def paceNoneSpec : ChangeSpec := { name := "paceNone", fn := fun _ => fun
  | [d] => { results := [.lit (.bool true)], args := [d] }
  | _ => none }
def paceNoneRow : OpenClaim := { program := "ytpbdhdfbkmkopaa", sum := "44feac1170fed91ad23e35b1d2cdbb96ceeb31fbfed4df9d74198fffd6de4755", func := "paternoster/paternosterlaw08.PaceNone", spec := "paceNone", unfollowed := true, recurses := true, apart := false }
def PaceNoneSaid : Prop := paceNoneRow.holds Try.pinned (OpenSpec.ofChange paceNoneSpec)

/-- ITS FALSE NEIGHBOUR: 'it returns false'. Refute it at one input. -/
def paceNoneWrong : ChangeSpec := { name := "paceNone", fn := fun _ => fun
  | [d] => { results := [.lit (.bool false)], args := [d] }
  | _ => none }
def PaceNoneWrongFalsely : Prop := paceNoneRow.holds Try.pinned (OpenSpec.ofChange paceNoneWrong)

/- THE SECOND FORM. 'bulk': how many values and letters a reading holds, each counted each time it is reached (what is shared counts as often as it is met; a slice's spare places count too). A statement '..UptoSaid' is the law's where the arguments, and the package variables that the reading takes, are together of bulk at most 1048576: NARROWER than '..Said'. Prove '..Said' where nothing that the law and all that it calls make is longer than what came in: it says more and counts as full. Else prove '..UptoSaid'. A law counts once. -/
mutual
def uptoBulk {H : Type} : DataW H → Nat
  | .lit (.string bytes) => bytes.length + 1
  | .lit _ => 1
  | .nil => 1
  | .ptr d => uptoBulk d + 1
  | .slice elems spare => uptoBulkAll elems + uptoBulkAll spare + 1
  | .agg parts => uptoBulkAll parts + 1
  | .iface _ d => uptoBulk d + 1
  | .map entries => uptoBulkEntries entries + 1
  | .held _ => 1
def uptoBulkAll {H : Type} : List (DataW H) → Nat
  | [] => 0
  | d :: r => uptoBulk d + uptoBulkAll r
def uptoBulkEntries {H : Type} : List (Lit × DataW H) → Nat
  | [] => 0
  | x :: r => uptoBulkEntry x + uptoBulkEntries r
def uptoBulkEntry {H : Type} : Lit × DataW H → Nat
  | (.string bytes, d) => bytes.length + uptoBulk d + 1
  | (_, d) => uptoBulk d + 1
 end
def uptoSmall : (H : Type) → List (DataW H) → Bool := fun _ ds => decide (uptoBulkAll ds ≤ 1048576)
def OpenSpec.upto (s : _root_.Go.ChangeSpec) : _root_.Go.OpenSpec := { _root_.Go.OpenSpec.ofChange s with cond := some uptoSmall }

/-- 'paternosterlaw08.PaceDoes', WHERE WHAT IT READS IS OF BULK AT MOST 1048576: true; the input reads as it did. -/
def paceDoesUptoRow : OpenClaim := { program := "ytpbdhdfbkmkopaa", sum := "44feac1170fed91ad23e35b1d2cdbb96ceeb31fbfed4df9d74198fffd6de4755", func := "paternoster/paternosterlaw08.PaceDoes", spec := "paceDoes", unfollowed := true, recurses := true, apart := false, narrowed := true }
def PaceDoesUptoSaid : Prop := paceDoesUptoRow.holds Try.pinned (OpenSpec.upto paceDoesSpec)

/-- 'paternosterlaw08.PaceBounds', WHERE WHAT IT READS IS OF BULK AT MOST 1048576: true; the input reads as it did. -/
def paceBoundsUptoRow : OpenClaim := { program := "ytpbdhdfbkmkopaa", sum := "44feac1170fed91ad23e35b1d2cdbb96ceeb31fbfed4df9d74198fffd6de4755", func := "paternoster/paternosterlaw08.PaceBounds", spec := "paceBounds", unfollowed := true, recurses := true, apart := false, narrowed := true }
def PaceBoundsUptoSaid : Prop := paceBoundsUptoRow.holds Try.pinned (OpenSpec.upto paceBoundsSpec)

/-- 'paternosterlaw08.PaceHalf', WHERE WHAT IT READS IS OF BULK AT MOST 1048576: true; the input reads as it did. -/
def paceHalfUptoRow : OpenClaim := { program := "ytpbdhdfbkmkopaa", sum := "44feac1170fed91ad23e35b1d2cdbb96ceeb31fbfed4df9d74198fffd6de4755", func := "paternoster/paternosterlaw08.PaceHalf", spec := "paceHalf", unfollowed := true, recurses := true, apart := false, narrowed := true }
def PaceHalfUptoSaid : Prop := paceHalfUptoRow.holds Try.pinned (OpenSpec.upto paceHalfSpec)

/-- 'paternosterlaw08.PaceNone', WHERE WHAT IT READS IS OF BULK AT MOST 1048576: true; the input reads as it did. -/
def paceNoneUptoRow : OpenClaim := { program := "ytpbdhdfbkmkopaa", sum := "44feac1170fed91ad23e35b1d2cdbb96ceeb31fbfed4df9d74198fffd6de4755", func := "paternoster/paternosterlaw08.PaceNone", spec := "paceNone", unfollowed := true, recurses := true, apart := false, narrowed := true }
def PaceNoneUptoSaid : Prop := paceNoneUptoRow.holds Try.pinned (OpenSpec.upto paceNoneSpec)

end Rows
end Go.Proofs.Ytpbdhdfbkmkopaa
