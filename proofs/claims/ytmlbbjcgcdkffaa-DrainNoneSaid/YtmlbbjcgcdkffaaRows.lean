/-
  No cell of these rows narrows 'for every input' (looked for: loops, veiled, ifaces, maps, wideKeys, modest, calm, conditions, laid).
  DERIVED. THE GIVEN ROWS OF THIS SEAT. 3 by the template 'for every input the law returns true; each argument reads behind the call as it read before'; 0 by the template 'total and deterministic' (their statements: YtmlbbjcgcdkffaaTotals.lean).
  GIVEN WITH THE SEED: the statements are not yours to turn. If you find one false, say at which input.
  Laid BY PROGRAM, IN A SANDBOX (cutbox-rows.mjs): the forced cells as the released guide's own fill.sh prints them over the translation 985e3a82235748cd… (all of the seat's roots in one cut). By AI agents, Wed Nov 11 2026. No macro, syntax, notation, axiom, sorry.
-/
import Derived.Test.YtmlbbjcgcdkffaaChecked
import GoSem.Claim
import GoSem.ClaimJoined
import GoSem.ClaimMapViews
import Derived.JoinedTies
import Derived.KernelRfl
namespace Go.Proofs.Ytmlbbjcgcdkffaa
/- THE CELL 'sum', in the pinned program and in every row, IS THE sha256 OF THE DUMP (.gsa) THAT YtmlbbjcgcdkffaaProg.lean LOADS. Nothing in Lean hashes anything: it is a label: what it is worth is what the hold of that sum in a sandbox is worth. -/
noncomputable def Try.pinned : Pinned := { name := "ytmlbbjcgcdkffaa", sum := "985e3a82235748cd415cf29bfb6976f877ffa861191f20dc2540324a844cdb09", checked := Try.checked }
namespace Rows
def none {H : Type} : Left H := { results := [], args := [] }

/-- 'paternosterlaw20.DrainDoes': WHATEVER THE INPUT: true; the input reads as it did. -/
def drainDoesSpec : ChangeSpec := { name := "drainDoes", fn := fun _ => fun
  | [d1, d2] => { results := [.lit (.bool true)], args := [d1, d2] }
  | _ => none }
def drainDoesRow : OpenClaim := { program := "ytmlbbjcgcdkffaa", sum := "985e3a82235748cd415cf29bfb6976f877ffa861191f20dc2540324a844cdb09", func := "paternoster/paternosterlaw20.DrainDoes", spec := "drainDoes", unfollowed := true, recurses := true, apart := false }
def DrainDoesSaid : Prop := drainDoesRow.holds Try.pinned (OpenSpec.ofChange drainDoesSpec)

/-- ITS FALSE NEIGHBOUR: 'it returns false'. Refute it at one input. -/
def drainDoesWrong : ChangeSpec := { name := "drainDoes", fn := fun _ => fun
  | [d1, d2] => { results := [.lit (.bool false)], args := [d1, d2] }
  | _ => none }
def DrainDoesWrongFalsely : Prop := drainDoesRow.holds Try.pinned (OpenSpec.ofChange drainDoesWrong)

/-- 'paternosterlaw20.DrainEnds': WHATEVER THE INPUT: true; the input reads as it did. -/
def drainEndsSpec : ChangeSpec := { name := "drainEnds", fn := fun _ => fun
  | [d1, d2, d3] => { results := [.lit (.bool true)], args := [d1, d2, d3] }
  | _ => none }
def drainEndsRow : OpenClaim := { program := "ytmlbbjcgcdkffaa", sum := "985e3a82235748cd415cf29bfb6976f877ffa861191f20dc2540324a844cdb09", func := "paternoster/paternosterlaw20.DrainEnds", spec := "drainEnds", unfollowed := true, recurses := true, apart := false }
def DrainEndsSaid : Prop := drainEndsRow.holds Try.pinned (OpenSpec.ofChange drainEndsSpec)

/-- ITS FALSE NEIGHBOUR: 'it returns false'. Refute it at one input. -/
def drainEndsWrong : ChangeSpec := { name := "drainEnds", fn := fun _ => fun
  | [d1, d2, d3] => { results := [.lit (.bool false)], args := [d1, d2, d3] }
  | _ => none }
def DrainEndsWrongFalsely : Prop := drainEndsRow.holds Try.pinned (OpenSpec.ofChange drainEndsWrong)

/-- 'paternosterlaw20.DrainNone': WHATEVER THE INPUT: true; the input reads as it did. -/
def drainNoneSpec : ChangeSpec := { name := "drainNone", fn := fun _ => fun
  | [d] => { results := [.lit (.bool true)], args := [d] }
  | _ => none }
def drainNoneRow : OpenClaim := { program := "ytmlbbjcgcdkffaa", sum := "985e3a82235748cd415cf29bfb6976f877ffa861191f20dc2540324a844cdb09", func := "paternoster/paternosterlaw20.DrainNone", spec := "drainNone", unfollowed := true, recurses := true, apart := false }
def DrainNoneSaid : Prop := drainNoneRow.holds Try.pinned (OpenSpec.ofChange drainNoneSpec)

/-- ITS FALSE NEIGHBOUR: 'it returns false'. Refute it at one input. -/
def drainNoneWrong : ChangeSpec := { name := "drainNone", fn := fun _ => fun
  | [d] => { results := [.lit (.bool false)], args := [d] }
  | _ => none }
def DrainNoneWrongFalsely : Prop := drainNoneRow.holds Try.pinned (OpenSpec.ofChange drainNoneWrong)

/- THE SECOND FORM. 'bulk': how many values and letters a reading holds, each counted each time it is reached (what is shared counts as often as it is met; a slice's spare places count too). A statement '..UptoSaid' is the law's where the arguments, and the package variables that the reading takes, are together of bulk at most 1048576: NARROWER than '..Said'. Prove '..Said' where nothing that the law and all that it calls make is longer than what came in: it says more and counts as full. Else prove '..UptoSaid'. A law counts once. -/
mutual
def uptoBulk {H : Type} : DataW H → Nat
  | .lit (.string bytes) => bytes.length + 1
  | .lit _ => 1
  | .nil => 1
  | .ptr d => uptoBulk d + 1
  | .slice elems spare => uptoBulkAll elems + uptoBulkAll spare + 1
  | .agg parts => uptoBulkAll parts + 1
  | .iface _ d => uptoBulk d + 1
  | .map entries => uptoBulkEntries entries + 1
  | .held _ => 1
def uptoBulkAll {H : Type} : List (DataW H) → Nat
  | [] => 0
  | d :: r => uptoBulk d + uptoBulkAll r
def uptoBulkEntries {H : Type} : List (Lit × DataW H) → Nat
  | [] => 0
  | x :: r => uptoBulkEntry x + uptoBulkEntries r
def uptoBulkEntry {H : Type} : Lit × DataW H → Nat
  | (.string bytes, d) => bytes.length + uptoBulk d + 1
  | (_, d) => uptoBulk d + 1
 end
def uptoSmall : (H : Type) → List (DataW H) → Bool := fun _ ds => decide (uptoBulkAll ds ≤ 1048576)
def OpenSpec.upto (s : _root_.Go.ChangeSpec) : _root_.Go.OpenSpec := { _root_.Go.OpenSpec.ofChange s with cond := some uptoSmall }

/-- 'paternosterlaw20.DrainDoes', WHERE WHAT IT READS IS OF BULK AT MOST 1048576: true; the input reads as it did. -/
def drainDoesUptoRow : OpenClaim := { program := "ytmlbbjcgcdkffaa", sum := "985e3a82235748cd415cf29bfb6976f877ffa861191f20dc2540324a844cdb09", func := "paternoster/paternosterlaw20.DrainDoes", spec := "drainDoes", unfollowed := true, recurses := true, apart := false, narrowed := true }
def DrainDoesUptoSaid : Prop := drainDoesUptoRow.holds Try.pinned (OpenSpec.upto drainDoesSpec)

/-- 'paternosterlaw20.DrainEnds', WHERE WHAT IT READS IS OF BULK AT MOST 1048576: true; the input reads as it did. -/
def drainEndsUptoRow : OpenClaim := { program := "ytmlbbjcgcdkffaa", sum := "985e3a82235748cd415cf29bfb6976f877ffa861191f20dc2540324a844cdb09", func := "paternoster/paternosterlaw20.DrainEnds", spec := "drainEnds", unfollowed := true, recurses := true, apart := false, narrowed := true }
def DrainEndsUptoSaid : Prop := drainEndsUptoRow.holds Try.pinned (OpenSpec.upto drainEndsSpec)

/-- 'paternosterlaw20.DrainNone', WHERE WHAT IT READS IS OF BULK AT MOST 1048576: true; the input reads as it did. -/
def drainNoneUptoRow : OpenClaim := { program := "ytmlbbjcgcdkffaa", sum := "985e3a82235748cd415cf29bfb6976f877ffa861191f20dc2540324a844cdb09", func := "paternoster/paternosterlaw20.DrainNone", spec := "drainNone", unfollowed := true, recurses := true, apart := false, narrowed := true }
def DrainNoneUptoSaid : Prop := drainNoneUptoRow.holds Try.pinned (OpenSpec.upto drainNoneSpec)

end Rows
end Go.Proofs.Ytmlbbjcgcdkffaa
