/-
  NARROWER THAN 'FOR EVERY INPUT', by the rows' own cells (each row's printed sentence says how): StreamMakes: laid · StreamWhole: laid · StreamComes: laid · StreamEnds: laid · StreamNone: laid.
  DERIVED. THE GIVEN ROWS OF THIS SEAT. 5 by the template 'for every input the law returns true; each argument reads behind the call as it read before'; 0 by the template 'total and deterministic' (their statements: YtjhjfgelcbphjaaDoorTotals.lean).
  GIVEN WITH THE SEED: the statements are not yours to turn. If you find one false, say at which input.
  Laid BY PROGRAM, IN A SANDBOX (cutbox-rows.mjs): the forced cells as the released guide's own fill.sh prints them over the translation db5923c811d90b2d… (all of the seat's roots in one cut). By AI agents, Wed Nov 11 2026. No macro, syntax, notation, axiom, sorry.
-/
import Derived.Test.YtjhjfgelcbphjaaDoorChecked
import GoSem.Claim
import GoSem.ClaimJoined
import GoSem.ClaimMapViews
import Derived.JoinedTies
import Derived.KernelRfl
namespace Go.Proofs.YtjhjfgelcbphjaaDoor
/- THE CELL 'sum', in the pinned program and in every row, IS THE sha256 OF THE DUMP (.gsa) THAT YtjhjfgelcbphjaaDoorProg.lean LOADS. Nothing in Lean hashes anything: it is a label: what it is worth is what the hold of that sum in a sandbox is worth. -/
noncomputable def Tryd.pinned : Pinned := { name := "ytjhjfgelcbphjaadoor", sum := "db5923c811d90b2d600c6e76ac1f5b90b554a51e56bdcfebc52b36f63d3966ea", checked := Tryd.checked }
namespace Rows
def none {H : Type} : Left H := { results := [], args := [] }

/- WHAT THE LISTED PACKAGE-LEVEL VARIABLES READ AS WHEN THE CALL BEGINS. Each datum BY PROGRAM (the guide's laid-datum.mjs) off the statement by which the dump's own 'gosem.cut.vars' lays the variable. In a bare row this is a premise. The card (YtjhjfgelcbphjaaDoorCards.lean) ties it to the program's text. -/
def laid_paternoster_life_follows {H : Type} : DataW H := .agg [.agg [.lit (.int .i64 1), .lit (.int .i64 (-1)), .lit (.int .i64 (-1)), .lit (.int .i64 (-1))], .agg [.lit (.int .i64 (-1)), .lit (.int .i64 2), .lit (.int .i64 3), .lit (.int .i64 4)], .agg [.lit (.int .i64 (-1)), .lit (.int .i64 (-1)), .lit (.int .i64 4), .lit (.int .i64 4)], .agg [.lit (.int .i64 (-1)), .lit (.int .i64 4), .lit (.int .i64 (-1)), .lit (.int .i64 4)], .agg [.lit (.int .i64 (-1)), .lit (.int .i64 (-1)), .lit (.int .i64 (-1)), .lit (.int .i64 (-1))]]

/-- 'paternosterlaw24.StreamMakes': WHATEVER THE INPUT: true; the input reads as it did. -/
def streamMakesSpec : ChangeSpec := { name := "streamMakes", fn := fun _ => fun
  | [d] => { results := [.lit (.bool true)], args := [d] }
  | _ => none }
def streamMakesRow : OpenClaim := { program := "ytjhjfgelcbphjaadoor", sum := "db5923c811d90b2d600c6e76ac1f5b90b554a51e56bdcfebc52b36f63d3966ea", func := "paternoster/paternosterlaw24.StreamMakes", spec := "streamMakes", unfollowed := true, recurses := true, named := ["paternoster/life.follows"], apart := false, laid := [("paternoster/life.follows", laid_paternoster_life_follows)] }
def StreamMakesSaid : Prop := streamMakesRow.holds Tryd.pinned (OpenSpec.ofChange streamMakesSpec)

/-- ITS FALSE NEIGHBOUR: 'it returns false'. Refute it at one input. -/
def streamMakesWrong : ChangeSpec := { name := "streamMakes", fn := fun _ => fun
  | [d] => { results := [.lit (.bool false)], args := [d] }
  | _ => none }
def StreamMakesWrongFalsely : Prop := streamMakesRow.holds Tryd.pinned (OpenSpec.ofChange streamMakesWrong)

/-- 'paternosterlaw24.StreamWhole': WHATEVER THE INPUT: true; the input reads as it did. -/
def streamWholeSpec : ChangeSpec := { name := "streamWhole", fn := fun _ => fun
  | [d1, d2, d3] => { results := [.lit (.bool true)], args := [d1, d2, d3] }
  | _ => none }
def streamWholeRow : OpenClaim := { program := "ytjhjfgelcbphjaadoor", sum := "db5923c811d90b2d600c6e76ac1f5b90b554a51e56bdcfebc52b36f63d3966ea", func := "paternoster/paternosterlaw24.StreamWhole", spec := "streamWhole", unfollowed := true, recurses := true, named := ["paternoster/life.follows"], apart := false, laid := [("paternoster/life.follows", laid_paternoster_life_follows)] }
def StreamWholeSaid : Prop := streamWholeRow.holds Tryd.pinned (OpenSpec.ofChange streamWholeSpec)

/-- ITS FALSE NEIGHBOUR: 'it returns false'. Refute it at one input. -/
def streamWholeWrong : ChangeSpec := { name := "streamWhole", fn := fun _ => fun
  | [d1, d2, d3] => { results := [.lit (.bool false)], args := [d1, d2, d3] }
  | _ => none }
def StreamWholeWrongFalsely : Prop := streamWholeRow.holds Tryd.pinned (OpenSpec.ofChange streamWholeWrong)

/-- 'paternosterlaw24.StreamComes': WHATEVER THE INPUT: true; the input reads as it did. -/
def streamComesSpec : ChangeSpec := { name := "streamComes", fn := fun _ => fun
  | [d1, d2, d3] => { results := [.lit (.bool true)], args := [d1, d2, d3] }
  | _ => none }
def streamComesRow : OpenClaim := { program := "ytjhjfgelcbphjaadoor", sum := "db5923c811d90b2d600c6e76ac1f5b90b554a51e56bdcfebc52b36f63d3966ea", func := "paternoster/paternosterlaw24.StreamComes", spec := "streamComes", unfollowed := true, recurses := true, named := ["paternoster/life.follows"], apart := false, laid := [("paternoster/life.follows", laid_paternoster_life_follows)] }
def StreamComesSaid : Prop := streamComesRow.holds Tryd.pinned (OpenSpec.ofChange streamComesSpec)

/-- ITS FALSE NEIGHBOUR: 'it returns false'. Refute it at one input. -/
def streamComesWrong : ChangeSpec := { name := "streamComes", fn := fun _ => fun
  | [d1, d2, d3] => { results := [.lit (.bool false)], args := [d1, d2, d3] }
  | _ => none }
def StreamComesWrongFalsely : Prop := streamComesRow.holds Tryd.pinned (OpenSpec.ofChange streamComesWrong)

/-- 'paternosterlaw24.StreamEnds': WHATEVER THE INPUT: true; the input reads as it did. -/
def streamEndsSpec : ChangeSpec := { name := "streamEnds", fn := fun _ => fun
  | [d] => { results := [.lit (.bool true)], args := [d] }
  | _ => none }
def streamEndsRow : OpenClaim := { program := "ytjhjfgelcbphjaadoor", sum := "db5923c811d90b2d600c6e76ac1f5b90b554a51e56bdcfebc52b36f63d3966ea", func := "paternoster/paternosterlaw24.StreamEnds", spec := "streamEnds", unfollowed := true, recurses := true, named := ["paternoster/life.follows"], apart := false, laid := [("paternoster/life.follows", laid_paternoster_life_follows)] }
def StreamEndsSaid : Prop := streamEndsRow.holds Tryd.pinned (OpenSpec.ofChange streamEndsSpec)

/-- ITS FALSE NEIGHBOUR: 'it returns false'. Refute it at one input. -/
def streamEndsWrong : ChangeSpec := { name := "streamEnds", fn := fun _ => fun
  | [d] => { results := [.lit (.bool false)], args := [d] }
  | _ => none }
def StreamEndsWrongFalsely : Prop := streamEndsRow.holds Tryd.pinned (OpenSpec.ofChange streamEndsWrong)

/-- 'paternosterlaw24.StreamNone': WHATEVER THE INPUT: true; the input reads as it did. -/
def streamNoneSpec : ChangeSpec := { name := "streamNone", fn := fun _ => fun
  | [d1, d2] => { results := [.lit (.bool true)], args := [d1, d2] }
  | _ => none }
def streamNoneRow : OpenClaim := { program := "ytjhjfgelcbphjaadoor", sum := "db5923c811d90b2d600c6e76ac1f5b90b554a51e56bdcfebc52b36f63d3966ea", func := "paternoster/paternosterlaw24.StreamNone", spec := "streamNone", unfollowed := true, recurses := true, named := ["paternoster/life.follows"], apart := false, laid := [("paternoster/life.follows", laid_paternoster_life_follows)] }
def StreamNoneSaid : Prop := streamNoneRow.holds Tryd.pinned (OpenSpec.ofChange streamNoneSpec)

/-- ITS FALSE NEIGHBOUR: 'it returns false'. Refute it at one input. -/
def streamNoneWrong : ChangeSpec := { name := "streamNone", fn := fun _ => fun
  | [d1, d2] => { results := [.lit (.bool false)], args := [d1, d2] }
  | _ => none }
def StreamNoneWrongFalsely : Prop := streamNoneRow.holds Tryd.pinned (OpenSpec.ofChange streamNoneWrong)

/- THE SECOND FORM. 'bulk': how many values and letters a reading holds, each counted each time it is reached (what is shared counts as often as it is met; a slice's spare places count too). A statement '..UptoSaid' is the law's where the arguments, and the package variables that the reading takes, are together of bulk at most 1048576: NARROWER than '..Said'. Prove '..Said' where nothing that the law and all that it calls make is longer than what came in: it says more and counts as full. Else prove '..UptoSaid'. A law counts once. -/
mutual
def uptoBulk {H : Type} : DataW H → Nat
  | .lit (.string bytes) => bytes.length + 1
  | .lit _ => 1
  | .nil => 1
  | .ptr d => uptoBulk d + 1
  | .slice elems spare => uptoBulkAll elems + uptoBulkAll spare + 1
  | .agg parts => uptoBulkAll parts + 1
  | .iface _ d => uptoBulk d + 1
  | .map entries => uptoBulkEntries entries + 1
  | .held _ => 1
def uptoBulkAll {H : Type} : List (DataW H) → Nat
  | [] => 0
  | d :: r => uptoBulk d + uptoBulkAll r
def uptoBulkEntries {H : Type} : List (Lit × DataW H) → Nat
  | [] => 0
  | x :: r => uptoBulkEntry x + uptoBulkEntries r
def uptoBulkEntry {H : Type} : Lit × DataW H → Nat
  | (.string bytes, d) => bytes.length + uptoBulk d + 1
  | (_, d) => uptoBulk d + 1
 end
def uptoSmall : (H : Type) → List (DataW H) → Bool := fun _ ds => decide (uptoBulkAll ds ≤ 1048576)
def OpenSpec.upto (s : _root_.Go.ChangeSpec) : _root_.Go.OpenSpec := { _root_.Go.OpenSpec.ofChange s with cond := some uptoSmall }

/-- 'paternosterlaw24.StreamMakes', WHERE WHAT IT READS IS OF BULK AT MOST 1048576: true; the input reads as it did. -/
def streamMakesUptoRow : OpenClaim := { program := "ytjhjfgelcbphjaadoor", sum := "db5923c811d90b2d600c6e76ac1f5b90b554a51e56bdcfebc52b36f63d3966ea", func := "paternoster/paternosterlaw24.StreamMakes", spec := "streamMakes", unfollowed := true, recurses := true, named := ["paternoster/life.follows"], apart := false, laid := [("paternoster/life.follows", laid_paternoster_life_follows)], narrowed := true }
def StreamMakesUptoSaid : Prop := streamMakesUptoRow.holds Tryd.pinned (OpenSpec.upto streamMakesSpec)

/-- 'paternosterlaw24.StreamWhole', WHERE WHAT IT READS IS OF BULK AT MOST 1048576: true; the input reads as it did. -/
def streamWholeUptoRow : OpenClaim := { program := "ytjhjfgelcbphjaadoor", sum := "db5923c811d90b2d600c6e76ac1f5b90b554a51e56bdcfebc52b36f63d3966ea", func := "paternoster/paternosterlaw24.StreamWhole", spec := "streamWhole", unfollowed := true, recurses := true, named := ["paternoster/life.follows"], apart := false, laid := [("paternoster/life.follows", laid_paternoster_life_follows)], narrowed := true }
def StreamWholeUptoSaid : Prop := streamWholeUptoRow.holds Tryd.pinned (OpenSpec.upto streamWholeSpec)

/-- 'paternosterlaw24.StreamComes', WHERE WHAT IT READS IS OF BULK AT MOST 1048576: true; the input reads as it did. -/
def streamComesUptoRow : OpenClaim := { program := "ytjhjfgelcbphjaadoor", sum := "db5923c811d90b2d600c6e76ac1f5b90b554a51e56bdcfebc52b36f63d3966ea", func := "paternoster/paternosterlaw24.StreamComes", spec := "streamComes", unfollowed := true, recurses := true, named := ["paternoster/life.follows"], apart := false, laid := [("paternoster/life.follows", laid_paternoster_life_follows)], narrowed := true }
def StreamComesUptoSaid : Prop := streamComesUptoRow.holds Tryd.pinned (OpenSpec.upto streamComesSpec)

/-- 'paternosterlaw24.StreamEnds', WHERE WHAT IT READS IS OF BULK AT MOST 1048576: true; the input reads as it did. -/
def streamEndsUptoRow : OpenClaim := { program := "ytjhjfgelcbphjaadoor", sum := "db5923c811d90b2d600c6e76ac1f5b90b554a51e56bdcfebc52b36f63d3966ea", func := "paternoster/paternosterlaw24.StreamEnds", spec := "streamEnds", unfollowed := true, recurses := true, named := ["paternoster/life.follows"], apart := false, laid := [("paternoster/life.follows", laid_paternoster_life_follows)], narrowed := true }
def StreamEndsUptoSaid : Prop := streamEndsUptoRow.holds Tryd.pinned (OpenSpec.upto streamEndsSpec)

/-- 'paternosterlaw24.StreamNone', WHERE WHAT IT READS IS OF BULK AT MOST 1048576: true; the input reads as it did. -/
def streamNoneUptoRow : OpenClaim := { program := "ytjhjfgelcbphjaadoor", sum := "db5923c811d90b2d600c6e76ac1f5b90b554a51e56bdcfebc52b36f63d3966ea", func := "paternoster/paternosterlaw24.StreamNone", spec := "streamNone", unfollowed := true, recurses := true, named := ["paternoster/life.follows"], apart := false, laid := [("paternoster/life.follows", laid_paternoster_life_follows)], narrowed := true }
def StreamNoneUptoSaid : Prop := streamNoneUptoRow.holds Tryd.pinned (OpenSpec.upto streamNoneSpec)

end Rows
end Go.Proofs.YtjhjfgelcbphjaaDoor
