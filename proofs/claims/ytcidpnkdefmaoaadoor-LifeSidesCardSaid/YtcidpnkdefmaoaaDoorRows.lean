/-
  NARROWER THAN 'FOR EVERY INPUT', by the rows' own cells (each row's printed sentence says how): LifeNext: laid · LifeGoes: laid · LifeSides: laid · LifeNone: laid.
  DERIVED. THE GIVEN ROWS OF THIS SEAT. 4 by the template 'for every input the law returns true; each argument reads behind the call as it read before'; 0 by the template 'total and deterministic' (their statements: YtcidpnkdefmaoaaDoorTotals.lean).
  GIVEN WITH THE SEED: the statements are not yours to turn. If you find one false, say at which input.
  Laid BY PROGRAM, IN A SANDBOX (cutbox-rows.mjs): the forced cells as the released guide's own fill.sh prints them over the translation 9ea170c6bc613771… (all of the seat's roots in one cut). By AI agents, Wed Nov 11 2026. No macro, syntax, notation, axiom, sorry.
-/
import Derived.Test.YtcidpnkdefmaoaaDoorChecked
import GoSem.Claim
import GoSem.ClaimJoined
import GoSem.ClaimMapViews
import Derived.JoinedTies
import Derived.KernelRfl
namespace Go.Proofs.YtcidpnkdefmaoaaDoor
/- THE CELL 'sum', in the pinned program and in every row, IS THE sha256 OF THE DUMP (.gsa) THAT YtcidpnkdefmaoaaDoorProg.lean LOADS. Nothing in Lean hashes anything: it is a label: what it is worth is what the hold of that sum in a sandbox is worth. -/
noncomputable def Tryd.pinned : Pinned := { name := "ytcidpnkdefmaoaadoor", sum := "9ea170c6bc613771cf446fa64417ce5669e0684741ff114af24be9840b3ebdc1", checked := Tryd.checked }
namespace Rows
def none {H : Type} : Left H := { results := [], args := [] }

/- WHAT THE LISTED PACKAGE-LEVEL VARIABLES READ AS WHEN THE CALL BEGINS. Each datum BY PROGRAM (the guide's laid-datum.mjs) off the statement by which the dump's own 'gosem.cut.vars' lays the variable. In a bare row this is a premise. The card (YtcidpnkdefmaoaaDoorCards.lean) ties it to the program's text. -/
def laid_paternoster_life_follows {H : Type} : DataW H := .agg [.agg [.lit (.int .i64 1), .lit (.int .i64 (-1)), .lit (.int .i64 (-1)), .lit (.int .i64 (-1))], .agg [.lit (.int .i64 (-1)), .lit (.int .i64 2), .lit (.int .i64 3), .lit (.int .i64 4)], .agg [.lit (.int .i64 (-1)), .lit (.int .i64 (-1)), .lit (.int .i64 4), .lit (.int .i64 4)], .agg [.lit (.int .i64 (-1)), .lit (.int .i64 4), .lit (.int .i64 (-1)), .lit (.int .i64 4)], .agg [.lit (.int .i64 (-1)), .lit (.int .i64 (-1)), .lit (.int .i64 (-1)), .lit (.int .i64 (-1))]]

/-- 'paternosterlaw12.LifeNext': WHATEVER THE INPUT: true; the input reads as it did. -/
def lifeNextSpec : ChangeSpec := { name := "lifeNext", fn := fun _ => fun
  | [d1, d2] => { results := [.lit (.bool true)], args := [d1, d2] }
  | _ => none }
def lifeNextRow : OpenClaim := { program := "ytcidpnkdefmaoaadoor", sum := "9ea170c6bc613771cf446fa64417ce5669e0684741ff114af24be9840b3ebdc1", func := "paternoster/paternosterlaw12.LifeNext", spec := "lifeNext", unfollowed := true, recurses := true, named := ["paternoster/life.follows"], apart := false, laid := [("paternoster/life.follows", laid_paternoster_life_follows)] }
def LifeNextSaid : Prop := lifeNextRow.holds Tryd.pinned (OpenSpec.ofChange lifeNextSpec)

/-- ITS FALSE NEIGHBOUR: 'it returns false'. Refute it at one input. -/
def lifeNextWrong : ChangeSpec := { name := "lifeNext", fn := fun _ => fun
  | [d1, d2] => { results := [.lit (.bool false)], args := [d1, d2] }
  | _ => none }
def LifeNextWrongFalsely : Prop := lifeNextRow.holds Tryd.pinned (OpenSpec.ofChange lifeNextWrong)

/-- 'paternosterlaw12.LifeGoes': WHATEVER THE INPUT: true; the input reads as it did. -/
def lifeGoesSpec : ChangeSpec := { name := "lifeGoes", fn := fun _ => fun
  | [d] => { results := [.lit (.bool true)], args := [d] }
  | _ => none }
def lifeGoesRow : OpenClaim := { program := "ytcidpnkdefmaoaadoor", sum := "9ea170c6bc613771cf446fa64417ce5669e0684741ff114af24be9840b3ebdc1", func := "paternoster/paternosterlaw12.LifeGoes", spec := "lifeGoes", unfollowed := true, recurses := true, named := ["paternoster/life.follows"], apart := false, laid := [("paternoster/life.follows", laid_paternoster_life_follows)] }
def LifeGoesSaid : Prop := lifeGoesRow.holds Tryd.pinned (OpenSpec.ofChange lifeGoesSpec)

/-- ITS FALSE NEIGHBOUR: 'it returns false'. Refute it at one input. -/
def lifeGoesWrong : ChangeSpec := { name := "lifeGoes", fn := fun _ => fun
  | [d] => { results := [.lit (.bool false)], args := [d] }
  | _ => none }
def LifeGoesWrongFalsely : Prop := lifeGoesRow.holds Tryd.pinned (OpenSpec.ofChange lifeGoesWrong)

/-- 'paternosterlaw12.LifeSides': WHATEVER THE INPUT: true; the input reads as it did. -/
def lifeSidesSpec : ChangeSpec := { name := "lifeSides", fn := fun _ => fun
  | [d] => { results := [.lit (.bool true)], args := [d] }
  | _ => none }
def lifeSidesRow : OpenClaim := { program := "ytcidpnkdefmaoaadoor", sum := "9ea170c6bc613771cf446fa64417ce5669e0684741ff114af24be9840b3ebdc1", func := "paternoster/paternosterlaw12.LifeSides", spec := "lifeSides", unfollowed := true, recurses := true, named := ["paternoster/life.follows"], apart := false, laid := [("paternoster/life.follows", laid_paternoster_life_follows)] }
def LifeSidesSaid : Prop := lifeSidesRow.holds Tryd.pinned (OpenSpec.ofChange lifeSidesSpec)

/-- ITS FALSE NEIGHBOUR: 'it returns false'. Refute it at one input. -/
def lifeSidesWrong : ChangeSpec := { name := "lifeSides", fn := fun _ => fun
  | [d] => { results := [.lit (.bool false)], args := [d] }
  | _ => none }
def LifeSidesWrongFalsely : Prop := lifeSidesRow.holds Tryd.pinned (OpenSpec.ofChange lifeSidesWrong)

/-- 'paternosterlaw12.LifeNone': WHATEVER THE INPUT: true; the input reads as it did. -/
def lifeNoneSpec : ChangeSpec := { name := "lifeNone", fn := fun _ => fun
  | [d] => { results := [.lit (.bool true)], args := [d] }
  | _ => none }
def lifeNoneRow : OpenClaim := { program := "ytcidpnkdefmaoaadoor", sum := "9ea170c6bc613771cf446fa64417ce5669e0684741ff114af24be9840b3ebdc1", func := "paternoster/paternosterlaw12.LifeNone", spec := "lifeNone", unfollowed := true, recurses := true, named := ["paternoster/life.follows"], apart := false, laid := [("paternoster/life.follows", laid_paternoster_life_follows)] }
def LifeNoneSaid : Prop := lifeNoneRow.holds Tryd.pinned (OpenSpec.ofChange lifeNoneSpec)

/-- ITS FALSE NEIGHBOUR: 'it returns false'. Refute it at one input. -/
def lifeNoneWrong : ChangeSpec := { name := "lifeNone", fn := fun _ => fun
  | [d] => { results := [.lit (.bool false)], args := [d] }
  | _ => none }
def LifeNoneWrongFalsely : Prop := lifeNoneRow.holds Tryd.pinned (OpenSpec.ofChange lifeNoneWrong)

/- THE SECOND FORM. 'bulk': how many values and letters a reading holds, each counted each time it is reached (what is shared counts as often as it is met; a slice's spare places count too). A statement '..UptoSaid' is the law's where the arguments, and the package variables that the reading takes, are together of bulk at most 1048576: NARROWER than '..Said'. Prove '..Said' where nothing that the law and all that it calls make is longer than what came in: it says more and counts as full. Else prove '..UptoSaid'. A law counts once. -/
mutual
def uptoBulk {H : Type} : DataW H → Nat
  | .lit (.string bytes) => bytes.length + 1
  | .lit _ => 1
  | .nil => 1
  | .ptr d => uptoBulk d + 1
  | .slice elems spare => uptoBulkAll elems + uptoBulkAll spare + 1
  | .agg parts => uptoBulkAll parts + 1
  | .iface _ d => uptoBulk d + 1
  | .map entries => uptoBulkEntries entries + 1
  | .held _ => 1
def uptoBulkAll {H : Type} : List (DataW H) → Nat
  | [] => 0
  | d :: r => uptoBulk d + uptoBulkAll r
def uptoBulkEntries {H : Type} : List (Lit × DataW H) → Nat
  | [] => 0
  | x :: r => uptoBulkEntry x + uptoBulkEntries r
def uptoBulkEntry {H : Type} : Lit × DataW H → Nat
  | (.string bytes, d) => bytes.length + uptoBulk d + 1
  | (_, d) => uptoBulk d + 1
 end
def uptoSmall : (H : Type) → List (DataW H) → Bool := fun _ ds => decide (uptoBulkAll ds ≤ 1048576)
def OpenSpec.upto (s : _root_.Go.ChangeSpec) : _root_.Go.OpenSpec := { _root_.Go.OpenSpec.ofChange s with cond := some uptoSmall }

/-- 'paternosterlaw12.LifeNext', WHERE WHAT IT READS IS OF BULK AT MOST 1048576: true; the input reads as it did. -/
def lifeNextUptoRow : OpenClaim := { program := "ytcidpnkdefmaoaadoor", sum := "9ea170c6bc613771cf446fa64417ce5669e0684741ff114af24be9840b3ebdc1", func := "paternoster/paternosterlaw12.LifeNext", spec := "lifeNext", unfollowed := true, recurses := true, named := ["paternoster/life.follows"], apart := false, laid := [("paternoster/life.follows", laid_paternoster_life_follows)], narrowed := true }
def LifeNextUptoSaid : Prop := lifeNextUptoRow.holds Tryd.pinned (OpenSpec.upto lifeNextSpec)

/-- 'paternosterlaw12.LifeGoes', WHERE WHAT IT READS IS OF BULK AT MOST 1048576: true; the input reads as it did. -/
def lifeGoesUptoRow : OpenClaim := { program := "ytcidpnkdefmaoaadoor", sum := "9ea170c6bc613771cf446fa64417ce5669e0684741ff114af24be9840b3ebdc1", func := "paternoster/paternosterlaw12.LifeGoes", spec := "lifeGoes", unfollowed := true, recurses := true, named := ["paternoster/life.follows"], apart := false, laid := [("paternoster/life.follows", laid_paternoster_life_follows)], narrowed := true }
def LifeGoesUptoSaid : Prop := lifeGoesUptoRow.holds Tryd.pinned (OpenSpec.upto lifeGoesSpec)

/-- 'paternosterlaw12.LifeSides', WHERE WHAT IT READS IS OF BULK AT MOST 1048576: true; the input reads as it did. -/
def lifeSidesUptoRow : OpenClaim := { program := "ytcidpnkdefmaoaadoor", sum := "9ea170c6bc613771cf446fa64417ce5669e0684741ff114af24be9840b3ebdc1", func := "paternoster/paternosterlaw12.LifeSides", spec := "lifeSides", unfollowed := true, recurses := true, named := ["paternoster/life.follows"], apart := false, laid := [("paternoster/life.follows", laid_paternoster_life_follows)], narrowed := true }
def LifeSidesUptoSaid : Prop := lifeSidesUptoRow.holds Tryd.pinned (OpenSpec.upto lifeSidesSpec)

/-- 'paternosterlaw12.LifeNone', WHERE WHAT IT READS IS OF BULK AT MOST 1048576: true; the input reads as it did. -/
def lifeNoneUptoRow : OpenClaim := { program := "ytcidpnkdefmaoaadoor", sum := "9ea170c6bc613771cf446fa64417ce5669e0684741ff114af24be9840b3ebdc1", func := "paternoster/paternosterlaw12.LifeNone", spec := "lifeNone", unfollowed := true, recurses := true, named := ["paternoster/life.follows"], apart := false, laid := [("paternoster/life.follows", laid_paternoster_life_follows)], narrowed := true }
def LifeNoneUptoSaid : Prop := lifeNoneUptoRow.holds Tryd.pinned (OpenSpec.upto lifeNoneSpec)

end Rows
end Go.Proofs.YtcidpnkdefmaoaaDoor
