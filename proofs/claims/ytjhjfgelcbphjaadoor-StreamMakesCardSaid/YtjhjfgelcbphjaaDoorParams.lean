/- What each function of package params does, and the same of the document's answer. -/
import Derived.Test.YtjhjfgelcbphjaaDoorRows
import Derived.Test.YtjhjfgelcbphjaaDoorSeq
namespace Go.Proofs.YtjhjfgelcbphjaaDoor
open Go.RowKit

abbrev stV (a b c : Int) : Value := .agg #[.int .i64 a, .int .i64 b, .int .i64 c]
structure Pr where
  ID : Int
  V : Int
def encP (p : Pr) : List Value := [.int .i64 p.ID, .int .i64 p.V]
def okP (p : Pr) : Prop := i64Ok p.ID ∧ i64Ok p.V

def pw1 (a i v : Int) : Int := if i = 1 then v else a
def pw2 (a i v : Int) : Int := if i = 2 then v else a
def pw3 (a i v : Int) : Int := if i = 3 then v else a
def rightB (a b c : Int) : Bool := decide (0 ≤ a) && decide (a ≤ 4096) && decide (0 ≤ b) && decide (b ≤ 32) && decide (0 ≤ c) && decide (c ≤ 64)
set_option maxHeartbeats 1000000 in
theorem Right_any (a b c : Int) (w : World) : Calls Tryd.prog 18 #[stV a b c] w fun x w' => x = .returned (.bool (rightB a b c)) ∧ Only Nil w w' := by
  unfold stV rightB
  cases h1 : decide (0 ≤ a) <;> cases h2 : decide (a ≤ 4096) <;> cases h3 : decide (0 ≤ b) <;> cases h4 : decide (b ≤ 32) <;> cases h5 : decide (0 ≤ c)
  all_goals
    go_enter Tryd.func18, Tryd.ntmps18
    go_wp2
    go_ret
    exact ⟨rfl, (Only.refl _ _).alloc _⟩
set_option maxHeartbeats 1000000 in
theorem Check_any (a b c : Int) (w : World) : Calls Tryd.prog 69 #[stV a b c] w fun x w' => x = .returned (.int .i64 (if rightB a b c = true then 0 else 3)) ∧ Only Nil w w' := by
  unfold stV
  by_cases h : rightB a b c = true
  · rw [if_pos h]
    unfold rightB at h
    simp only [Bool.and_eq_true, decide_eq_true_eq] at h
    obtain ⟨⟨⟨⟨⟨h1, h2⟩, h3⟩, h4⟩, h5⟩, h6⟩ := h
    go_enter Tryd.func69, Tryd.ntmps69
    go_wp2
    go_ret
    exact ⟨rfl, (Only.refl _ _).alloc _⟩
  · rw [if_neg h]
    by_cases g1 : 0 ≤ a ∧ a ≤ 4096
    · obtain ⟨h1, h2⟩ := g1
      by_cases g2 : 0 ≤ b ∧ b ≤ 32
      · obtain ⟨h3, h4⟩ := g2
        by_cases h5 : 0 ≤ c
        · have h6 : ¬ c ≤ 64 := fun h6 => h (by unfold rightB; simp [*])
          go_enter Tryd.func69, Tryd.ntmps69
          go_wp2
          go_ret
          exact ⟨rfl, (Only.refl _ _).alloc _⟩
        · go_enter Tryd.func69, Tryd.ntmps69
          go_wp2
          go_ret
          exact ⟨rfl, (Only.refl _ _).alloc _⟩
      · by_cases h3 : 0 ≤ b
        · have h4 : ¬ b ≤ 32 := by omega
          go_enter Tryd.func69, Tryd.ntmps69
          go_wp2
          go_ret
          exact ⟨rfl, (Only.refl _ _).alloc _⟩
        · go_enter Tryd.func69, Tryd.ntmps69
          go_wp2
          go_ret
          exact ⟨rfl, (Only.refl _ _).alloc _⟩
    · by_cases h1 : 0 ≤ a
      · have h2 : ¬ a ≤ 4096 := by omega
        go_enter Tryd.func69, Tryd.ntmps69
        go_wp2
        go_ret
        exact ⟨rfl, (Only.refl _ _).alloc _⟩
      · go_enter Tryd.func69, Tryd.ntmps69
        go_wp2
        go_ret
        exact ⟨rfl, (Only.refl _ _).alloc _⟩

/-- settings with others: the settings, the code -/
structure St where
  a : Int
  b : Int
  c : Int
deriving DecidableEq
def St.wth (s : St) (p : Pr) : St := ⟨pw1 s.a p.ID p.V, pw2 s.b p.ID p.V, pw3 s.c p.ID p.V⟩
def apG : List Pr → St → St × Int
  | [], s => (s, 0)
  | p :: l, s => if p.V < 0 ∨ 2147483647 < p.V then (⟨0, 0, 0⟩, 4) else apG l (s.wth p)
def apV (r : St × Int) : Value := .tuple #[stV r.1.a r.1.b r.1.c, .int .i64 r.2]
theorem apG_bad {l : List Pr} {k : Nat} {p : Pr} {q : St} {r : St × Int} (hd : l.drop k = p :: l.drop (k + 1)) (h : p.V < 0 ∨ 2147483647 < p.V) (ha : apG (l.drop k) q = r) : apV r = .tuple #[stV 0 0 0, .int .i64 4] := by
  rw [hd, apG, if_pos h] at ha
  rw [← ha]
  rfl
theorem apG_good {l : List Pr} {k : Nat} {p : Pr} {q : St} {r : St × Int} (hd : l.drop k = p :: l.drop (k + 1)) (h : ¬ (p.V < 0 ∨ 2147483647 < p.V)) (ha : apG (l.drop k) q = r) : apG (l.drop (k + 1)) (q.wth p) = r := by
  rw [hd, apG, if_neg h] at ha
  exact ha
theorem apG_end {l : List Pr} {k : Nat} {q : St} {r : St × Int} (hk : l.length ≤ k) (ha : apG (l.drop k) q = r) : apV r = .tuple #[stV q.a q.b q.c, .int .i64 0] := by
  rw [List.drop_eq_nil_of_le hk, apG] at ha
  rw [← ha]
  rfl
abbrev Sb (w : World) (g : Nat) (q : St) : Prop := Blk w g 23 #[.int .i64 q.a, .int .i64 q.b, .int .i64 q.c]
theorem Sb.facts {w : World} {g : Nat} {q : St} (h : Sb w g q) : w.cell? ⟨g, 0, none⟩ = some (.int .i64 q.a) ∧ w.cell? ⟨g, 1, none⟩ = some (.int .i64 q.b) ∧ w.cell? ⟨g, 2, none⟩ = some (.int .i64 q.c) := ⟨h.cell 0, h.cell 1, h.cell 2⟩
theorem Sb.loose {w : World} {g : Nat} {q : St} (h : Sb w g q) : w.frozen? ⟨g, 0, none⟩ = false ∧ w.frozen? ⟨g, 1, none⟩ = false ∧ w.frozen? ⟨g, 2, none⟩ = false := ⟨h.frozen 0, h.frozen 1, h.frozen 2⟩
theorem Sb.put {w : World} {g : Nat} {q : St} (h : Sb w g q) (a b c : Int) : Sb (((w.setCell ⟨g, 0, none⟩ (.int .i64 a)).setCell ⟨g, 1, none⟩ (.int .i64 b)).setCell ⟨g, 2, none⟩ (.int .i64 c)) g ⟨a, b, c⟩ :=
  Blk.set (Blk.set (Blk.set h 0 _) 1 _) 2 _
theorem Sb.away {w : World} {g g' : Nat} {q : St} (h : Sb w g q) (hg : g ≠ g') (a b c : Value) : Sb (((w.setCell ⟨g', 0, none⟩ a).setCell ⟨g', 1, none⟩ b).setCell ⟨g', 2, none⟩ c) g q :=
  Blk.far (Blk.far (Blk.far h hg _) hg _) hg _
theorem Below.put {w w' : World} {B g : Nat} (h : Below B w w') (hg : B ≤ g) (a b c : Value) : Below B w (((w'.setCell ⟨g, 0, none⟩ a).setCell ⟨g, 1, none⟩ b).setCell ⟨g, 2, none⟩ c) :=
  ((h.setCell (p := ⟨g, 0, none⟩) hg _).setCell (p := ⟨g, 1, none⟩) hg _).setCell (p := ⟨g, 2, none⟩) hg _

theorem pr_info : (Tryd.prog.info? 117).map (fun i => (i.zero, i.size, i.bytes)) = some (some (.agg #[.int .i64 0, .int .i64 0]), 2, 16) := by kernel_rfl
end Go.Proofs.YtjhjfgelcbphjaaDoor
