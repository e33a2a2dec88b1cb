/- The rest of package drain's functions, and of the document's answer. -/
import Derived.Test.YtmlbbjcgcdkffaaDrain
namespace Go.Proofs.Ytmlbbjcgcdkffaa
open Go.RowKit

def EndedPost (w : World) (b : Nat) (x : Ending) (w' : World) : Prop :=
  ∃ g, x = .returned (.func (.func 27) #[] #[.pointer (some ⟨g, 0, none⟩)]) ∧ w.heap.size ≤ g ∧ Only Nil w w' ∧ Blk w' g 23 #[.pointer (some ⟨b, 0, none⟩)]
theorem ended_any (b : Nat) (w : World) : Calls Try.prog 23 #[.pointer (some ⟨b, 0, none⟩)] w (EndedPost w b) := by
  have hmf := mkf Try.prog
  go_enter Try.func23, Try.ntmps23
  go_wp2
  go_ret
  exact ⟨w.heap.size, rfl, Nat.le_refl _, (Only.refl _ _).alloc _, Blk.new _ _ _⟩

theorem ended1_any (g b : Nat) (S G O n : Int) (r : Bool) (w : World) (hg : Blk w g 23 #[.pointer (some ⟨b, 0, none⟩)]) (hD : Dr w b S G O) (hr : ((decide (0 ≤ S) || decide (0 ≤ G)) && decide (n ≤ 0)) = r) :
    Calls Try.prog 27 #[.int .i64 n, .pointer (some ⟨g, 0, none⟩)] w fun e w' => e = .returned (.bool r) ∧ Only Nil w w' := by
  obtain ⟨c0, c1, c2, c3, c4, c5⟩ := hD.facts
  have cg : w.cell? ⟨g, 0, none⟩ = some (.pointer (some ⟨b, 0, none⟩)) := hg.cell 0
  subst hr
  generalize decide (0 ≤ S) = q1 at c0
  generalize decide (0 ≤ G) = q2 at c2
  cases q1 <;> cases q2
  all_goals
    go_enter Try.func27, Try.ntmps27
    go_wp2
    go_ret
    exact ⟨by simp, Only.refl _ _⟩

def boolPost (w : World) (r : Bool) (x : Ending) (w' : World) : Prop := x = .returned (.bool r) ∧ Only Nil w w'
set_option maxHeartbeats 1000000 in
theorem step_over (b : Nat) (S G O n : Int) (w : World) (hD : Dr w b S G O) (hO : decide (0 ≤ O) = true) :
    Calls Try.prog 15 #[.pointer (some ⟨b, 0, none⟩), .int .i64 n] w (DrPost w b (.bool true) S G O) := by
  obtain ⟨c0, c1, c2, c3, c4, c5⟩ := hD.facts
  go_enter Try.func15, Try.ntmps15
  go_wp2
  go_ret
  exact ⟨rfl, Only.refl _ _, hD⟩
set_option maxHeartbeats 1000000 in
theorem step_no (b : Nat) (S G O n : Int) (w : World) (hD : Dr w b S G O) (hO : decide (0 ≤ O) = false) (hr : ((decide (0 ≤ S) || decide (0 ≤ G)) && decide (n ≤ 0)) = false) :
    Calls Try.prog 15 #[.pointer (some ⟨b, 0, none⟩), .int .i64 n] w (DrPost w b (.bool false) S G O) := by
  obtain ⟨c0, c1, c2, c3, c4, c5⟩ := hD.facts
  have hs := fun (g : Nat) (W : World) (hg : Blk W g 23 #[.pointer (some ⟨b, 0, none⟩)]) (h : Dr W b S G O) => ended1_any g b S G O n false W hg h hr
  clear hr
  go_enter Try.func15, Try.ntmps15
  go_wp2_with (first
    | (go_at_call 23; (with_reducible refine (ended_any b _).mono ?_); rintro e w2 ⟨g, rfl, hg, ho2, hG⟩; have hD2 := hD.kept ho2 (fun hh => hh))
    | (go_at_call 27; (with_reducible refine (hs g _ hG hD2).mono ?_); rintro e w3 ⟨rfl, ho3⟩; have hD3 := hD2.kept ho3 (fun hh => hh); obtain ⟨d0, d1, d2, d3, d4, d5⟩ := Dr.facts hD3)
    )
  go_ret
  exact ⟨rfl, (ho2.trans ho3).of_nil _, hD3⟩
set_option maxHeartbeats 1000000 in
theorem step_end (b : Nat) (S G O n : Int) (w : World) (hD : Dr w b S G O) (hO : decide (0 ≤ O) = false) (hr : ((decide (0 ≤ S) || decide (0 ≤ G)) && decide (n ≤ 0)) = true) :
    Calls Try.prog 15 #[.pointer (some ⟨b, 0, none⟩), .int .i64 n] w (DrPost w b (.bool true) S G 0) := by
  obtain ⟨c0, c1, c2, c3, c4, c5⟩ := hD.facts
  have hs := fun (g : Nat) (W : World) (hg : Blk W g 23 #[.pointer (some ⟨b, 0, none⟩)]) (h : Dr W b S G O) => ended1_any g b S G O n true W hg h hr
  clear hr
  go_enter Try.func15, Try.ntmps15
  go_wp2_with (first
    | (go_at_call 23; (with_reducible refine (ended_any b _).mono ?_); rintro e w2 ⟨g, rfl, hg, ho2, hG⟩; have hD2 := hD.kept ho2 (fun hh => hh))
    | (go_at_call 27; (with_reducible refine (hs g _ hG hD2).mono ?_); rintro e w3 ⟨rfl, ho3⟩; have hD3 := hD2.kept ho3 (fun hh => hh))
    | (go_at_call 24; (with_reducible refine (end_any b S G O 0 _ hD3 (by omega)).mono ?_); rintro e w4 ⟨rfl, ho4, hD4⟩; have d4 : w4.cell? ⟨b, 4, none⟩ = some (.bool true) := (Dr.facts hD4).2.2.2.2.1)
    )
  go_ret
  exact ⟨rfl, ((ho2.trans ho3).of_nil _).trans ho4, hD4⟩

set_option maxHeartbeats 1000000 in
theorem rstep_over (b : Nat) (S G O n : Int) (w : World) (hD : RDr w b S G O) (hO : decide (0 ≤ O) = true) :
    Calls Try.prog 22 #[.pointer (some ⟨b, 0, none⟩), .int .i64 n] w (RDrPost w b (.bool true) S G O) := by
  obtain ⟨c0, c1, c2, f0, f1, f2⟩ := hD.facts
  have gO : 0 ≤ O := of_decide_eq_true hO
  go_enter Try.func22, Try.ntmps22
  go_wp2
  go_ret
  exact ⟨rfl, Only.refl _ _, hD⟩
set_option maxHeartbeats 1000000 in
theorem rstep_no (b : Nat) (S G O n : Int) (w : World) (hD : RDr w b S G O) (hO : decide (0 ≤ O) = false) (hr : ((decide (0 ≤ S) || decide (0 ≤ G)) && decide (n ≤ 0)) = false) :
    Calls Try.prog 22 #[.pointer (some ⟨b, 0, none⟩), .int .i64 n] w (RDrPost w b (.bool false) S G O) := by
  obtain ⟨c0, c1, c2, f0, f1, f2⟩ := hD.facts
  have gO : ¬ 0 ≤ O := of_decide_eq_false hO
  have h3 : ¬ n ≤ 0 ∨ (n ≤ 0 ∧ ¬ 0 ≤ S ∧ ¬ 0 ≤ G) := by
    by_cases h : n ≤ 0
    · right
      simp [h] at hr
      omega
    · exact .inl h
  rcases h3 with h3 | ⟨h3, h4, h5⟩
  all_goals
    go_enter Try.func22, Try.ntmps22
    go_wp2
    go_ret
    exact ⟨rfl, Only.refl _ _, hD⟩
set_option maxHeartbeats 1000000 in
theorem rstep_end (b : Nat) (S G O n : Int) (w : World) (hD : RDr w b S G O) (hO : decide (0 ≤ O) = false) (hr : ((decide (0 ≤ S) || decide (0 ≤ G)) && decide (n ≤ 0)) = true) :
    Calls Try.prog 22 #[.pointer (some ⟨b, 0, none⟩), .int .i64 n] w (RDrPost w b (.bool true) S G 0) := by
  obtain ⟨c0, c1, c2, f0, f1, f2⟩ := hD.facts
  have gO : ¬ 0 ≤ O := of_decide_eq_false hO
  have h3 : n ≤ 0 ∧ (0 ≤ S ∨ (¬ 0 ≤ S ∧ 0 ≤ G)) := by
    simp at hr
    omega
  obtain ⟨h3, h4 | ⟨h4, h5⟩⟩ := h3
  all_goals
    go_enter Try.func22, Try.ntmps22
    go_wp2
    go_ret
    exact ⟨rfl, (Only.refl (One b) w).set1 2 _, hD.set 2 _⟩

set_option maxHeartbeats 1000000 in
theorem MayOpen_any (b : Nat) (S G O : Int) (r : Bool) (w : World) (hD : Dr w b S G O) (hr : (!decide (0 ≤ O) && !decide (0 ≤ S) && !decide (0 ≤ G)) = r) :
    Calls Try.prog 12 #[.pointer (some ⟨b, 0, none⟩)] w fun e w' => e = .returned (.bool r) ∧ w' = w := by
  obtain ⟨c0, c1, c2, c3, c4, c5⟩ := hD.facts
  subst hr
  generalize decide (0 ≤ S) = q1 at c0
  generalize decide (0 ≤ G) = q2 at c2
  generalize decide (0 ≤ O) = q3 at c4
  cases q1 <;> cases q2 <;> cases q3
  all_goals
    go_enter Try.func12, Try.ntmps12
    go_wp2
    go_ret
    exact ⟨by simp, rfl⟩
set_option maxHeartbeats 1000000 in
theorem Takes_any (b : Nat) (S G O i : Int) (r : Bool) (w : World) (hD : Dr w b S G O) (hr : (!decide (0 ≤ O) && (!decide (0 ≤ S) || decide (i ≤ max S 0))) = r) :
    Calls Try.prog 13 #[.pointer (some ⟨b, 0, none⟩), .int .i64 i] w fun e w' => e = .returned (.bool r) ∧ w' = w := by
  obtain ⟨c0, c1, c2, c3, c4, c5⟩ := hD.facts
  subst hr
  generalize decide (0 ≤ S) = q1 at c0
  generalize max S 0 = M at c1
  generalize decide (0 ≤ O) = q3 at c4
  cases q1 <;> cases q3
  all_goals
    go_enter Try.func13, Try.ntmps13
    go_wp2
    go_ret
    exact ⟨by simp, rfl⟩
set_option maxHeartbeats 1000000 in
theorem Refused_any (b : Nat) (S G O i : Int) (r : Bool) (w : World) (hD : Dr w b S G O) (hr : (decide (0 ≤ G) && decide (max G 0 < i)) = r) :
    Calls Try.prog 14 #[.pointer (some ⟨b, 0, none⟩), .int .i64 i] w fun e w' => e = .returned (.bool r) ∧ w' = w := by
  obtain ⟨c0, c1, c2, c3, c4, c5⟩ := hD.facts
  subst hr
  generalize decide (0 ≤ G) = q1 at c2
  generalize max G 0 = M at c3
  cases q1
  all_goals
    go_enter Try.func14, Try.ntmps14
    go_wp2
    go_ret
    exact ⟨by simp, rfl⟩
set_option maxHeartbeats 1000000 in
theorem Over_any (b : Nat) (S G O : Int) (w : World) (hD : Dr w b S G O) :
    Calls Try.prog 9 #[.pointer (some ⟨b, 0, none⟩)] w fun e w' => e = .returned (.tuple #[.bool (decide (0 ≤ O)), .int .i64 (max O 0)]) ∧ Only Nil w w' := by
  obtain ⟨c0, c1, c2, c3, c4, c5⟩ := hD.facts
  by_cases h : 0 ≤ O
  · have e1 : decide (0 ≤ O) = true := by simpa using h
    rw [e1] at c4 ⊢
    generalize max O 0 = M at c5
    go_enter Try.func9, Try.ntmps9
    go_wp2
    go_quiet (fail)
    go_wp2
    go_ret2
    exact ⟨rfl, (Only.refl _ _).drewN _⟩
  · have e1 : decide (0 ≤ O) = false := by simpa using h
    have e2 : max O 0 = 0 := by omega
    rw [e1] at c4 ⊢
    rw [e2]
    go_enter Try.func9, Try.ntmps9
    go_wp2
    go_ret2
    exact ⟨rfl, Only.refl _ _⟩
set_option maxHeartbeats 1000000 in
theorem Sent_any (b : Nat) (S G O : Int) (w : World) (hD : Dr w b S G O) :
    Calls Try.prog 11 #[.pointer (some ⟨b, 0, none⟩)] w fun e w' => e = .returned (.tuple #[.int .i64 (max S 0), .bool (decide (0 ≤ S))]) ∧ Only Nil w w' := by
  obtain ⟨c0, c1, c2, c3, c4, c5⟩ := hD.facts
  generalize max S 0 = M at c1
  generalize decide (0 ≤ S) = q at c0
  go_enter Try.func11, Try.ntmps11
  go_wp2
  go_quiet (fail)
  go_wp2
  go_ret2
  exact ⟨rfl, (Only.refl _ _).drewN _⟩
def NewDr (w : World) (x : Ending) (w' : World) : Prop :=
  ∃ b, x = .returned (.pointer (some ⟨b, 0, none⟩)) ∧ w.heap.size ≤ b ∧ Only Nil w w' ∧ Dr w' b (-1) (-1) (-1)
theorem New_any (w : World) : Calls Try.prog 6 #[] w (NewDr w) := by
  go_enter Try.func6, Try.ntmps6
  go_wp2
  go_ret
  exact ⟨w.heap.size, rfl, Nat.le_refl _, (Only.refl _ _).alloc _, Blk.new _ _ _⟩
def NewRDr (w : World) (x : Ending) (w' : World) : Prop :=
  ∃ b, x = .returned (.pointer (some ⟨b, 0, none⟩)) ∧ w.heap.size ≤ b ∧ Only Nil w w' ∧ RDr w' b (-1) (-1) (-1)
theorem RNew_any (w : World) : Calls Try.prog 7 #[] w (NewRDr w) := by
  go_enter Try.func7, Try.ntmps7
  go_wp2
  go_ret
  exact ⟨w.heap.size, rfl, Nat.le_refl _, (Only.refl _ _).alloc _, Blk.new _ _ _⟩
end Go.Proofs.Ytmlbbjcgcdkffaa
