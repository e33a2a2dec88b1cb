/- What each function of package stall does to a stall that lies in a block of its own. -/
import Derived.Test.YtigcgdkfhlpkpaaRows
import Derived.Test.YtigcgdkfhlpkpaaKit
import Derived.Test.YtigcgdkfhlpkpaaArgs
namespace Go.Proofs.Ytigcgdkfhlpkpaa
open Go.RowKit

abbrev Sta (w : World) (b : Nat) (l n s : Int) (st f : Bool) : Prop := Blk w b 37 #[.int .i64 l, .int .i64 n, .int .i64 s, .bool st, .bool f]
theorem Sta.facts {w : World} {b : Nat} {l n s : Int} {st f : Bool} (h : Sta w b l n s st f) :
    w.cell? ⟨b, 0, none⟩ = some (.int .i64 l) ∧ w.cell? ⟨b, 1, none⟩ = some (.int .i64 n) ∧ w.cell? ⟨b, 2, none⟩ = some (.int .i64 s) ∧ w.cell? ⟨b, 3, none⟩ = some (.bool st) ∧ w.cell? ⟨b, 4, none⟩ = some (.bool f) :=
  ⟨h.cell 0, h.cell 1, h.cell 2, h.cell 3, h.cell 4⟩
theorem Sta.loose {w : World} {b : Nat} {l n s : Int} {st f : Bool} (h : Sta w b l n s st f) :
    w.frozen? ⟨b, 1, none⟩ = false ∧ w.frozen? ⟨b, 2, none⟩ = false ∧ w.frozen? ⟨b, 3, none⟩ = false ∧ w.frozen? ⟨b, 4, none⟩ = false :=
  ⟨h.frozen 1, h.frozen 2, h.frozen 3, h.frozen 4⟩

def LongPost (w : World) (b : Nat) (x : Ending) (w' : World) : Prop :=
  ∃ g, x = .returned (.func (.func 13) #[] #[.pointer (some ⟨g, 0, none⟩)]) ∧ w.heap.size ≤ g ∧ Only Nil w w' ∧ Blk w' g 23 #[.pointer (some ⟨b, 0, none⟩)]
theorem long_any (b : Nat) (w : World) : Calls Try.prog 12 #[.pointer (some ⟨b, 0, none⟩)] w (LongPost w b) := by
  have hmf := mkf Try.prog
  go_enter Try.func12, Try.ntmps12
  go_wp2
  go_ret
  exact ⟨w.heap.size, rfl, Nat.le_refl _, (Only.refl _ _).alloc _, Blk.new _ _ _⟩
theorem long1_any (g b : Nat) (l n s : Int) (st f : Bool) (w : World) (hg : Blk w g 23 #[.pointer (some ⟨b, 0, none⟩)]) (h : Sta w b l n s st f) (h1 : 0 ≤ n) (h2 : n ≤ 1000000) (h3 : 0 ≤ s) (h4 : s ≤ 1000000) :
    Calls Try.prog 13 #[.pointer (some ⟨g, 0, none⟩)] w fun e w' => e = .returned (.int .i64 (n - s)) ∧ Only Nil w w' := by
  obtain ⟨c0, c1, c2, c3, c4⟩ := h.facts
  have cg : w.cell? ⟨g, 0, none⟩ = some (.pointer (some ⟨b, 0, none⟩)) := hg.cell 0
  go_enter Try.func13, Try.ntmps13
  go_wp2
  go_quiet (fail)
  go_wp2
  go_ret
  exact ⟨rfl, (Only.refl _ _).drewN _⟩

def StepPost (w : World) (b : Nat) (r : Bool) (l n s : Int) (st f : Bool) (x : Ending) (w' : World) : Prop :=
  x = .returned (.bool r) ∧ Only (One b) w w' ∧ Sta w' b l n s st f
def CreditPost (w : World) (b : Nat) (l n s : Int) (st f : Bool) (x : Ending) (w' : World) : Prop :=
  x = .returned (.tuple #[]) ∧ Only (One b) w w' ∧ Sta w' b l n s st f

set_option maxHeartbeats 1000000 in
theorem at_any (b : Nat) (l n s t : Int) (st f : Bool) (w : World) (hS : Sta w b l n s st f) (hn : n ≤ t) :
    Calls Try.prog 11 #[.pointer (some ⟨b, 0, none⟩), .int .i64 t] w (CreditPost w b l t s st f) := by
  obtain ⟨c0, c1, c2, c3, c4⟩ := hS.facts
  obtain ⟨f1, f2, f3, f4⟩ := hS.loose
  go_enter Try.func11, Try.ntmps11
  go_wp2
  · go_end0
    exact ⟨rfl, (Only.refl (One b) w).set1 1 _, hS.set 1 _⟩
  · have e : n = t := by omega
    go_end0
    refine ⟨rfl, (Only.refl (One b) w).set1 1 _, ?_⟩
    have h2 := hS.set 1 (.int .i64 n)
    rw [← e]
    exact h2
set_option maxHeartbeats 1000000 in
theorem Credit_any (b : Nat) (l n s t : Int) (st : Bool) (w : World) (h : Sta w b l n s st false) (hn : n ≤ t) :
    Calls Try.prog 7 #[.pointer (some ⟨b, 0, none⟩), .int .i64 t] w (CreditPost w b l t (if st then t else s) st false) := by
  obtain ⟨c0, c1, c2, c3, c4⟩ := h.facts
  cases st
  · go_enter Try.func7, Try.ntmps7
    go_wp2_with (first
      | (go_at_call 11; (with_reducible refine (at_any b l n s t _ _ _ h hn).mono ?_); rintro e w1 ⟨rfl, ho, h1⟩; obtain ⟨d0, d1, d2, d3, d4⟩ := Sta.facts h1)
      )
    go_end0
    exact ⟨rfl, ho, h1⟩
  · go_enter Try.func7, Try.ntmps7
    go_wp2_with (first
      | (go_at_call 11; (with_reducible refine (at_any b l n s t _ _ _ h hn).mono ?_); rintro e w1 ⟨rfl, ho, h1⟩; obtain ⟨d0, d1, d2, d3, d4⟩ := Sta.facts h1; obtain ⟨f1, f2, f3, f4⟩ := Sta.loose h1)
      )
    go_end0
    exact ⟨rfl, ho.set1 2 _, Blk.set h1 2 _⟩
theorem Credit_nil (t : Int) (w : World) : Calls Try.prog 7 #[.pointer none, .int .i64 t] w fun e w' => e = .returned (.tuple #[]) ∧ w = w' := by
  go_enter Try.func7, Try.ntmps7
  go_wp2
  refine bodyPost_ret (results_none rfl _ _ _) rfl ?_
  exact ⟨rfl, rfl⟩
set_option maxHeartbeats 1000000 in
theorem Step_free (b : Nat) (l n s t : Int) (st : Bool) (w : World) (h : Sta w b l n s st false) (hn : n ≤ t) (hl : 1 ≤ l) :
    Calls Try.prog 8 #[.pointer (some ⟨b, 0, none⟩), .int .i64 t, .bool false] w (StepPost w b false l t s false false) := by
  obtain ⟨c0, c1, c2, c3, c4⟩ := h.facts
  go_enter Try.func8, Try.ntmps8
  go_wp2_with (first
    | (go_at_call 11; (with_reducible refine (at_any b l n s t _ _ _ h hn).mono ?_); rintro e w1 ⟨rfl, ho, h1⟩; obtain ⟨d0, d1, d2, d3, d4⟩ := Sta.facts h1; obtain ⟨f1, f2, f3, f4⟩ := Sta.loose h1)
    )
  go_ret
  exact ⟨rfl, ho.set1 3 _, Blk.set h1 3 _⟩
set_option maxHeartbeats 1000000 in
theorem Step_blocked (b : Nat) (l n s t : Int) (w : World) (h : Sta w b l n s true false) (hn : n ≤ t) (hl : 1 ≤ l) (h1 : 0 ≤ t) (h2 : t ≤ 1000000) (h3 : 0 ≤ s) (h4 : s ≤ 1000000) :
    Calls Try.prog 8 #[.pointer (some ⟨b, 0, none⟩), .int .i64 t, .bool true] w (StepPost w b (decide (l ≤ t - s)) l t s true (decide (l ≤ t - s))) := by
  obtain ⟨c0, c1, c2, c3, c4⟩ := h.facts
  go_enter Try.func8, Try.ntmps8
  go_wp2_with (first
    | (go_at_call 11; (with_reducible refine (at_any b l n s t _ _ _ h hn).mono ?_); rintro e w1 ⟨rfl, ho, hs1⟩; obtain ⟨d0, d1, d2, d3, d4⟩ := Sta.facts hs1; obtain ⟨f1, f2, f3, f4⟩ := Sta.loose hs1)
    )
  go_region_with (first
    | (go_at_call 12; (with_reducible refine (long_any b _).mono ?_); rintro e w2 ⟨g, rfl, hg, ho2, hG⟩; have hs2 := (Blk.drew hs1).kept ho2 (fun hh => hh); obtain ⟨d0, d1, d2, d3, d4⟩ := Sta.facts hs2; obtain ⟨f1, f2, f3, f4⟩ := Sta.loose hs2)
    | (go_at_call 13; (with_reducible refine (long1_any g b l t s true false _ hG hs2 h1 h2 h3 h4).mono ?_); rintro e w3 ⟨rfl, ho3⟩; have hs3 := hs2.kept ho3 (fun hh => hh); obtain ⟨d0, d1, d2, d3, d4⟩ := Sta.facts hs3; obtain ⟨f1, f2, f3, f4⟩ := Sta.loose hs3)
    )
  all_goals
    go_wp2
    go_ret
    refine ⟨rfl, ?_, ?_⟩
    · exact ((ho.drew.trans (ho2.of_nil _)).trans (ho3.of_nil _)).set1 4 _
    · exact Blk.set hs3 4 _
set_option maxHeartbeats 1000000 in
/-- the first step that is blocked, if it does not fire at once -/
theorem Step_first (b : Nat) (l n s t : Int) (w : World) (h : Sta w b l n s false false) (hn : n ≤ t) (hl : 1 ≤ l) (h1 : 0 ≤ t) (h2 : t ≤ 1000000) :
    Calls Try.prog 8 #[.pointer (some ⟨b, 0, none⟩), .int .i64 t, .bool true] w (StepPost w b false l t t true false) := by
  obtain ⟨c0, c1, c2, c3, c4⟩ := h.facts
  have hfin : decide (l ≤ t - t) = false := by simp; omega
  go_enter Try.func8, Try.ntmps8
  go_wp2_with (first
    | (go_at_call 11; (with_reducible refine (at_any b l n s t _ _ _ h hn).mono ?_); rintro e w1 ⟨rfl, ho, hs0⟩; obtain ⟨d0, d1, d2, d3, d4⟩ := Sta.facts hs0; obtain ⟨f1, f2, f3, f4⟩ := Sta.loose hs0)
    )
  have hs1 : Sta ((w1.setCell ⟨b, 3, none⟩ (.bool true)).setCell ⟨b, 2, none⟩ (.int .i64 t)) b l t t true false := Blk.set (Blk.set hs0 3 _) 2 _
  go_region_with (first
    | (go_at_call 12; (with_reducible refine (long_any b _).mono ?_); rintro e w2 ⟨g, rfl, hg, ho2, hG⟩; have hs2 := (Blk.drew hs1).kept ho2 (fun hh => hh); obtain ⟨d0, d1, d2, d3, d4⟩ := Sta.facts hs2; obtain ⟨f1, f2, f3, f4⟩ := Sta.loose hs2)
    | (go_at_call 13; (with_reducible refine (long1_any g b l t t true false _ hG hs2 h1 h2 h1 h2).mono ?_); rintro e w3 ⟨rfl, ho3⟩; have hs3 := hs2.kept ho3 (fun hh => hh); obtain ⟨d0, d1, d2, d3, d4⟩ := Sta.facts hs3; obtain ⟨f1, f2, f3, f4⟩ := Sta.loose hs3)
    )
  all_goals
    go_wp2
    go_ret
    refine ⟨?_, ?_, ?_⟩
    · first | rfl | (simp; omega)
    · exact (((ho.set1 3 _).set1 2 _).drew.trans (ho2.of_nil _) |>.trans (ho3.of_nil _)).set1 4 _
    · have h5 := Blk.set hs3 4 (.bool false)
      have h6 : decide (l ≤ (0 : Int)) = false := by simp; omega
      first | exact h5 | (rw [h6]; exact h5)
end Go.Proofs.Ytigcgdkfhlpkpaa
