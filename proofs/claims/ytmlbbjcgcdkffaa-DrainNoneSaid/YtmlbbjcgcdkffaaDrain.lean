/- What each function of package drain does to a drain that lies in a block of its own, and the same of the document's answer. What was sent, what was got, and whether it is over stand for numbers; below 0: no. -/
import Derived.Test.YtmlbbjcgcdkffaaRows
import Derived.Test.YtmlbbjcgcdkffaaKit
import Derived.Test.YtmlbbjcgcdkffaaArgs
namespace Go.Proofs.Ytmlbbjcgcdkffaa
open Go.RowKit

abbrev Dr (w : World) (b : Nat) (S G O : Int) : Prop :=
  Blk w b 48 #[.bool (decide (0 ≤ S)), .int .i64 (max S 0), .bool (decide (0 ≤ G)), .int .i64 (max G 0), .bool (decide (0 ≤ O)), .int .i64 (max O 0)]
abbrev RDr (w : World) (b : Nat) (S G O : Int) : Prop := Blk w b 34 #[.int .i64 S, .int .i64 G, .int .i64 O]
def drOk (S G O : Int) : Prop := (-1 ≤ S ∧ S ≤ 2147483647) ∧ (-1 ≤ G ∧ G ≤ 2147483647) ∧ (-1 ≤ O ∧ O ≤ 2147483647)

theorem Dr.facts {w : World} {b : Nat} {S G O : Int} (h : Dr w b S G O) :
    w.cell? ⟨b, 0, none⟩ = some (.bool (decide (0 ≤ S))) ∧ w.cell? ⟨b, 1, none⟩ = some (.int .i64 (max S 0)) ∧ w.cell? ⟨b, 2, none⟩ = some (.bool (decide (0 ≤ G))) ∧
    w.cell? ⟨b, 3, none⟩ = some (.int .i64 (max G 0)) ∧ w.cell? ⟨b, 4, none⟩ = some (.bool (decide (0 ≤ O))) ∧ w.cell? ⟨b, 5, none⟩ = some (.int .i64 (max O 0)) :=
  ⟨h.cell 0, h.cell 1, h.cell 2, h.cell 3, h.cell 4, h.cell 5⟩
theorem Dr.loose {w : World} {b : Nat} {S G O : Int} (h : Dr w b S G O) :
    w.frozen? ⟨b, 0, none⟩ = false ∧ w.frozen? ⟨b, 1, none⟩ = false ∧ w.frozen? ⟨b, 2, none⟩ = false ∧ w.frozen? ⟨b, 3, none⟩ = false ∧ w.frozen? ⟨b, 4, none⟩ = false ∧ w.frozen? ⟨b, 5, none⟩ = false :=
  ⟨h.frozen 0, h.frozen 1, h.frozen 2, h.frozen 3, h.frozen 4, h.frozen 5⟩
theorem Dr.mk {w : World} {b : Nat} {S G O : Int} {si gi oi : Bool} {sl gl co : Int} (h : Blk w b 48 #[.bool si, .int .i64 sl, .bool gi, .int .i64 gl, .bool oi, .int .i64 co])
    (h1 : si = decide (0 ≤ S)) (h2 : sl = max S 0) (h3 : gi = decide (0 ≤ G)) (h4 : gl = max G 0) (h5 : oi = decide (0 ≤ O)) (h6 : co = max O 0) : Dr w b S G O := by
  subst h1 h2 h3 h4 h5 h6
  exact h
theorem RDr.facts {w : World} {b : Nat} {S G O : Int} (h : RDr w b S G O) :
    w.cell? ⟨b, 0, none⟩ = some (.int .i64 S) ∧ w.cell? ⟨b, 1, none⟩ = some (.int .i64 G) ∧ w.cell? ⟨b, 2, none⟩ = some (.int .i64 O) ∧
    w.frozen? ⟨b, 0, none⟩ = false ∧ w.frozen? ⟨b, 1, none⟩ = false ∧ w.frozen? ⟨b, 2, none⟩ = false :=
  ⟨h.cell 0, h.cell 1, h.cell 2, h.frozen 0, h.frozen 1, h.frozen 2⟩

def mayB (n : Int) : Bool := decide (0 ≤ n) && decide (n ≤ 2147483647)
theorem mayB_yes {n : Int} (h : mayB n = true) : 0 ≤ n ∧ n ≤ 2147483647 := by simpa [mayB] using h
theorem may_any (n : Int) (w : World) : Calls Try.prog 25 #[.int .i64 n] w fun e w' => e = .returned (.bool (mayB n)) ∧ w = w' := by
  by_cases h1 : 0 ≤ n
  · have e1 : mayB n = decide (n ≤ 2147483647) := by simp [mayB, h1]
    rw [e1]
    go_enter Try.func25, Try.ntmps25
    go_wp2
    go_ret
    exact ⟨rfl, rfl⟩
  · have e1 : mayB n = false := by simp [mayB, h1]
    rw [e1]
    go_enter Try.func25, Try.ntmps25
    go_wp2
    go_ret
    exact ⟨rfl, rfl⟩
theorem number_any (n : Int) (w : World) : Calls Try.prog 26 #[.int .i64 n] w fun e w' => e = .returned (.bool (mayB n)) ∧ w = w' := by
  by_cases h1 : 0 ≤ n
  · have e1 : mayB n = decide (n ≤ 2147483647) := by simp [mayB, h1]
    rw [e1]
    go_enter Try.func26, Try.ntmps26
    go_wp2
    go_ret
    exact ⟨rfl, rfl⟩
  · have e1 : mayB n = false := by simp [mayB, h1]
    rw [e1]
    go_enter Try.func26, Try.ntmps26
    go_wp2
    go_ret
    exact ⟨rfl, rfl⟩

def DrPost (w : World) (b : Nat) (v : Value) (S G O : Int) (x : Ending) (w' : World) : Prop := x = .returned v ∧ Only (One b) w w' ∧ Dr w' b S G O
def RDrPost (w : World) (b : Nat) (v : Value) (S G O : Int) (x : Ending) (w' : World) : Prop := x = .returned v ∧ Only (One b) w w' ∧ RDr w' b S G O

set_option maxHeartbeats 1000000 in
theorem end_any (b : Nat) (S G O c : Int) (w : World) (hD : Dr w b S G O) (hc : 0 ≤ c) : Calls Try.prog 24 #[.pointer (some ⟨b, 0, none⟩), .int .i64 c] w (DrPost w b (.tuple #[]) S G c) := by
  obtain ⟨c0, c1, c2, c3, c4, c5⟩ := hD.facts
  obtain ⟨f0, f1, f2, f3, f4, f5⟩ := hD.loose
  go_enter Try.func24, Try.ntmps24
  go_wp2
  go_end0
  refine ⟨rfl, ((Only.refl (One b) w).set1 4 _).set1 5 _, Dr.mk ((hD.set 4 _).set 5 _) rfl rfl rfl rfl ?_ ?_⟩
  · simp; omega
  · omega
set_option maxHeartbeats 1000000 in
theorem send_closed (b : Nat) (S G O n : Int) (w : World) (hD : Dr w b S G O) (hO : decide (0 ≤ O) = true) :
    Calls Try.prog 17 #[.pointer (some ⟨b, 0, none⟩), .int .i64 n] w (DrPost w b (.int .i64 14) S G O) := by
  obtain ⟨c0, c1, c2, c3, c4, c5⟩ := hD.facts
  obtain ⟨f0, f1, f2, f3, f4, f5⟩ := hD.loose
  go_enter Try.func17, Try.ntmps17
  go_wp2_with (first
    | (go_at_call 25; (with_reducible refine (may_any _ _).mono ?_); rintro e w1 ⟨rfl, rfl⟩)
    )
  go_ret
  exact ⟨rfl, Only.refl _ _, hD⟩
set_option maxHeartbeats 1000000 in
theorem rsend_closed (b : Nat) (S G O n : Int) (w : World) (hD : RDr w b S G O) (hO : decide (0 ≤ O) = true) :
    Calls Try.prog 19 #[.pointer (some ⟨b, 0, none⟩), .int .i64 n] w (RDrPost w b (.int .i64 14) S G O) := by
  obtain ⟨c0, c1, c2, f0, f1, f2⟩ := hD.facts
  have gO : 0 ≤ O := of_decide_eq_true hO
  go_enter Try.func19, Try.ntmps19
  go_wp2_with (first
    | (go_at_call 26; (with_reducible refine (number_any _ _).mono ?_); rintro e w1 ⟨rfl, rfl⟩)
    )
  go_ret
  exact ⟨rfl, Only.refl _ _, hD⟩
set_option maxHeartbeats 1000000 in
theorem send_arg (b : Nat) (S G O n : Int) (w : World) (hD : Dr w b S G O) (hO : decide (0 ≤ O) = false) (hn : mayB n = false) :
    Calls Try.prog 17 #[.pointer (some ⟨b, 0, none⟩), .int .i64 n] w (DrPost w b (.int .i64 2) S G O) := by
  obtain ⟨c0, c1, c2, c3, c4, c5⟩ := hD.facts
  obtain ⟨f0, f1, f2, f3, f4, f5⟩ := hD.loose
  go_enter Try.func17, Try.ntmps17
  go_wp2_with (first
    | (go_at_call 25; (with_reducible refine (may_any _ _).mono ?_); rintro e w1 ⟨rfl, rfl⟩)
    )
  go_ret
  exact ⟨rfl, Only.refl _ _, hD⟩
set_option maxHeartbeats 1000000 in
theorem rsend_arg (b : Nat) (S G O n : Int) (w : World) (hD : RDr w b S G O) (hO : decide (0 ≤ O) = false) (hn : mayB n = false) :
    Calls Try.prog 19 #[.pointer (some ⟨b, 0, none⟩), .int .i64 n] w (RDrPost w b (.int .i64 2) S G O) := by
  obtain ⟨c0, c1, c2, f0, f1, f2⟩ := hD.facts
  have gO : ¬ 0 ≤ O := of_decide_eq_false hO
  go_enter Try.func19, Try.ntmps19
  go_wp2_with (first
    | (go_at_call 26; (with_reducible refine (number_any _ _).mono ?_); rintro e w1 ⟨rfl, rfl⟩)
    )
  go_ret
  exact ⟨rfl, Only.refl _ _, hD⟩
set_option maxHeartbeats 1000000 in
theorem send_state (b : Nat) (S G O n : Int) (w : World) (hD : Dr w b S G O) (hO : decide (0 ≤ O) = false) (hn : mayB n = true) (hS : decide (0 ≤ S) = true) :
    Calls Try.prog 17 #[.pointer (some ⟨b, 0, none⟩), .int .i64 n] w (DrPost w b (.int .i64 11) S G O) := by
  obtain ⟨c0, c1, c2, c3, c4, c5⟩ := hD.facts
  obtain ⟨f0, f1, f2, f3, f4, f5⟩ := hD.loose
  go_enter Try.func17, Try.ntmps17
  go_wp2_with (first
    | (go_at_call 25; (with_reducible refine (may_any _ _).mono ?_); rintro e w1 ⟨rfl, rfl⟩)
    )
  go_ret
  exact ⟨rfl, Only.refl _ _, hD⟩
set_option maxHeartbeats 1000000 in
theorem rsend_state (b : Nat) (S G O n : Int) (w : World) (hD : RDr w b S G O) (hO : decide (0 ≤ O) = false) (hn : mayB n = true) (hS : decide (0 ≤ S) = true) :
    Calls Try.prog 19 #[.pointer (some ⟨b, 0, none⟩), .int .i64 n] w (RDrPost w b (.int .i64 11) S G O) := by
  obtain ⟨c0, c1, c2, f0, f1, f2⟩ := hD.facts
  have gO : ¬ 0 ≤ O := of_decide_eq_false hO
  have gS : 0 ≤ S := of_decide_eq_true hS
  go_enter Try.func19, Try.ntmps19
  go_wp2_with (first
    | (go_at_call 26; (with_reducible refine (number_any _ _).mono ?_); rintro e w1 ⟨rfl, rfl⟩)
    )
  go_ret
  exact ⟨rfl, Only.refl _ _, hD⟩
set_option maxHeartbeats 1000000 in
theorem send_ok (b : Nat) (S G O n : Int) (w : World) (hD : Dr w b S G O) (hO : decide (0 ≤ O) = false) (hn : mayB n = true) (hS : decide (0 ≤ S) = false) :
    Calls Try.prog 17 #[.pointer (some ⟨b, 0, none⟩), .int .i64 n] w (DrPost w b (.int .i64 0) n G O) := by
  obtain ⟨c0, c1, c2, c3, c4, c5⟩ := hD.facts
  obtain ⟨f0, f1, f2, f3, f4, f5⟩ := hD.loose
  go_enter Try.func17, Try.ntmps17
  go_wp2_with (first
    | (go_at_call 25; (with_reducible refine (may_any _ _).mono ?_); rintro e w1 ⟨rfl, rfl⟩)
    )
  go_ret
  have := mayB_yes hn
  refine ⟨rfl, ((Only.refl (One b) w).set1 0 _).set1 1 _, Dr.mk ((hD.set 0 _).set 1 _) ?_ ?_ rfl rfl rfl rfl⟩
  · simp; omega
  · omega
set_option maxHeartbeats 1000000 in
theorem rsend_ok (b : Nat) (S G O n : Int) (w : World) (hD : RDr w b S G O) (hO : decide (0 ≤ O) = false) (hn : mayB n = true) (hS : decide (0 ≤ S) = false) :
    Calls Try.prog 19 #[.pointer (some ⟨b, 0, none⟩), .int .i64 n] w (RDrPost w b (.int .i64 0) n G O) := by
  obtain ⟨c0, c1, c2, f0, f1, f2⟩ := hD.facts
  have gO : ¬ 0 ≤ O := of_decide_eq_false hO
  have gS : ¬ 0 ≤ S := of_decide_eq_false hS
  go_enter Try.func19, Try.ntmps19
  go_wp2_with (first
    | (go_at_call 26; (with_reducible refine (number_any _ _).mono ?_); rintro e w1 ⟨rfl, rfl⟩)
    )
  go_ret
  exact ⟨rfl, (Only.refl (One b) w).set1 0 _, hD.set 0 _⟩
set_option maxHeartbeats 1000000 in
theorem got_closed (b : Nat) (S G O n c : Int) (w : World) (hD : Dr w b S G O) (hO : decide (0 ≤ O) = true) :
    Calls Try.prog 16 #[.pointer (some ⟨b, 0, none⟩), .int .i64 n, .int .i64 c] w (DrPost w b (.int .i64 14) S G O) := by
  obtain ⟨c0, c1, c2, c3, c4, c5⟩ := hD.facts
  obtain ⟨f0, f1, f2, f3, f4, f5⟩ := hD.loose
  go_enter Try.func16, Try.ntmps16
  go_wp2_with (first
    | (go_at_call 25; (with_reducible refine (may_any _ _).mono ?_); rintro e w1 ⟨rfl, rfl⟩)
    )
  go_ret
  exact ⟨rfl, Only.refl _ _, hD⟩
set_option maxHeartbeats 1000000 in
theorem rgot_closed (b : Nat) (S G O n c : Int) (w : World) (hD : RDr w b S G O) (hO : decide (0 ≤ O) = true) :
    Calls Try.prog 20 #[.pointer (some ⟨b, 0, none⟩), .int .i64 n, .int .i64 c] w (RDrPost w b (.int .i64 14) S G O) := by
  obtain ⟨c0, c1, c2, f0, f1, f2⟩ := hD.facts
  have gO : 0 ≤ O := of_decide_eq_true hO
  go_enter Try.func20, Try.ntmps20
  go_wp2_with (first
    | (go_at_call 26; (with_reducible refine (number_any _ _).mono ?_); rintro e w1 ⟨rfl, rfl⟩)
    )
  go_ret
  exact ⟨rfl, Only.refl _ _, hD⟩
set_option maxHeartbeats 1000000 in
theorem got_arg1 (b : Nat) (S G O n c : Int) (w : World) (hD : Dr w b S G O) (hO : decide (0 ≤ O) = false) (hn : mayB n = false) :
    Calls Try.prog 16 #[.pointer (some ⟨b, 0, none⟩), .int .i64 n, .int .i64 c] w (DrPost w b (.int .i64 2) S G O) := by
  obtain ⟨c0, c1, c2, c3, c4, c5⟩ := hD.facts
  obtain ⟨f0, f1, f2, f3, f4, f5⟩ := hD.loose
  go_enter Try.func16, Try.ntmps16
  go_wp2_with (first
    | (go_at_call 25; (with_reducible refine (may_any _ _).mono ?_); rintro e w1 ⟨rfl, rfl⟩)
    )
  go_ret
  exact ⟨rfl, Only.refl _ _, hD⟩
set_option maxHeartbeats 1000000 in
theorem rgot_arg1 (b : Nat) (S G O n c : Int) (w : World) (hD : RDr w b S G O) (hO : decide (0 ≤ O) = false) (hn : mayB n = false) :
    Calls Try.prog 20 #[.pointer (some ⟨b, 0, none⟩), .int .i64 n, .int .i64 c] w (RDrPost w b (.int .i64 2) S G O) := by
  obtain ⟨c0, c1, c2, f0, f1, f2⟩ := hD.facts
  have gO : ¬ 0 ≤ O := of_decide_eq_false hO
  go_enter Try.func20, Try.ntmps20
  go_wp2_with (first
    | (go_at_call 26; (with_reducible refine (number_any _ _).mono ?_); rintro e w1 ⟨rfl, rfl⟩)
    )
  go_ret
  exact ⟨rfl, Only.refl _ _, hD⟩
set_option maxHeartbeats 1000000 in
theorem got_arg2 (b : Nat) (S G O n c : Int) (w : World) (hD : Dr w b S G O) (hO : decide (0 ≤ O) = false) (hn : mayB n = true) (hc : mayB c = false) :
    Calls Try.prog 16 #[.pointer (some ⟨b, 0, none⟩), .int .i64 n, .int .i64 c] w (DrPost w b (.int .i64 2) S G O) := by
  obtain ⟨c0, c1, c2, c3, c4, c5⟩ := hD.facts
  obtain ⟨f0, f1, f2, f3, f4, f5⟩ := hD.loose
  go_enter Try.func16, Try.ntmps16
  go_wp2_with (first
    | (go_at_call 25; (with_reducible refine (may_any _ _).mono ?_); rintro e w1 ⟨rfl, rfl⟩)
    )
  go_ret
  exact ⟨rfl, Only.refl _ _, hD⟩
set_option maxHeartbeats 1000000 in
theorem rgot_arg2 (b : Nat) (S G O n c : Int) (w : World) (hD : RDr w b S G O) (hO : decide (0 ≤ O) = false) (hn : mayB n = true) (hc : mayB c = false) :
    Calls Try.prog 20 #[.pointer (some ⟨b, 0, none⟩), .int .i64 n, .int .i64 c] w (RDrPost w b (.int .i64 2) S G O) := by
  obtain ⟨c0, c1, c2, f0, f1, f2⟩ := hD.facts
  have gO : ¬ 0 ≤ O := of_decide_eq_false hO
  go_enter Try.func20, Try.ntmps20
  go_wp2_with (first
    | (go_at_call 26; (with_reducible refine (number_any _ _).mono ?_); rintro e w1 ⟨rfl, rfl⟩)
    )
  go_ret
  exact ⟨rfl, Only.refl _ _, hD⟩
set_option maxHeartbeats 1000000 in
theorem got_code (b : Nat) (S G O n c : Int) (w : World) (hD : Dr w b S G O) (hO : decide (0 ≤ O) = false) (hn : mayB n = true) (hc : mayB c = true) (hc0 : (c != 0) = true) :
    Calls Try.prog 16 #[.pointer (some ⟨b, 0, none⟩), .int .i64 n, .int .i64 c] w (DrPost w b (.int .i64 0) S G c) := by
  obtain ⟨c0, c1, c2, c3, c4, c5⟩ := hD.facts
  obtain ⟨g1, g2⟩ := mayB_yes hc
  have hz : (c == 0) = false := by simpa using hc0
  go_enter Try.func16, Try.ntmps16
  go_wp2_with (first
    | (go_at_call 25; (with_reducible refine (may_any _ _).mono ?_); rintro e w1 ⟨rfl, rfl⟩)
    | (go_at_call 24; (with_reducible refine (end_any b S G O c _ hD g1).mono ?_); rintro e w2 ⟨rfl, ho, hE⟩)
    )
  go_ret
  exact ⟨rfl, ho, hE⟩
set_option maxHeartbeats 1000000 in
theorem rgot_code (b : Nat) (S G O n c : Int) (w : World) (hD : RDr w b S G O) (hO : decide (0 ≤ O) = false) (hn : mayB n = true) (hc : mayB c = true) (hc0 : (c != 0) = true) :
    Calls Try.prog 20 #[.pointer (some ⟨b, 0, none⟩), .int .i64 n, .int .i64 c] w (RDrPost w b (.int .i64 0) S G c) := by
  obtain ⟨c0, c1, c2, f0, f1, f2⟩ := hD.facts
  have gO : ¬ 0 ≤ O := of_decide_eq_false hO
  have gc : 0 < c := by
    have := mayB_yes hc
    have : c ≠ 0 := by simpa using hc0
    omega
  go_enter Try.func20, Try.ntmps20
  go_wp2_with (first
    | (go_at_call 26; (with_reducible refine (number_any _ _).mono ?_); rintro e w1 ⟨rfl, rfl⟩)
    )
  go_ret
  exact ⟨rfl, (Only.refl (One b) w).set1 2 _, hD.set 2 _⟩
set_option maxHeartbeats 1000000 in
theorem got_state (b : Nat) (S G O n c : Int) (w : World) (hD : Dr w b S G O) (hO : decide (0 ≤ O) = false) (hn : mayB n = true) (hc : mayB c = true) (hc0 : (c != 0) = false) (hG : decide (0 ≤ G) = true) (hle : G ≤ n) :
    Calls Try.prog 16 #[.pointer (some ⟨b, 0, none⟩), .int .i64 n, .int .i64 c] w (DrPost w b (.int .i64 11) S G O) := by
  obtain ⟨c0, c1, c2, c3, c4, c5⟩ := hD.facts
  obtain ⟨f0, f1, f2, f3, f4, f5⟩ := hD.loose
  have gG : 0 ≤ G := of_decide_eq_true hG
  have hm : max G 0 ≤ n := by omega
  go_enter Try.func16, Try.ntmps16
  go_wp2_with (first
    | (go_at_call 25; (with_reducible refine (may_any _ _).mono ?_); rintro e w1 ⟨rfl, rfl⟩)
    )
  go_ret
  exact ⟨rfl, Only.refl _ _, hD⟩
set_option maxHeartbeats 1000000 in
theorem rgot_state (b : Nat) (S G O n c : Int) (w : World) (hD : RDr w b S G O) (hO : decide (0 ≤ O) = false) (hn : mayB n = true) (hc : mayB c = true) (hc0 : (c != 0) = false) (hG : decide (0 ≤ G) = true) (hle : G ≤ n) :
    Calls Try.prog 20 #[.pointer (some ⟨b, 0, none⟩), .int .i64 n, .int .i64 c] w (RDrPost w b (.int .i64 11) S G O) := by
  obtain ⟨c0, c1, c2, f0, f1, f2⟩ := hD.facts
  have gO : ¬ 0 ≤ O := of_decide_eq_false hO
  have gG : 0 ≤ G := of_decide_eq_true hG
  have gc : ¬ 0 < c := by
    have : c = 0 := by simpa using hc0
    omega
  go_enter Try.func20, Try.ntmps20
  go_wp2_with (first
    | (go_at_call 26; (with_reducible refine (number_any _ _).mono ?_); rintro e w1 ⟨rfl, rfl⟩)
    )
  go_ret
  exact ⟨rfl, Only.refl _ _, hD⟩
set_option maxHeartbeats 1000000 in
theorem got_ok1 (b : Nat) (S G O n c : Int) (w : World) (hD : Dr w b S G O) (hO : decide (0 ≤ O) = false) (hn : mayB n = true) (hc : mayB c = true) (hc0 : (c != 0) = false) (hG : decide (0 ≤ G) = true) (hle : ¬ G ≤ n) :
    Calls Try.prog 16 #[.pointer (some ⟨b, 0, none⟩), .int .i64 n, .int .i64 c] w (DrPost w b (.int .i64 0) S n O) := by
  obtain ⟨c0, c1, c2, c3, c4, c5⟩ := hD.facts
  obtain ⟨f0, f1, f2, f3, f4, f5⟩ := hD.loose
  have gG : 0 ≤ G := of_decide_eq_true hG
  have hm : ¬ max G 0 ≤ n := by omega
  go_enter Try.func16, Try.ntmps16
  go_wp2_with (first
    | (go_at_call 25; (with_reducible refine (may_any _ _).mono ?_); rintro e w1 ⟨rfl, rfl⟩)
    )
  go_ret
  have := mayB_yes hn
  refine ⟨rfl, ((Only.refl (One b) w).set1 2 _).set1 3 _, Dr.mk ((hD.set 2 _).set 3 _) rfl rfl ?_ ?_ rfl rfl⟩
  · simp; omega
  · omega
set_option maxHeartbeats 1000000 in
theorem rgot_ok1 (b : Nat) (S G O n c : Int) (w : World) (hD : RDr w b S G O) (hO : decide (0 ≤ O) = false) (hn : mayB n = true) (hc : mayB c = true) (hc0 : (c != 0) = false) (hG : decide (0 ≤ G) = true) (hle : ¬ G ≤ n) :
    Calls Try.prog 20 #[.pointer (some ⟨b, 0, none⟩), .int .i64 n, .int .i64 c] w (RDrPost w b (.int .i64 0) S n O) := by
  obtain ⟨c0, c1, c2, f0, f1, f2⟩ := hD.facts
  have gO : ¬ 0 ≤ O := of_decide_eq_false hO
  have gG : 0 ≤ G := of_decide_eq_true hG
  have gc : ¬ 0 < c := by
    have : c = 0 := by simpa using hc0
    omega
  go_enter Try.func20, Try.ntmps20
  go_wp2_with (first
    | (go_at_call 26; (with_reducible refine (number_any _ _).mono ?_); rintro e w1 ⟨rfl, rfl⟩)
    )
  go_ret
  exact ⟨rfl, (Only.refl (One b) w).set1 1 _, hD.set 1 _⟩
set_option maxHeartbeats 1000000 in
theorem got_ok2 (b : Nat) (S G O n c : Int) (w : World) (hD : Dr w b S G O) (hO : decide (0 ≤ O) = false) (hn : mayB n = true) (hc : mayB c = true) (hc0 : (c != 0) = false) (hG : decide (0 ≤ G) = false) :
    Calls Try.prog 16 #[.pointer (some ⟨b, 0, none⟩), .int .i64 n, .int .i64 c] w (DrPost w b (.int .i64 0) S n O) := by
  obtain ⟨c0, c1, c2, c3, c4, c5⟩ := hD.facts
  obtain ⟨f0, f1, f2, f3, f4, f5⟩ := hD.loose
  go_enter Try.func16, Try.ntmps16
  go_wp2_with (first
    | (go_at_call 25; (with_reducible refine (may_any _ _).mono ?_); rintro e w1 ⟨rfl, rfl⟩)
    )
  go_ret
  have := mayB_yes hn
  refine ⟨rfl, ((Only.refl (One b) w).set1 2 _).set1 3 _, Dr.mk ((hD.set 2 _).set 3 _) rfl rfl ?_ ?_ rfl rfl⟩
  · simp; omega
  · omega
set_option maxHeartbeats 1000000 in
theorem rgot_ok2 (b : Nat) (S G O n c : Int) (w : World) (hD : RDr w b S G O) (hO : decide (0 ≤ O) = false) (hn : mayB n = true) (hc : mayB c = true) (hc0 : (c != 0) = false) (hG : decide (0 ≤ G) = false) :
    Calls Try.prog 20 #[.pointer (some ⟨b, 0, none⟩), .int .i64 n, .int .i64 c] w (RDrPost w b (.int .i64 0) S n O) := by
  obtain ⟨c0, c1, c2, f0, f1, f2⟩ := hD.facts
  have gO : ¬ 0 ≤ O := of_decide_eq_false hO
  have gG : ¬ 0 ≤ G := of_decide_eq_false hG
  have gc : ¬ 0 < c := by
    have : c = 0 := by simpa using hc0
    omega
  go_enter Try.func20, Try.ntmps20
  go_wp2_with (first
    | (go_at_call 26; (with_reducible refine (number_any _ _).mono ?_); rintro e w1 ⟨rfl, rfl⟩)
    )
  go_ret
  exact ⟨rfl, (Only.refl (One b) w).set1 1 _, hD.set 1 _⟩
set_option maxHeartbeats 1000000 in
theorem fail_closed (b : Nat) (S G O n : Int) (w : World) (hD : Dr w b S G O) (hO : decide (0 ≤ O) = true) :
    Calls Try.prog 18 #[.pointer (some ⟨b, 0, none⟩), .int .i64 n] w (DrPost w b (.int .i64 14) S G O) := by
  obtain ⟨c0, c1, c2, c3, c4, c5⟩ := hD.facts
  obtain ⟨f0, f1, f2, f3, f4, f5⟩ := hD.loose
  go_enter Try.func18, Try.ntmps18
  go_wp2_with (first
    | (go_at_call 25; (with_reducible refine (may_any _ _).mono ?_); rintro e w1 ⟨rfl, rfl⟩)
    )
  go_ret
  exact ⟨rfl, Only.refl _ _, hD⟩
set_option maxHeartbeats 1000000 in
theorem rfail_closed (b : Nat) (S G O n : Int) (w : World) (hD : RDr w b S G O) (hO : decide (0 ≤ O) = true) :
    Calls Try.prog 21 #[.pointer (some ⟨b, 0, none⟩), .int .i64 n] w (RDrPost w b (.int .i64 14) S G O) := by
  obtain ⟨c0, c1, c2, f0, f1, f2⟩ := hD.facts
  have gO : 0 ≤ O := of_decide_eq_true hO
  go_enter Try.func21, Try.ntmps21
  go_wp2_with (first
    | (go_at_call 26; (with_reducible refine (number_any _ _).mono ?_); rintro e w1 ⟨rfl, rfl⟩)
    )
  go_ret
  exact ⟨rfl, Only.refl _ _, hD⟩
set_option maxHeartbeats 1000000 in
theorem fail_arg1 (b : Nat) (S G O n : Int) (w : World) (hD : Dr w b S G O) (hO : decide (0 ≤ O) = false) (hn : mayB n = false) :
    Calls Try.prog 18 #[.pointer (some ⟨b, 0, none⟩), .int .i64 n] w (DrPost w b (.int .i64 2) S G O) := by
  obtain ⟨c0, c1, c2, c3, c4, c5⟩ := hD.facts
  obtain ⟨f0, f1, f2, f3, f4, f5⟩ := hD.loose
  go_enter Try.func18, Try.ntmps18
  go_wp2_with (first
    | (go_at_call 25; (with_reducible refine (may_any _ _).mono ?_); rintro e w1 ⟨rfl, rfl⟩)
    )
  go_ret
  exact ⟨rfl, Only.refl _ _, hD⟩
set_option maxHeartbeats 1000000 in
theorem rfail_arg1 (b : Nat) (S G O n : Int) (w : World) (hD : RDr w b S G O) (hO : decide (0 ≤ O) = false) (hn : mayB n = false) :
    Calls Try.prog 21 #[.pointer (some ⟨b, 0, none⟩), .int .i64 n] w (RDrPost w b (.int .i64 2) S G O) := by
  obtain ⟨c0, c1, c2, f0, f1, f2⟩ := hD.facts
  have gO : ¬ 0 ≤ O := of_decide_eq_false hO
  go_enter Try.func21, Try.ntmps21
  go_wp2_with (first
    | (go_at_call 26; (with_reducible refine (number_any _ _).mono ?_); rintro e w1 ⟨rfl, rfl⟩)
    )
  go_ret
  exact ⟨rfl, Only.refl _ _, hD⟩
set_option maxHeartbeats 1000000 in
theorem fail_arg2 (b : Nat) (S G O n : Int) (w : World) (hD : Dr w b S G O) (hO : decide (0 ≤ O) = false) (hn : mayB n = true) (hz : (n == 0) = true) :
    Calls Try.prog 18 #[.pointer (some ⟨b, 0, none⟩), .int .i64 n] w (DrPost w b (.int .i64 2) S G O) := by
  obtain ⟨c0, c1, c2, c3, c4, c5⟩ := hD.facts
  obtain ⟨f0, f1, f2, f3, f4, f5⟩ := hD.loose
  go_enter Try.func18, Try.ntmps18
  go_wp2_with (first
    | (go_at_call 25; (with_reducible refine (may_any _ _).mono ?_); rintro e w1 ⟨rfl, rfl⟩)
    )
  go_ret
  exact ⟨rfl, Only.refl _ _, hD⟩
set_option maxHeartbeats 1000000 in
theorem rfail_arg2 (b : Nat) (S G O n : Int) (w : World) (hD : RDr w b S G O) (hO : decide (0 ≤ O) = false) (hn : mayB n = true) (hz : (n == 0) = true) :
    Calls Try.prog 21 #[.pointer (some ⟨b, 0, none⟩), .int .i64 n] w (RDrPost w b (.int .i64 2) S G O) := by
  obtain ⟨c0, c1, c2, f0, f1, f2⟩ := hD.facts
  have gO : ¬ 0 ≤ O := of_decide_eq_false hO
  go_enter Try.func21, Try.ntmps21
  go_wp2_with (first
    | (go_at_call 26; (with_reducible refine (number_any _ _).mono ?_); rintro e w1 ⟨rfl, rfl⟩)
    )
  go_ret
  exact ⟨rfl, Only.refl _ _, hD⟩
set_option maxHeartbeats 1000000 in
theorem fail_ok (b : Nat) (S G O n : Int) (w : World) (hD : Dr w b S G O) (hO : decide (0 ≤ O) = false) (hn : mayB n = true) (hz : (n == 0) = false) :
    Calls Try.prog 18 #[.pointer (some ⟨b, 0, none⟩), .int .i64 n] w (DrPost w b (.int .i64 0) S G n) := by
  obtain ⟨c0, c1, c2, c3, c4, c5⟩ := hD.facts
  obtain ⟨g1, g2⟩ := mayB_yes hn
  go_enter Try.func18, Try.ntmps18
  go_wp2_with (first
    | (go_at_call 25; (with_reducible refine (may_any _ _).mono ?_); rintro e w1 ⟨rfl, rfl⟩)
    | (go_at_call 24; (with_reducible refine (end_any b S G O n _ hD g1).mono ?_); rintro e w2 ⟨rfl, ho, hE⟩)
    )
  go_ret
  exact ⟨rfl, ho, hE⟩
set_option maxHeartbeats 1000000 in
theorem rfail_ok (b : Nat) (S G O n : Int) (w : World) (hD : RDr w b S G O) (hO : decide (0 ≤ O) = false) (hn : mayB n = true) (hz : (n == 0) = false) :
    Calls Try.prog 21 #[.pointer (some ⟨b, 0, none⟩), .int .i64 n] w (RDrPost w b (.int .i64 0) S G n) := by
  obtain ⟨c0, c1, c2, f0, f1, f2⟩ := hD.facts
  have gO : ¬ 0 ≤ O := of_decide_eq_false hO
  go_enter Try.func21, Try.ntmps21
  go_wp2_with (first
    | (go_at_call 26; (with_reducible refine (number_any _ _).mono ?_); rintro e w1 ⟨rfl, rfl⟩)
    )
  go_ret
  exact ⟨rfl, (Only.refl (One b) w).set1 2 _, hD.set 2 _⟩
end Go.Proofs.Ytmlbbjcgcdkffaa
