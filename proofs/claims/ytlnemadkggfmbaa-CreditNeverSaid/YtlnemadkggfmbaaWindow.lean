/- What each function of package window does to a window that lies in a block of its own. -/
import Derived.Test.YtlnemadkggfmbaaRows
import Derived.Test.YtlnemadkggfmbaaKit
namespace Go.Proofs.Ytlnemadkggfmbaa
open Go.RowKit

abbrev Win (w : World) (b : Nat) (n : Int) : Prop := Blk w b 68 #[.int .i64 n]

theorem Win.facts {w : World} {b : Nat} {n : Int} (h : Win w b n) : w.cell? ⟨b, 0, none⟩ = some (.int .i64 n) ∧ w.frozen? ⟨b, 0, none⟩ = false :=
  ⟨h.cell 0, h.frozen 0⟩

/-- a window's numbers -/
def winOk (n : Int) : Prop := -2147483647 ≤ n ∧ n ≤ 2147483647

def chB (n by_ : Int) : Bool := decide (-2147483647 ≤ n + by_) && decide (n + by_ ≤ 2147483647)
def chE (n by_ : Int) : Int := if chB n by_ then 0 else 10
def chN (n by_ : Int) : Int := if chB n by_ then n + by_ else n
def szB (n : Int) : Bool := decide (0 ≤ n) && decide (n ≤ 2147483647)
def growE (n k : Int) : Int := if 1 ≤ k ∧ k ≤ 2147483647 then chE n k else 2
def growN (n k : Int) : Int := if 1 ≤ k ∧ k ≤ 2147483647 then chN n k else n
def resE (n a c : Int) : Int := if szB a && szB c then chE n (c - a) else 2
def resN (n a c : Int) : Int := if szB a && szB c then chN n (c - a) else n
def spE (n k : Int) : Int := if k < 0 then 2 else if 0 < k ∧ n < k then 9 else 0
def spN (n k : Int) : Int := if k < 0 then n else if 0 < k ∧ n < k then n else n - k

/-- what a call leaves: its error, and the window -/
def WinPost (w : World) (b : Nat) (e n : Int) (x : Ending) (w' : World) : Prop :=
  x = .returned (.int .i64 e) ∧ Only (One b) w w' ∧ Win w' b n

set_option maxHeartbeats 400000 in
theorem change_any (b : Nat) (n by_ : Int) (w : World) (h : Win w b n) (hn : winOk n) (hb : -2147483647 ≤ by_ ∧ by_ ≤ 2147483647) :
    Calls Try.prog 42 #[.pointer (some ⟨b, 0, none⟩), .int .i64 by_] w (WinPost w b (chE n by_) (chN n by_)) := by
  obtain ⟨hc, hf⟩ := h.facts
  have hlt := h.lt
  obtain ⟨hn1, hn2⟩ := hn
  obtain ⟨hb1, hb2⟩ := hb
  have hmf := mkf Try.prog
  by_cases h1 : -2147483647 ≤ n + by_
  · by_cases h2 : n + by_ ≤ 2147483647
    · have e1 : chE n by_ = 0 := by simp [chE, chB, h1, h2]
      have e2 : chN n by_ = n + by_ := by simp [chN, chB, h1, h2]
      rw [e1, e2]
      go_enter Try.func42, Try.ntmps42
      go_wp2
      go_ret
      exact ⟨rfl, ((Only.refl (One b) w).set1 0 _).alloc _, (h.set 0 _).alloc _⟩
    · have e1 : chE n by_ = 10 := by simp [chE, chB, h1, h2]
      have e2 : chN n by_ = n := by simp [chN, chB, h1, h2]
      rw [e1, e2]
      go_enter Try.func42, Try.ntmps42
      go_wp2
      go_ret
      exact ⟨rfl, (Only.refl _ _).alloc _, Blk.alloc h _⟩
  · have e1 : chE n by_ = 10 := by simp [chE, chB, h1]
    have e2 : chN n by_ = n := by simp [chN, chB, h1]
    rw [e1, e2]
    go_enter Try.func42, Try.ntmps42
    go_wp2
    go_ret
    exact ⟨rfl, (Only.refl _ _).alloc _, Blk.alloc h _⟩

set_option maxHeartbeats 400000 in
theorem size_any (n : Int) (w : World) : Calls Try.prog 36 #[.int .i64 n] w fun e w' => e = .returned (.bool (szB n)) ∧ w = w' := by
  by_cases h1 : 0 ≤ n
  · have e1 : szB n = decide (n ≤ 2147483647) := by simp [szB, h1]
    rw [e1]
    go_enter Try.func36, Try.ntmps36
    go_wp2
    go_ret
    exact ⟨rfl, rfl⟩
  · have e1 : szB n = false := by simp [szB, h1]
    rw [e1]
    go_enter Try.func36, Try.ntmps36
    go_wp2
    go_ret
    exact ⟨rfl, rfl⟩

set_option maxHeartbeats 400000 in
theorem grow_any (b : Nat) (n k : Int) (w : World) (h : Win w b n) (hn : winOk n) :
    Calls Try.prog 31 #[.pointer (some ⟨b, 0, none⟩), .int .i64 k] w (WinPost w b (growE n k) (growN n k)) := by
  have hmf := mkf Try.prog
  by_cases h1 : 1 ≤ k ∧ k ≤ 2147483647
  · have e1 : growE n k = chE n k := by simp [growE, h1]
    have e2 : growN n k = chN n k := by simp [growN, h1]
    obtain ⟨h1, h2⟩ := h1
    rw [e1, e2]
    go_enter Try.func31, Try.ntmps31
    go_wp2_with (go_at_call 42; refine (change_any b n k _ h hn ⟨by omega, by omega⟩).mono ?_; rintro e w1 ⟨rfl, ho, hw⟩)
    go_ret
    exact ⟨rfl, ho, hw⟩
  · have e1 : growE n k = 2 := by simp [growE, h1]
    have e2 : growN n k = n := by simp [growN, h1]
    rw [e1, e2]
    by_cases h2 : k < 1
    all_goals
      go_enter Try.func31, Try.ntmps31
      go_wp2
      go_ret
      exact ⟨rfl, Only.refl _ _, h⟩

set_option maxHeartbeats 400000 in
theorem grow_nil (k : Int) (w : World) : Calls Try.prog 31 #[.pointer none, .int .i64 k] w fun e w' => e = .returned (.int .i64 1) ∧ w = w' := by
  go_enter Try.func31, Try.ntmps31
  go_wp2
  go_ret
  exact ⟨rfl, rfl⟩

set_option maxHeartbeats 400000 in
theorem spend_any (b : Nat) (n k : Int) (w : World) (h : Win w b n) (hn : winOk n) (hk : -9223372036854775808 ≤ k ∧ k ≤ 9223372036854775807) :
    Calls Try.prog 33 #[.pointer (some ⟨b, 0, none⟩), .int .i64 k] w (WinPost w b (spE n k) (spN n k)) := by
  obtain ⟨hc, hf⟩ := h.facts
  obtain ⟨hn1, hn2⟩ := hn
  obtain ⟨hk1, hk2⟩ := hk
  by_cases h1 : k < 0
  · have e1 : spE n k = 2 := by simp [spE, h1]
    have e2 : spN n k = n := by simp [spN, h1]
    rw [e1, e2]
    go_enter Try.func33, Try.ntmps33
    go_wp2
    go_ret
    exact ⟨rfl, Only.refl _ _, h⟩
  · by_cases h2 : 0 < k
    · by_cases h3 : n < k
      · have e1 : spE n k = 9 := by simp [spE, h1, h2, h3]
        have e2 : spN n k = n := by simp [spN, h2, h3]
        rw [e1, e2]
        go_enter Try.func33, Try.ntmps33
        go_wp2
        go_ret
        exact ⟨rfl, Only.refl _ _, h⟩
      · have e1 : spE n k = 0 := by simp [spE, h1, h3]
        have e2 : spN n k = n - k := by simp [spN, h1, h3]
        rw [e1, e2]
        go_enter Try.func33, Try.ntmps33
        go_wp2
        go_ret
        exact ⟨rfl, (Only.refl (One b) w).set1 0 _, h.set 0 _⟩
    · have e1 : spE n k = 0 := by simp [spE, h1, h2]
      have e2 : spN n k = n - k := by simp [spN, h1, h2]
      rw [e1, e2]
      go_enter Try.func33, Try.ntmps33
      go_wp2
      go_ret
      exact ⟨rfl, (Only.refl (One b) w).set1 0 _, h.set 0 _⟩

set_option maxHeartbeats 400000 in
theorem spend_nil (k : Int) (w : World) : Calls Try.prog 33 #[.pointer none, .int .i64 k] w fun e w' => e = .returned (.int .i64 1) ∧ w = w' := by
  go_enter Try.func33, Try.ntmps33
  go_wp2
  go_ret
  exact ⟨rfl, rfl⟩

set_option maxHeartbeats 400000 in
theorem resize_any (b : Nat) (n x y : Int) (w : World) (h : Win w b n) (hn : winOk n) :
    Calls Try.prog 45 #[.pointer (some ⟨b, 0, none⟩), .int .i64 x, .int .i64 y] w (WinPost w b (resE n x y) (resN n x y)) := by
  have hmf := mkf Try.prog
  by_cases h1 : szB x = true
  · by_cases h2 : szB y = true
    · have e1 : resE n x y = chE n (y - x) := by simp [resE, h1, h2]
      have e2 : resN n x y = chN n (y - x) := by simp [resN, h1, h2]
      have h3 : (0 ≤ x ∧ x ≤ 2147483647) ∧ (0 ≤ y ∧ y ≤ 2147483647) := by simpa [szB] using And.intro h1 h2
      obtain ⟨⟨a1, a2⟩, a3, a4⟩ := h3
      rw [e1, e2]
      go_enter Try.func45, Try.ntmps45
      go_wp2_with (first | (go_at_call 42; refine (change_any b n (y - x) _ h hn ⟨by omega, by omega⟩).mono ?_; rintro e w1 ⟨rfl, ho, hw⟩) | (go_at_call 36; refine (size_any _ _).mono ?_; rintro e w1 ⟨rfl, rfl⟩))
      go_ret
      exact ⟨rfl, ho, hw⟩
    · have e1 : resE n x y = 2 := by simp [resE, h2]
      have e2 : resN n x y = n := by simp [resN, h2]
      rw [e1, e2]
      have h2' : szB y = false := by simpa using h2
      go_enter Try.func45, Try.ntmps45
      go_wp2_with (go_at_call 36; refine (size_any _ _).mono ?_; rintro e w1 ⟨rfl, rfl⟩)
      go_ret
      exact ⟨rfl, Only.refl _ _, h⟩
  · have e1 : resE n x y = 2 := by simp [resE, h1]
    have e2 : resN n x y = n := by simp [resN, h1]
    rw [e1, e2]
    have h1' : szB x = false := by simpa using h1
    go_enter Try.func45, Try.ntmps45
    go_wp2_with (go_at_call 36; refine (size_any _ _).mono ?_; rintro e w1 ⟨rfl, rfl⟩)
    go_ret
    exact ⟨rfl, Only.refl _ _, h⟩

set_option maxHeartbeats 400000 in
theorem resize_nil (x y : Int) (w : World) : Calls Try.prog 45 #[.pointer none, .int .i64 x, .int .i64 y] w fun e w' => e = .returned (.int .i64 1) ∧ w = w' := by
  go_enter Try.func45, Try.ntmps45
  go_wp2
  go_ret
  exact ⟨rfl, rfl⟩

set_option maxHeartbeats 400000 in
theorem Size_any (b : Nat) (n : Int) (w : World) (h : Win w b n) : Calls Try.prog 34 #[.pointer (some ⟨b, 0, none⟩)] w fun e w' => e = .returned (.int .i64 n) ∧ w = w' := by
  obtain ⟨hc, hf⟩ := h.facts
  go_enter Try.func34, Try.ntmps34
  go_wp2
  go_ret
  exact ⟨rfl, rfl⟩
set_option maxHeartbeats 400000 in
theorem Size_nil (w : World) : Calls Try.prog 34 #[.pointer none] w fun e w' => e = .returned (.int .i64 0) ∧ w = w' := by
  go_enter Try.func34, Try.ntmps34
  go_wp2
  go_ret
  exact ⟨rfl, rfl⟩
set_option maxHeartbeats 400000 in
theorem Free_any (b : Nat) (n : Int) (w : World) (h : Win w b n) : Calls Try.prog 35 #[.pointer (some ⟨b, 0, none⟩)] w fun e w' => e = .returned (.int .i64 (max n 0)) ∧ w = w' := by
  go_enter Try.func35, Try.ntmps35
  go_wp2_with (go_at_call 34; refine (Size_any b n _ h).mono ?_; rintro e w1 ⟨rfl, rfl⟩)
  all_goals
    go_ret
    refine ⟨?_, rfl⟩
    simp
    try omega
set_option maxHeartbeats 400000 in
theorem Free_nil (w : World) : Calls Try.prog 35 #[.pointer none] w fun e w' => e = .returned (.int .i64 0) ∧ w = w' := by
  go_enter Try.func35, Try.ntmps35
  go_wp2
  go_ret
  exact ⟨rfl, rfl⟩

/-- a new window -/
def NewWin (w : World) (n : Int) (x : Ending) (w' : World) : Prop :=
  ∃ b, x = .returned (.tuple #[.pointer (some ⟨b, 0, none⟩), .int .i64 0]) ∧ w.heap.size ≤ b ∧ Only Nil w w' ∧ Win w' b n
set_option maxHeartbeats 400000 in
theorem new_any (n : Int) (w : World) (hn : 0 ≤ n ∧ n ≤ 2147483647) : Calls Try.prog 20 #[.int .i64 n] w (NewWin w n) := by
  have h1 : szB n = true := by simp [szB, hn]
  go_enter Try.func20, Try.ntmps20
  go_wp2_with (go_at_call 36; refine (size_any _ _).mono ?_; rintro e w1 ⟨rfl, rfl⟩)
  go_ret2
  exact ⟨w.heap.size, rfl, Nat.le_refl _, (Only.refl _ _).alloc _, Blk.new _ _ _⟩
set_option maxHeartbeats 400000 in
theorem new_bad (n : Int) (w : World) (hn : ¬ (0 ≤ n ∧ n ≤ 2147483647)) :
    Calls Try.prog 20 #[.int .i64 n] w fun e w' => e = .returned (.tuple #[.pointer none, .int .i64 3]) ∧ w = w' := by
  have h1 : szB n = false := by
    unfold szB
    rw [← Bool.decide_and]
    simpa using hn
  go_enter Try.func20, Try.ntmps20
  go_wp2_with (go_at_call 36; refine (size_any _ _).mono ?_; rintro e w1 ⟨rfl, rfl⟩)
  go_ret2
  exact ⟨rfl, rfl⟩

def CopyWin (w : World) (n : Int) (x : Ending) (w' : World) : Prop :=
  ∃ c, x = .returned (.pointer (some ⟨c, 0, none⟩)) ∧ w.heap.size ≤ c ∧ Only Nil w w' ∧ Win w' c n
set_option maxHeartbeats 400000 in
theorem Copy_any (b : Nat) (n : Int) (w : World) (h : Win w b n) : Calls Try.prog 44 #[.pointer (some ⟨b, 0, none⟩)] w (CopyWin w n) := by
  obtain ⟨hc, hf⟩ := h.facts
  go_enter Try.func44, Try.ntmps44
  go_wp2
  go_ret
  exact ⟨w.heap.size, rfl, Nat.le_refl _, (Only.refl _ _).alloc _, Blk.new _ _ _⟩
set_option maxHeartbeats 400000 in
theorem Copy_nil (w : World) : Calls Try.prog 44 #[.pointer none] w fun e w' => e = .returned (.pointer none) ∧ w = w' := by
  go_enter Try.func44, Try.ntmps44
  go_wp2
  go_ret
  exact ⟨rfl, rfl⟩
end Go.Proofs.Ytlnemadkggfmbaa
