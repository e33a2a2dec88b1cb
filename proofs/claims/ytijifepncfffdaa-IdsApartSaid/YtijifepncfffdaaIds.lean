/- What each function of package ids does to IDs that lie in a block of their own. -/
import Derived.Test.YtijifepncfffdaaRows
import Derived.Test.YtijifepncfffdaaKit
import Derived.Test.YtijifepncfffdaaArgs
namespace Go.Proofs.Ytijifepncfffdaa
open Go.RowKit

abbrev Ids (w : World) (b : Nat) (s n l : Int) : Prop := Blk w b 40 #[.int .i64 s, .int .i64 n, .int .i64 l]
def sideOk (s : Int) : Prop := 0 ≤ s ∧ s ≤ 1
def idsOk (n l : Int) : Prop := 1 ≤ n ∧ n ≤ 2147483649 ∧ 0 ≤ l ∧ l ≤ 2147483647

theorem Ids.facts {w : World} {b : Nat} {s n l : Int} (h : Ids w b s n l) :
    w.cell? ⟨b, 0, none⟩ = some (.int .i64 s) ∧ w.cell? ⟨b, 1, none⟩ = some (.int .i64 n) ∧ w.frozen? ⟨b, 1, none⟩ = false ∧ w.cell? ⟨b, 2, none⟩ = some (.int .i64 l) ∧ w.frozen? ⟨b, 2, none⟩ = false :=
  ⟨h.cell 0, h.cell 1, h.frozen 1, h.cell 2, h.frozen 2⟩

/-- is a number a side's? -/
def ofB (s id : Int) : Bool := decide (1 ≤ id) && decide (id ≤ 2147483647) && (id % 2 == 1 - s)
def useK (n : Int) : Int := if 2147483647 < n then 0 else n
def useE (n : Int) : Int := if 2147483647 < n then 16 else 0
def useN (n : Int) : Int := if 2147483647 < n then n else n + 2
def skipE (s n id : Int) : Int := if ofB s id then (if id < n then 3 else 0) else 2
def skipN (s n id : Int) : Int := if ofB s id then (if id < n then n else id + 2) else n
def peerB (s l id : Int) : Bool := ofB (1 - s) id && decide (l < id)
def pastB (s n l id : Int) : Bool := if ofB s id then decide (id < n) else decide (1 ≤ id) && decide (id ≤ l)

set_option maxHeartbeats 1000000 in
theorem of_any (s id : Int) (w : World) (hs : sideOk s) : Calls Try.prog 9 #[.int .i64 s, .int .i64 id] w fun e w' => e = .returned (.bool (ofB s id)) ∧ w = w' := by
  obtain ⟨s1, s2⟩ := hs
  by_cases h1 : 1 ≤ id
  · by_cases h2 : id ≤ 2147483647
    · have e : ofB s id = (id % 2 == 1 - s) := by simp [ofB, h1, h2]
      rw [e]
      go_enter Try.func9, Try.ntmps9
      go_wp2
      go_ret
      exact ⟨rfl, rfl⟩
    · have e : ofB s id = false := by simp [ofB, h2]
      rw [e]
      go_enter Try.func9, Try.ntmps9
      go_wp2
      go_ret
      exact ⟨rfl, rfl⟩
  · have e : ofB s id = false := by simp [ofB, h1]
    rw [e]
    go_enter Try.func9, Try.ntmps9
    go_wp2
    go_ret
    exact ⟨rfl, rfl⟩

set_option maxHeartbeats 1000000 in
theorem Mine_any (b : Nat) (s n l id : Int) (w : World) (h : Ids w b s n l) (hs : sideOk s) :
    Calls Try.prog 14 #[.pointer (some ⟨b, 0, none⟩), .int .i64 id] w fun e w' => e = .returned (.bool (ofB s id)) ∧ Only Nil w w' := by
  obtain ⟨c0, c1, f1, c2, f2⟩ := h.facts
  obtain ⟨s1, s2⟩ := hs
  have hlt := h.lt
  have hmf := mkf Try.prog
  by_cases h1 : 1 ≤ id
  · by_cases h2 : id ≤ 2147483647
    · have e : ofB s id = (id % 2 == 1 - s) := by simp [ofB, h1, h2]
      rw [e]
      go_enter Try.func14, Try.ntmps14
      go_wp2
      go_ret
      exact ⟨rfl, (Only.refl _ _).alloc _⟩
    · have e : ofB s id = false := by simp [ofB, h2]
      rw [e]
      go_enter Try.func14, Try.ntmps14
      go_wp2
      go_ret
      exact ⟨rfl, (Only.refl _ _).alloc _⟩
  · have e : ofB s id = false := by simp [ofB, h1]
    rw [e]
    go_enter Try.func14, Try.ntmps14
    go_wp2
    go_ret
    exact ⟨rfl, (Only.refl _ _).alloc _⟩
theorem Mine_nil (id : Int) (w : World) : Calls Try.prog 14 #[.pointer none, .int .i64 id] w fun e w' => e = .returned (.bool false) ∧ w = w' := by
  go_enter Try.func14, Try.ntmps14
  go_wp2
  go_ret
  exact ⟨rfl, rfl⟩

def UsePost (w : World) (b : Nat) (k e s n l : Int) (x : Ending) (w' : World) : Prop :=
  x = .returned (.tuple #[.int .i64 k, .int .i64 e]) ∧ Only (One b) w w' ∧ Ids w' b s n l
def IdsPost (w : World) (b : Nat) (e s n l : Int) (x : Ending) (w' : World) : Prop :=
  x = .returned (.int .i64 e) ∧ Only (One b) w w' ∧ Ids w' b s n l

set_option maxHeartbeats 1000000 in
theorem Use_any (b : Nat) (s n l : Int) (w : World) (h : Ids w b s n l) (hn : idsOk n l) :
    Calls Try.prog 11 #[.pointer (some ⟨b, 0, none⟩)] w (UsePost w b (useK n) (useE n) s (useN n) l) := by
  obtain ⟨c0, c1, f1, c2, f2⟩ := h.facts
  obtain ⟨n1, n2, _, _⟩ := hn
  by_cases h1 : 2147483647 < n
  · have e1 : useK n = 0 := by simp [useK, h1]
    have e2 : useE n = 16 := by simp [useE, h1]
    have e3 : useN n = n := by simp [useN, h1]
    rw [e1, e2, e3]
    go_enter Try.func11, Try.ntmps11
    go_wp2
    go_ret2
    exact ⟨rfl, Only.refl _ _, h⟩
  · have e1 : useK n = n := by simp [useK, h1]
    have e2 : useE n = 0 := by simp [useE, h1]
    have e3 : useN n = n + 2 := by simp [useN, h1]
    rw [e1, e2, e3]
    go_enter Try.func11, Try.ntmps11
    go_wp2
    go_ret2
    exact ⟨rfl, (Only.refl (One b) w).set1 1 _, h.set 1 _⟩
theorem Use_nil (w : World) : Calls Try.prog 11 #[.pointer none] w fun e w' => e = .returned (.tuple #[.int .i64 0, .int .i64 1]) ∧ w = w' := by
  go_enter Try.func11, Try.ntmps11
  go_wp2
  go_ret2
  exact ⟨rfl, rfl⟩

set_option maxHeartbeats 1000000 in
theorem Skip_any (b : Nat) (s n l id : Int) (w : World) (h : Ids w b s n l) (hs : sideOk s) :
    Calls Try.prog 10 #[.pointer (some ⟨b, 0, none⟩), .int .i64 id] w (IdsPost w b (skipE s n id) s (skipN s n id) l) := by
  by_cases h1 : ofB s id = true
  · have hid : 1 ≤ id ∧ id ≤ 2147483647 := by
      unfold ofB at h1
      simp only [Bool.and_eq_true, decide_eq_true_eq] at h1
      exact h1.1
    obtain ⟨i1, i2⟩ := hid
    by_cases h2 : id < n
    · have e1 : skipE s n id = 3 := by simp [skipE, h1, h2]
      have e2 : skipN s n id = n := by simp [skipN, h2]
      rw [e1, e2]
      go_enter Try.func10, Try.ntmps10
      go_wp2_with (first
        | (go_at_call 14; (with_reducible refine (Mine_any b s n l id _ h hs).mono ?_); rintro e w1 ⟨rfl, ho⟩; have h' := h.kept ho fun hh => hh; have c1 := (Ids.facts h').2.1)
        )
      go_ret
      exact ⟨rfl, ho.of_nil _, h'⟩
    · have e1 : skipE s n id = 0 := by simp [skipE, h1, h2]
      have e2 : skipN s n id = id + 2 := by simp [skipN, h1, h2]
      rw [e1, e2]
      go_enter Try.func10, Try.ntmps10
      go_wp2_with (first
        | (go_at_call 14; (with_reducible refine (Mine_any b s n l id _ h hs).mono ?_); rintro e w1 ⟨rfl, ho⟩; have h' := h.kept ho fun hh => hh; have c1 := (Ids.facts h').2.1; have f1 := (Ids.facts h').2.2.1)
        )
      go_ret
      exact ⟨rfl, (ho.of_nil (One b)).set1 1 _, h'.set 1 _⟩
  · have h1' : ofB s id = false := by simpa using h1
    have e1 : skipE s n id = 2 := by simp [skipE, h1']
    have e2 : skipN s n id = n := by simp [skipN, h1']
    rw [e1, e2]
    go_enter Try.func10, Try.ntmps10
    go_wp2_with (first
      | (go_at_call 14; (with_reducible refine (Mine_any b s n l id _ h hs).mono ?_); rintro e w1 ⟨rfl, ho⟩; have h' := h.kept ho fun hh => hh)
      )
    go_ret
    exact ⟨rfl, ho.of_nil _, h'⟩
theorem Skip_nil (id : Int) (w : World) : Calls Try.prog 10 #[.pointer none, .int .i64 id] w fun e w' => e = .returned (.int .i64 1) ∧ w = w' := by
  go_enter Try.func10, Try.ntmps10
  go_wp2
  go_ret
  exact ⟨rfl, rfl⟩

set_option maxHeartbeats 1000000 in
theorem Peer_yes (b : Nat) (s n l id : Int) (w : World) (h : Ids w b s n l) (hs : sideOk s) (hp : peerB s l id = true) :
    Calls Try.prog 8 #[.pointer (some ⟨b, 0, none⟩), .int .i64 id] w (IdsPost w b 0 s n id) := by
  obtain ⟨c0, c1, f1, c2, f2⟩ := h.facts
  obtain ⟨s1, s2⟩ := hs
  have hlt := h.lt
  have hmf := mkf Try.prog
  unfold peerB ofB at hp
  simp only [Bool.and_eq_true, decide_eq_true_eq] at hp
  obtain ⟨⟨⟨h1, h2⟩, h3⟩, h4⟩ := hp
  go_enter Try.func8, Try.ntmps8
  go_wp2
  go_ret
  exact ⟨rfl, ((Only.refl (One b) w).set1 2 _).alloc _, (h.set 2 _).alloc _⟩
set_option maxHeartbeats 1000000 in
theorem Peer_no (b : Nat) (s n l id : Int) (w : World) (h : Ids w b s n l) (hs : sideOk s) (hp : peerB s l id = false) :
    Calls Try.prog 8 #[.pointer (some ⟨b, 0, none⟩), .int .i64 id] w (IdsPost w b 1 s n l) := by
  obtain ⟨c0, c1, f1, c2, f2⟩ := h.facts
  obtain ⟨s1, s2⟩ := hs
  have hlt := h.lt
  have hmf := mkf Try.prog
  by_cases h1 : 1 ≤ id
  · by_cases h2 : id ≤ 2147483647
    · by_cases h3 : (id % 2 == 1 - (1 - s)) = true
      · have h4 : ¬ l < id := by
          intro h4
          simp [peerB, ofB, h1, h2, h3, h4] at hp
        go_enter Try.func8, Try.ntmps8
        go_wp2
        go_ret
        exact ⟨rfl, (Only.refl _ _).alloc _, h.alloc _⟩
      · have h3' : (id % 2 == 1 - (1 - s)) = false := by simpa using h3
        go_enter Try.func8, Try.ntmps8
        go_wp2
        go_ret
        exact ⟨rfl, (Only.refl _ _).alloc _, h.alloc _⟩
    ·
      go_enter Try.func8, Try.ntmps8
      go_wp2
      go_ret
      exact ⟨rfl, (Only.refl _ _).alloc _, h.alloc _⟩
  ·
    go_enter Try.func8, Try.ntmps8
    go_wp2
    go_ret
    exact ⟨rfl, (Only.refl _ _).alloc _, h.alloc _⟩
theorem Peer_nil (id : Int) (w : World) : Calls Try.prog 8 #[.pointer none, .int .i64 id] w fun e w' => e = .returned (.int .i64 2) ∧ w = w' := by
  go_enter Try.func8, Try.ntmps8
  go_wp2
  go_ret
  exact ⟨rfl, rfl⟩

set_option maxHeartbeats 1000000 in
theorem Past_any (b : Nat) (s n l id : Int) (w : World) (h : Ids w b s n l) (hs : sideOk s) :
    Calls Try.prog 15 #[.pointer (some ⟨b, 0, none⟩), .int .i64 id] w fun e w' => e = .returned (.bool (pastB s n l id)) ∧ Only Nil w w' := by
  by_cases h1 : ofB s id = true
  · have e1 : pastB s n l id = decide (id < n) := by simp [pastB, h1]
    rw [e1]
    go_enter Try.func15, Try.ntmps15
    go_wp2_with (first
      | (go_at_call 14; (with_reducible refine (Mine_any b s n l id _ h hs).mono ?_); rintro e w1 ⟨rfl, ho⟩; have c1 := (Ids.facts (h.kept ho fun hh => hh)).2.1)
      )
    go_ret
    exact ⟨rfl, ho⟩
  · have h1' : ofB s id = false := by simpa using h1
    by_cases h2 : 1 ≤ id
    · have e1 : pastB s n l id = decide (id ≤ l) := by simp [pastB, h1', h2]
      rw [e1]
      go_enter Try.func15, Try.ntmps15
      go_wp2_with (first
        | (go_at_call 14; (with_reducible refine (Mine_any b s n l id _ h hs).mono ?_); rintro e w1 ⟨rfl, ho⟩; have c2 := (Ids.facts (h.kept ho fun hh => hh)).2.2.2.1)
        )
      go_ret
      exact ⟨rfl, ho⟩
    · have e1 : pastB s n l id = false := by simp [pastB, h1', h2]
      rw [e1]
      go_enter Try.func15, Try.ntmps15
      go_wp2_with (first
        | (go_at_call 14; (with_reducible refine (Mine_any b s n l id _ h hs).mono ?_); rintro e w1 ⟨rfl, ho⟩; have c2 := (Ids.facts (h.kept ho fun hh => hh)).2.2.2.1)
        )
      go_ret
      exact ⟨rfl, ho⟩
theorem Past_nil (id : Int) (w : World) : Calls Try.prog 15 #[.pointer none, .int .i64 id] w fun e w' => e = .returned (.bool false) ∧ w = w' := by
  go_enter Try.func15, Try.ntmps15
  go_wp2
  go_ret
  exact ⟨rfl, rfl⟩
theorem Next_any (b : Nat) (s n l : Int) (w : World) (h : Ids w b s n l) : Calls Try.prog 12 #[.pointer (some ⟨b, 0, none⟩)] w fun e w' => e = .returned (.int .i64 n) ∧ w = w' := by
  obtain ⟨c0, c1, f1, c2, f2⟩ := h.facts
  go_enter Try.func12, Try.ntmps12
  go_wp2
  go_ret
  exact ⟨rfl, rfl⟩
theorem Next_nil (w : World) : Calls Try.prog 12 #[.pointer none] w fun e w' => e = .returned (.int .i64 0) ∧ w = w' := by
  go_enter Try.func12, Try.ntmps12
  go_wp2
  go_ret
  exact ⟨rfl, rfl⟩
theorem Last_any (b : Nat) (s n l : Int) (w : World) (h : Ids w b s n l) : Calls Try.prog 13 #[.pointer (some ⟨b, 0, none⟩)] w fun e w' => e = .returned (.int .i64 l) ∧ w = w' := by
  obtain ⟨c0, c1, f1, c2, f2⟩ := h.facts
  go_enter Try.func13, Try.ntmps13
  go_wp2
  go_ret
  exact ⟨rfl, rfl⟩
theorem Last_nil (w : World) : Calls Try.prog 13 #[.pointer none] w fun e w' => e = .returned (.int .i64 0) ∧ w = w' := by
  go_enter Try.func13, Try.ntmps13
  go_wp2
  go_ret
  exact ⟨rfl, rfl⟩
def NewIds (w : World) (s : Int) (x : Ending) (w' : World) : Prop :=
  ∃ b, x = .returned (.tuple #[.pointer (some ⟨b, 0, none⟩), .int .i64 0]) ∧ w.heap.size ≤ b ∧ Only Nil w w' ∧ Ids w' b s (s + 1) 0
theorem New_any (s : Int) (w : World) (hs : sideOk s) : Calls Try.prog 6 #[.int .i64 s] w (NewIds w s) := by
  have h : s = 0 ∨ s = 1 := by unfold sideOk at hs; omega
  rcases h with rfl | rfl
  all_goals
    go_enter Try.func6, Try.ntmps6
    go_wp2
    go_ret2
    exact ⟨w.heap.size, rfl, Nat.le_refl _, (Only.refl _ _).alloc _, Blk.new _ _ _⟩
theorem New_bad (s : Int) (w : World) (h : ¬ (s = 0 ∨ s = 1)) : Calls Try.prog 6 #[.int .i64 s] w fun e w' => e = .returned (.tuple #[.pointer none, .int .i64 2]) ∧ w = w' := by
  have h0 : (s == 0) = false := by simp; omega
  have h1 : (s == 1) = false := by simp; omega
  have h2 : (s != 0) = true := by simp; omega
  have h3 : (s != 1) = true := by simp; omega
  go_enter Try.func6, Try.ntmps6
  go_wp2
  go_ret2
  exact ⟨rfl, rfl⟩
end Go.Proofs.Ytijifepncfffdaa
