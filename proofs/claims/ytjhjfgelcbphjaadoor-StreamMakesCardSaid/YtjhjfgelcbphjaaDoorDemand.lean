/- What each function of package demand does to a count that lies in a block of its own. -/
import Derived.Test.YtjhjfgelcbphjaaDoorRows
import Derived.Test.YtjhjfgelcbphjaaDoorKit
import Derived.Test.YtjhjfgelcbphjaaDoorArgs
namespace Go.Proofs.YtjhjfgelcbphjaaDoor.Dem
open Go.Proofs.YtjhjfgelcbphjaaDoor
open Go.RowKit

abbrev Dem (w : World) (b : Nat) (n l : Int) : Prop := Blk w b 138 #[.int .i64 n, .int .i64 l]
def demOk (n l : Int) : Prop := 0 ≤ n ∧ n ≤ l ∧ l ≤ 2147483647

theorem Dem.facts {w : World} {b : Nat} {n l : Int} (h : Dem w b n l) :
    w.cell? ⟨b, 0, none⟩ = some (.int .i64 n) ∧ w.frozen? ⟨b, 0, none⟩ = false ∧ w.cell? ⟨b, 1, none⟩ = some (.int .i64 l) :=
  ⟨h.cell 0, h.frozen 0, h.cell 1⟩

/-- how much more it is -/
def addK (n l k : Int) : Int := if k < 1 then 0 else min k (l - n)
def addE (k : Int) : Int := if k < 1 then 2 else 0
def takeE (n k : Int) : Int := if k < 0 then 2 else if n < k then 9 else 0
def takeN (n k : Int) : Int := if k < 0 then n else if n < k then n else n - k
def uptoK (n k : Int) : Int := max (min k n) 0

def AddPost (w : World) (b : Nat) (k e n l : Int) (x : Ending) (w' : World) : Prop :=
  x = .returned (.tuple #[.int .i64 k, .int .i64 e]) ∧ Only (One b) w w' ∧ Dem w' b n l
def DemPost (w : World) (b : Nat) (e n l : Int) (x : Ending) (w' : World) : Prop :=
  x = .returned (.int .i64 e) ∧ Only (One b) w w' ∧ Dem w' b n l

set_option maxHeartbeats 1000000 in
theorem Add_any (b : Nat) (n l k : Int) (w : World) (h : Dem w b n l) (hn : demOk n l) :
    Calls Tryd.prog 55 #[.pointer (some ⟨b, 0, none⟩), .int .i64 k] w (AddPost w b (addK n l k) (addE k) (n + addK n l k) l) := by
  obtain ⟨hc, hf, hd⟩ := h.facts
  obtain ⟨hn1, hn2, hn3⟩ := hn
  by_cases h1 : k < 1
  · have e1 : addK n l k = 0 := by simp [addK, h1]
    have e2 : addE k = 2 := by simp [addE, h1]
    rw [e1, e2, Int.add_zero]
    go_enter Tryd.func55, Tryd.ntmps55
    go_wp2
    go_ret2
    exact ⟨rfl, Only.refl _ _, h⟩
  · have e2 : addE k = 0 := by simp [addE, h1]
    by_cases h2 : k ≤ l - n
    · have e1 : addK n l k = k := by simp [addK, h1]; omega
      rw [e1, e2]
      go_enter Tryd.func55, Tryd.ntmps55
      go_wp2
      go_region
      all_goals
        go_wp2
        go_ret2
        refine ⟨rfl, ?_, ?_⟩
        ·
          repeat (first | exact Only.refl _ _ | apply Only.alloc | apply Only.set1 | apply Only.drewN | apply Only.drew)
        ·
          repeat (first | exact h.set 0 _ | apply Blk.drewN | apply Blk.drew | apply Blk.alloc)
    · have e1 : addK n l k = l - n := by simp [addK, h1]; omega
      rw [e1, e2]
      go_enter Tryd.func55, Tryd.ntmps55
      go_wp2
      go_region
      all_goals
        go_wp2
        go_ret2
        refine ⟨rfl, ?_, ?_⟩
        ·
          repeat (first | exact Only.refl _ _ | apply Only.alloc | apply Only.set1 | apply Only.drewN | apply Only.drew)
        ·
          repeat (first | exact h.set 0 _ | apply Blk.drewN | apply Blk.drew | apply Blk.alloc)
theorem Add_at (b : Nat) (n l k K E N : Int) (w : World) (h : Dem w b n l) (hn : demOk n l) (hK : addK n l k = K) (hE : addE k = E) (hN : n + K = N) :
    Calls Tryd.prog 55 #[.pointer (some ⟨b, 0, none⟩), .int .i64 k] w (AddPost w b K E N l) := by
  have := Add_any b n l k w h hn
  rw [hK, hE, hN] at this
  exact this
theorem Add_nil (k : Int) (w : World) : Calls Tryd.prog 55 #[.pointer none, .int .i64 k] w fun e w' => e = .returned (.tuple #[.int .i64 0, .int .i64 1]) ∧ w = w' := by
  go_enter Tryd.func55, Tryd.ntmps55
  go_wp2
  go_ret2
  exact ⟨rfl, rfl⟩

set_option maxHeartbeats 1000000 in
theorem Take_any (b : Nat) (n l k : Int) (w : World) (h : Dem w b n l) (hn : demOk n l) :
    Calls Tryd.prog 59 #[.pointer (some ⟨b, 0, none⟩), .int .i64 k] w (DemPost w b (takeE n k) (takeN n k) l) := by
  obtain ⟨hc, hf, hd⟩ := h.facts
  obtain ⟨hn1, hn2, hn3⟩ := hn
  have hlt := h.lt
  have hmf := mkf Tryd.prog
  by_cases h1 : k < 0
  · have e1 : takeE n k = 2 := by simp [takeE, h1]
    have e2 : takeN n k = n := by simp [takeN, h1]
    rw [e1, e2]
    go_enter Tryd.func59, Tryd.ntmps59
    go_wp2
    go_ret
    exact ⟨rfl, Only.refl _ _, h⟩
  · by_cases h2 : n < k
    · have e1 : takeE n k = 9 := by simp [takeE, h1, h2]
      have e2 : takeN n k = n := by simp [takeN, h2]
      rw [e1, e2]
      go_enter Tryd.func59, Tryd.ntmps59
      go_wp2
      go_ret
      exact ⟨rfl, (Only.refl _ _).alloc _, h.alloc _⟩
    · have e1 : takeE n k = 0 := by simp [takeE, h1, h2]
      have e2 : takeN n k = n - k := by simp [takeN, h1, h2]
      rw [e1, e2]
      go_enter Tryd.func59, Tryd.ntmps59
      go_wp2
      go_ret
      exact ⟨rfl, ((Only.refl (One b) w).set1 0 _).alloc _, (h.set 0 _).alloc _⟩
theorem Take_nil (k : Int) (w : World) : Calls Tryd.prog 59 #[.pointer none, .int .i64 k] w fun e w' => e = .returned (.int .i64 1) ∧ w = w' := by
  go_enter Tryd.func59, Tryd.ntmps59
  go_wp2
  go_ret
  exact ⟨rfl, rfl⟩

set_option maxHeartbeats 1000000 in
theorem Upto_any (b : Nat) (n l k : Int) (w : World) (h : Dem w b n l) (hn : demOk n l) :
    Calls Tryd.prog 103 #[.pointer (some ⟨b, 0, none⟩), .int .i64 k] w (DemPost w b (uptoK n k) (n - uptoK n k) l) := by
  obtain ⟨hc, hf, hd⟩ := h.facts
  obtain ⟨hn1, hn2, hn3⟩ := hn
  have hlt := h.lt
  have hmf := mkf Tryd.prog
  by_cases h1 : k < 0
  · have e1 : uptoK n k = 0 := by simp [uptoK]; omega
    rw [e1, Int.sub_zero]
    go_enter Tryd.func103, Tryd.ntmps103
    go_wp2
    go_ret
    exact ⟨rfl, ((Only.refl (One b) w).set1 0 _).alloc _, (h.set 0 _).alloc _⟩
  · by_cases h2 : n < k
    · have e1 : uptoK n k = n := by simp [uptoK]; omega
      rw [e1]
      have hz : n - n = 0 := by omega
      go_enter Tryd.func103, Tryd.ntmps103
      go_wp2
      go_ret
      exact ⟨rfl, ((Only.refl (One b) w).set1 0 _).alloc _, (h.set 0 _).alloc _⟩
    · have e1 : uptoK n k = k := by simp [uptoK]; omega
      rw [e1]
      go_enter Tryd.func103, Tryd.ntmps103
      go_wp2
      go_ret
      exact ⟨rfl, ((Only.refl (One b) w).set1 0 _).alloc _, (h.set 0 _).alloc _⟩
theorem Upto_nil (k : Int) (w : World) : Calls Tryd.prog 103 #[.pointer none, .int .i64 k] w fun e w' => e = .returned (.int .i64 0) ∧ w = w' := by
  go_enter Tryd.func103, Tryd.ntmps103
  go_wp2
  go_ret
  exact ⟨rfl, rfl⟩
theorem Left_any (b : Nat) (n l : Int) (w : World) (h : Dem w b n l) : Calls Tryd.prog 99 #[.pointer (some ⟨b, 0, none⟩)] w fun e w' => e = .returned (.int .i64 n) ∧ w = w' := by
  obtain ⟨hc, hf, hd⟩ := h.facts
  go_enter Tryd.func99, Tryd.ntmps99
  go_wp2
  go_ret
  exact ⟨rfl, rfl⟩
theorem Left_nil (w : World) : Calls Tryd.prog 99 #[.pointer none] w fun e w' => e = .returned (.int .i64 0) ∧ w = w' := by
  go_enter Tryd.func99, Tryd.ntmps99
  go_wp2
  go_ret
  exact ⟨rfl, rfl⟩
def NewDem (w : World) (l : Int) (x : Ending) (w' : World) : Prop :=
  ∃ b, x = .returned (.tuple #[.pointer (some ⟨b, 0, none⟩), .int .i64 0]) ∧ w.heap.size ≤ b ∧ Only Nil w w' ∧ Dem w' b 0 l
theorem New_any (l : Int) (w : World) (h1 : 1 ≤ l) (h2 : l ≤ 2147483647) : Calls Tryd.prog 68 #[.int .i64 l] w (NewDem w l) := by
  go_enter Tryd.func68, Tryd.ntmps68
  go_wp2
  go_ret2
  exact ⟨w.heap.size, rfl, Nat.le_refl _, (Only.refl _ _).alloc _, Blk.new _ _ _⟩
theorem New_bad (l : Int) (w : World) (h : ¬ (1 ≤ l ∧ l ≤ 2147483647)) : Calls Tryd.prog 68 #[.int .i64 l] w fun e w' => e = .returned (.tuple #[.pointer none, .int .i64 3]) ∧ w = w' := by
  by_cases h1 : l < 1
  all_goals
    go_enter Tryd.func68, Tryd.ntmps68
    go_wp2
    go_ret2
    exact ⟨rfl, rfl⟩
def CopyDem (w : World) (n l : Int) (x : Ending) (w' : World) : Prop :=
  ∃ c, x = .returned (.pointer (some ⟨c, 0, none⟩)) ∧ w.heap.size ≤ c ∧ Only Nil w w' ∧ Dem w' c n l
theorem addK_ok {n l k : Int} (h : demOk n l) : demOk (n + addK n l k) l := by
  obtain ⟨h1, h2, h3⟩ := h
  unfold demOk addK
  split <;> omega
theorem takeN_ok {n l k : Int} (h : demOk n l) : demOk (takeN n k) l := by
  obtain ⟨h1, h2, h3⟩ := h
  unfold demOk takeN
  repeat' split
  all_goals omega
theorem uptoK_ok {n l k : Int} (h : demOk n l) : demOk (n - uptoK n k) l := by
  obtain ⟨h1, h2, h3⟩ := h
  unfold demOk uptoK
  omega
end Go.Proofs.YtjhjfgelcbphjaaDoor.Dem
