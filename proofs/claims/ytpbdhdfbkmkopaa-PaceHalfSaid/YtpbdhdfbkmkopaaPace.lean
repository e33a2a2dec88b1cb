/- What each function of package pace does to a pace that lies in a block of its own. -/
import Derived.Test.YtpbdhdfbkmkopaaRows
import Derived.Test.YtpbdhdfbkmkopaaKit
import Derived.Test.YtpbdhdfbkmkopaaArgs
namespace Go.Proofs.Ytpbdhdfbkmkopaa
open Go.RowKit

abbrev Pa (w : World) (b : Nat) (C M G T U : Int) : Prop := Blk w b 43 #[.int .i64 C, .int .i64 M, .int .i64 G, .int .i64 T, .int .i64 U]
abbrev RPa (w : World) (b : Nat) (C M G T U : Int) : Prop := Blk w b 38 #[.int .i64 C, .int .i64 M, .int .i64 G, .int .i64 T, .int .i64 U]
/-- behind k calls -/
def paOk (k : Nat) (C M G T U : Int) : Prop :=
  (0 ≤ C ∧ C ≤ M ∧ M ≤ 2147483647) ∧ (0 ≤ U ∧ U ≤ 2147483647 * (k : Int)) ∧ (U ≤ T ∧ T ≤ U + M) ∧ (G ≤ C + U ∧ C + U - 2147483647 * (k : Int) ≤ G)

theorem Pa.facts {w : World} {b : Nat} {C M G T U : Int} (h : Pa w b C M G T U) :
    w.cell? ⟨b, 0, none⟩ = some (.int .i64 C) ∧ w.cell? ⟨b, 1, none⟩ = some (.int .i64 M) ∧ w.cell? ⟨b, 2, none⟩ = some (.int .i64 G) ∧ w.cell? ⟨b, 3, none⟩ = some (.int .i64 T) ∧ w.cell? ⟨b, 4, none⟩ = some (.int .i64 U) :=
  ⟨h.cell 0, h.cell 1, h.cell 2, h.cell 3, h.cell 4⟩
theorem Pa.loose {w : World} {b : Nat} {C M G T U : Int} (h : Pa w b C M G T U) :
    w.frozen? ⟨b, 0, none⟩ = false ∧ w.frozen? ⟨b, 1, none⟩ = false ∧ w.frozen? ⟨b, 2, none⟩ = false ∧ w.frozen? ⟨b, 3, none⟩ = false ∧ w.frozen? ⟨b, 4, none⟩ = false :=
  ⟨h.frozen 0, h.frozen 1, h.frozen 2, h.frozen 3, h.frozen 4⟩
theorem RPa.facts {w : World} {b : Nat} {C M G T U : Int} (h : RPa w b C M G T U) :
    w.cell? ⟨b, 0, none⟩ = some (.int .i64 C) ∧ w.cell? ⟨b, 1, none⟩ = some (.int .i64 M) ∧ w.cell? ⟨b, 2, none⟩ = some (.int .i64 G) ∧ w.cell? ⟨b, 3, none⟩ = some (.int .i64 T) ∧ w.cell? ⟨b, 4, none⟩ = some (.int .i64 U) :=
  ⟨h.cell 0, h.cell 1, h.cell 2, h.cell 3, h.cell 4⟩
theorem RPa.loose {w : World} {b : Nat} {C M G T U : Int} (h : RPa w b C M G T U) :
    w.frozen? ⟨b, 0, none⟩ = false ∧ w.frozen? ⟨b, 1, none⟩ = false ∧ w.frozen? ⟨b, 2, none⟩ = false ∧ w.frozen? ⟨b, 3, none⟩ = false ∧ w.frozen? ⟨b, 4, none⟩ = false :=
  ⟨h.frozen 0, h.frozen 1, h.frozen 2, h.frozen 3, h.frozen 4⟩

def PaPost (w : World) (b : Nat) (v : Value) (C M G T U : Int) (x : Ending) (w' : World) : Prop := x = .returned v ∧ Only (One b) w w' ∧ Pa w' b C M G T U
def RPaPost (w : World) (b : Nat) (v : Value) (C M G T U : Int) (x : Ending) (w' : World) : Prop := x = .returned v ∧ Only (One b) w w' ∧ RPa w' b C M G T U
def RdPost (w : World) (v : Value) (x : Ending) (w' : World) : Prop := x = .returned v ∧ Only Nil w w'

def smallK (C G T U : Int) : Prop := (0 ≤ C ∧ C ≤ 2147483647) ∧ (-1000000000000 ≤ G ∧ G ≤ 1000000000000) ∧ (0 ≤ T ∧ T ≤ 1000000000000) ∧ (0 ≤ U ∧ U ≤ 1000000000000)
theorem paOk.small {k : Nat} {C M G T U : Int} (h : paOk k C M G T U) (hk : k ≤ 100) : smallK C G T U := by
  unfold paOk at h
  unfold smallK
  omega

set_option maxHeartbeats 1000000 in
theorem Open_any (b : Nat) (C M G T U : Int) (w : World) (hP : Pa w b C M G T U) (hs : smallK C G T U) : Calls Try.prog 12 #[.pointer (some ⟨b, 0, none⟩)] w fun x w' => x = .returned (.int .i64 (G - U)) ∧ ∃ n, w' = w.drewN n := by
  obtain ⟨c0, c1, c2, c3, c4⟩ := hP.facts
  obtain ⟨⟨_, _⟩, ⟨_, _⟩, ⟨_, _⟩, _, _⟩ := hs
  go_enter Try.func12, Try.ntmps12
  go_wp2
  go_quiet (fail)
  go_wp2
  go_ret
  exact ⟨rfl, _, rfl⟩
set_option maxHeartbeats 1000000 in
theorem Kept_any (b : Nat) (C M G T U : Int) (w : World) (hP : Pa w b C M G T U) (hs : smallK C G T U) : Calls Try.prog 13 #[.pointer (some ⟨b, 0, none⟩)] w (RdPost w (.int .i64 (T - U))) := by
  obtain ⟨c0, c1, c2, c3, c4⟩ := hP.facts
  obtain ⟨⟨_, _⟩, ⟨_, _⟩, ⟨_, _⟩, _, _⟩ := hs
  go_enter Try.func13, Try.ntmps13
  go_wp2
  go_quiet (fail)
  go_wp2
  go_ret
  exact ⟨rfl, (Only.refl _ _).drewN _⟩
theorem Granted_any (b : Nat) (C M G T U : Int) (w : World) (hP : Pa w b C M G T U) : Calls Try.prog 20 #[.pointer (some ⟨b, 0, none⟩)] w fun x w' => x = .returned (.int .i64 G) ∧ w = w' := by
  obtain ⟨c0, c1, c2, c3, c4⟩ := hP.facts
  go_enter Try.func20, Try.ntmps20
  go_wp2
  go_ret
  exact ⟨rfl, rfl⟩
theorem Most_any (b : Nat) (C M G T U : Int) (w : World) (hP : Pa w b C M G T U) : Calls Try.prog 14 #[.pointer (some ⟨b, 0, none⟩)] w fun x w' => x = .returned (.int .i64 M) ∧ w = w' := by
  obtain ⟨c0, c1, c2, c3, c4⟩ := hP.facts
  go_enter Try.func14, Try.ntmps14
  go_wp2
  go_ret
  exact ⟨rfl, rfl⟩
set_option maxHeartbeats 1000000 in
theorem got_arg (b : Nat) (C M G T U n : Int) (w : World) (hP : Pa w b C M G T U) (hn : n < 0) : Calls Try.prog 17 #[.pointer (some ⟨b, 0, none⟩), .int .i64 n] w (PaPost w b (.int .i64 2) C M G T U) := by
  go_enter Try.func17, Try.ntmps17
  go_wp2
  go_ret
  exact ⟨rfl, Only.refl _ _, hP⟩
set_option maxHeartbeats 1000000 in
theorem got_full (b : Nat) (C M G T U n : Int) (w : World) (hP : Pa w b C M G T U) (hs : smallK C G T U) (hn : 0 < n) (hf : G - T < n) : Calls Try.prog 17 #[.pointer (some ⟨b, 0, none⟩), .int .i64 n] w (PaPost w b (.int .i64 9) C M G T U) := by
  obtain ⟨c0, c1, c2, c3, c4⟩ := hP.facts
  obtain ⟨⟨_, _⟩, ⟨_, _⟩, ⟨_, _⟩, _, _⟩ := hs
  have hd : decide (0 < n) = true := by simpa using hn
  go_enter Try.func17, Try.ntmps17
  go_wp2
  go_quiet (fail)
  go_wp2
  go_ret
  exact ⟨rfl, (Only.refl _ _).drewN _, hP⟩
set_option maxHeartbeats 1000000 in
theorem got_ok (b : Nat) (C M G T U n : Int) (w : World) (hP : Pa w b C M G T U) (hs : smallK C G T U) (hn : 0 < n) (hf : n ≤ G - T) : Calls Try.prog 17 #[.pointer (some ⟨b, 0, none⟩), .int .i64 n] w (PaPost w b (.int .i64 0) C M G (T + n) U) := by
  obtain ⟨c0, c1, c2, c3, c4⟩ := hP.facts
  obtain ⟨f0, f1, f2, f3, f4⟩ := hP.loose
  obtain ⟨⟨_, _⟩, ⟨_, _⟩, ⟨_, _⟩, _, _⟩ := hs
  have hd : decide (0 < n) = true := by simpa using hn
  go_enter Try.func17, Try.ntmps17
  go_wp2
  go_quiet (fail)
  go_wp2
  go_ret
  exact ⟨rfl, ((Only.refl (One b) w).set1 3 _).drewN _, hP.set 3 _⟩
set_option maxHeartbeats 1000000 in
theorem got_zero (b : Nat) (C M G T U : Int) (w : World) (hP : Pa w b C M G T U) (hs : smallK C G T U) : Calls Try.prog 17 #[.pointer (some ⟨b, 0, none⟩), .int .i64 0] w (PaPost w b (.int .i64 0) C M G T U) := by
  obtain ⟨c0, c1, c2, c3, c4⟩ := hP.facts
  obtain ⟨f0, f1, f2, f3, f4⟩ := hP.loose
  obtain ⟨⟨_, _⟩, ⟨_, _⟩, ⟨_, _⟩, _, _⟩ := hs
  have hd : decide ((0 : Int) < 0) = false := by decide
  go_enter Try.func17, Try.ntmps17
  go_wp2
  go_quiet (fail)
  go_wp2
  go_ret
  refine ⟨rfl, ((Only.refl (One b) w).set1 3 (.int .i64 T)).drewN _, ?_⟩
  exact Blk.drewN (hP.set 3 (.int .i64 T)) _
set_option maxHeartbeats 1000000 in
theorem use_arg (b : Nat) (C M G T U n : Int) (w : World) (hP : Pa w b C M G T U) (hn : n < 0) : Calls Try.prog 15 #[.pointer (some ⟨b, 0, none⟩), .int .i64 n] w (PaPost w b (.int .i64 2) C M G T U) := by
  go_enter Try.func15, Try.ntmps15
  go_wp2
  go_ret
  exact ⟨rfl, Only.refl _ _, hP⟩
set_option maxHeartbeats 1000000 in
theorem use_range (b : Nat) (C M G T U n : Int) (w : World) (hP : Pa w b C M G T U) (hs : smallK C G T U) (hn : ¬ n < 0) (hf : T - U < n) : Calls Try.prog 15 #[.pointer (some ⟨b, 0, none⟩), .int .i64 n] w (PaPost w b (.int .i64 3) C M G T U) := by
  obtain ⟨c0, c1, c2, c3, c4⟩ := hP.facts
  obtain ⟨⟨_, _⟩, ⟨_, _⟩, ⟨_, _⟩, _, _⟩ := hs
  go_enter Try.func15, Try.ntmps15
  go_wp2
  go_quiet (fail)
  go_wp2
  go_ret
  exact ⟨rfl, (Only.refl _ _).drewN _, hP⟩
set_option maxHeartbeats 1000000 in
theorem use_ok (b : Nat) (C M G T U n : Int) (w : World) (hP : Pa w b C M G T U) (hs : smallK C G T U) (hn : ¬ n < 0) (hf : n ≤ T - U) : Calls Try.prog 15 #[.pointer (some ⟨b, 0, none⟩), .int .i64 n] w (PaPost w b (.int .i64 0) C M G T (U + n)) := by
  obtain ⟨c0, c1, c2, c3, c4⟩ := hP.facts
  obtain ⟨f0, f1, f2, f3, f4⟩ := hP.loose
  obtain ⟨⟨_, _⟩, ⟨_, _⟩, ⟨_, _⟩, _, _⟩ := hs
  go_enter Try.func15, Try.ntmps15
  go_wp2
  go_quiet (fail)
  go_wp2
  go_ret
  exact ⟨rfl, ((Only.refl (One b) w).set1 4 _).drewN _, hP.set 4 _⟩
theorem may_yes (n : Int) (w : World) (h0 : 0 ≤ n) (h1 : n ≤ 2147483647) : Calls Try.prog 21 #[.int .i64 n] w fun x w' => x = .returned (.bool true) ∧ w = w' := by
  go_enter Try.func21, Try.ntmps21
  go_wp2
  go_ret
  exact ⟨by first | rfl | (simp; omega), rfl⟩
theorem may_no (n : Int) (w : World) (h : ¬ (0 ≤ n ∧ n ≤ 2147483647)) : Calls Try.prog 21 #[.int .i64 n] w fun x w' => x = .returned (.bool false) ∧ w = w' := by
  by_cases h0 : 0 ≤ n
  · have h1 : 2147483647 < n := by omega
    go_enter Try.func21, Try.ntmps21
    go_wp2
    go_ret
    exact ⟨by first | rfl | (simp; omega), rfl⟩
  · go_enter Try.func21, Try.ntmps21
    go_wp2
    go_ret
    exact ⟨by first | rfl | (simp; omega), rfl⟩
set_option maxHeartbeats 1000000 in
theorem resize_bad (b : Nat) (C M G T U n : Int) (w : World) (hP : Pa w b C M G T U) (h : ¬ (0 ≤ n ∧ n ≤ 2147483647)) : Calls Try.prog 18 #[.pointer (some ⟨b, 0, none⟩), .int .i64 n] w (PaPost w b (.int .i64 3) C M G T U) := by
  go_enter Try.func18, Try.ntmps18
  go_wp2_with (first
    | (go_at_call 21; (with_reducible refine (may_no _ _ h).mono ?_); rintro e w1 ⟨rfl, rfl⟩)
    )
  go_ret
  exact ⟨rfl, Only.refl _ _, hP⟩
set_option maxHeartbeats 2000000 in
theorem resize_ok (b : Nat) (C M G T U n : Int) (w : World) (hP : Pa w b C M G T U) (hs : smallK C G T U) (h0 : 0 ≤ n) (h1 : n ≤ 2147483647) : Calls Try.prog 18 #[.pointer (some ⟨b, 0, none⟩), .int .i64 n] w (PaPost w b (.int .i64 0) n (max M n) (G + (n - C)) T U) := by
  obtain ⟨c0, c1, c2, c3, c4⟩ := hP.facts
  obtain ⟨f0, f1, f2, f3, f4⟩ := hP.loose
  obtain ⟨⟨_, _⟩, ⟨_, _⟩, ⟨_, _⟩, _, _⟩ := hs
  by_cases hm : M ≤ n
  · have e : max M n = n := by omega
    rw [e]
    clear e
    go_enter Try.func18, Try.ntmps18
    go_wp2_with (first
      | (go_at_call 21; (with_reducible refine (may_yes _ _ h0 h1).mono ?_); rintro e w1 ⟨rfl, rfl⟩)
      )
    go_region
    all_goals go_wp2
    · go_ret
      refine ⟨rfl, ?_, ?_⟩
      · repeat (first | exact Only.refl _ _ | apply Only.set1 | apply Only.drew)
      · exact Blk.drew (((hP.set 2 _).set 0 _).set 1 _)
    · have e : M = n := by omega
      go_ret
      refine ⟨rfl, ?_, ?_⟩
      · repeat (first | exact Only.refl _ _ | apply Only.set1 | apply Only.drew)
      · have h2 := Blk.drew (((hP.set 2 (.int .i64 (G + (n - C)))).set 0 (.int .i64 n)).set 1 (.int .i64 M))
        rw [← e] at h2 ⊢
        exact h2
  · have e : max M n = M := by omega
    rw [e]
    clear e
    go_enter Try.func18, Try.ntmps18
    go_wp2_with (first
      | (go_at_call 21; (with_reducible refine (may_yes _ _ h0 h1).mono ?_); rintro e w1 ⟨rfl, rfl⟩)
      )
    go_region
    all_goals go_wp2
    go_ret
    refine ⟨rfl, ?_, ?_⟩
    · repeat (first | exact Only.refl _ _ | apply Only.set1 | apply Only.drew)
    · exact Blk.drew (((hP.set 2 _).set 0 _).set 1 _)

def dueF (C G U : Int) : Int := if C - (G - U) < C - C / 2 ∨ C - (G - U) < 0 then 0 else C - (G - U)
def LackPost (w : World) (b : Nat) (x : Ending) (w' : World) : Prop :=
  ∃ g, x = .returned (.func (.func 25) #[] #[.pointer (some ⟨g, 0, none⟩)]) ∧ w.heap.size ≤ g ∧ Only Nil w w' ∧ Blk w' g 23 #[.pointer (some ⟨b, 0, none⟩)]
theorem lack_any (b : Nat) (w : World) : Calls Try.prog 24 #[.pointer (some ⟨b, 0, none⟩)] w (LackPost w b) := by
  have hmf := mkf Try.prog
  go_enter Try.func24, Try.ntmps24
  go_wp2
  go_ret
  exact ⟨w.heap.size, rfl, Nat.le_refl _, (Only.refl _ _).alloc _, Blk.new _ _ _⟩
set_option maxHeartbeats 2000000 in
theorem lack1_any (g b : Nat) (C M G T U : Int) (w : World) (hg : Blk w g 23 #[.pointer (some ⟨b, 0, none⟩)]) (hP : Pa w b C M G T U) (hs : smallK C G T U) :
    Calls Try.prog 25 #[.pointer (some ⟨g, 0, none⟩)] w (RdPost w (.int .i64 (dueF C G U))) := by
  obtain ⟨c0, c1, c2, c3, c4⟩ := hP.facts
  have cg : w.cell? ⟨g, 0, none⟩ = some (.pointer (some ⟨b, 0, none⟩)) := hg.cell 0
  obtain ⟨⟨_, _⟩, ⟨_, _⟩, ⟨_, _⟩, _, _⟩ := id hs
  by_cases h1 : C - (G - U) < C - C / 2
  · have e : dueF C G U = 0 := by unfold dueF; rw [if_pos (.inl h1)]
    rw [e]
    clear e
    go_enter Try.func25, Try.ntmps25
    go_wp2
    go_quiet ((go_at_call 12; exact Calls.quiet_of (Open_any b C M G T U _ (Blk.drewN hP _) hs)))
    go_wp2
    go_quiet (fail)
    go_wp2
    go_ret
    exact ⟨rfl, (Only.refl _ _).drewN _⟩
  · have h2 : ¬ C - (G - U) < 0 := by omega
    have e : dueF C G U = C - (G - U) := by unfold dueF; rw [if_neg (by omega)]
    rw [e]
    clear e
    go_enter Try.func25, Try.ntmps25
    go_wp2
    go_quiet ((go_at_call 12; exact Calls.quiet_of (Open_any b C M G T U _ (Blk.drewN hP _) hs)))
    go_wp2
    go_quiet (fail)
    go_wp2
    go_ret
    exact ⟨rfl, (Only.refl _ _).drewN _⟩
set_option maxHeartbeats 1000000 in
theorem Due_any (b : Nat) (C M G T U : Int) (w : World) (hP : Pa w b C M G T U) (hs : smallK C G T U) :
    Calls Try.prog 19 #[.pointer (some ⟨b, 0, none⟩)] w (RdPost w (.int .i64 (dueF C G U))) := by
  go_enter Try.func19, Try.ntmps19
  go_wp2_with (first
    | (go_at_call 24; (with_reducible refine (lack_any b _).mono ?_); rintro e w1 ⟨g, rfl, hg, ho1, hG⟩; have hP1 := hP.kept ho1 (fun hh => hh))
    | (go_at_call 25; (with_reducible refine (lack1_any g b C M G T U _ hG hP1 hs).mono ?_); rintro e w2 ⟨rfl, ho2⟩)
    )
  go_ret
  exact ⟨rfl, ho1.trans ho2⟩
set_option maxHeartbeats 1000000 in
theorem Grant_any (b : Nat) (C M G T U : Int) (w : World) (hP : Pa w b C M G T U) (hs : smallK C G T U) :
    Calls Try.prog 16 #[.pointer (some ⟨b, 0, none⟩)] w (PaPost w b (.int .i64 (dueF C G U)) C M (G + dueF C G U) T U) := by
  have hd := fun (W : World) (h : Pa W b C M G T U) => Due_any b C M G T U W h hs
  have hb : -1000000000000 ≤ dueF C G U ∧ dueF C G U ≤ 3000000000000 := by
    unfold smallK at hs
    unfold dueF
    split <;> omega
  obtain ⟨⟨_, _⟩, ⟨_, _⟩, ⟨_, _⟩, _, _⟩ := id hs
  generalize dueF C G U = D at hd hb
  obtain ⟨d1, d2⟩ := hb
  have hmf := mkf Try.prog
  go_enter Try.func16, Try.ntmps16
  go_wp2_with (first
    | (go_at_call 19; (with_reducible refine (hd _ hP).mono ?_); rintro e w1 ⟨rfl, ho1⟩; have hP1 := hP.kept ho1 (fun hh => hh); obtain ⟨c0, c1, c2, c3, c4⟩ := Pa.facts hP1; obtain ⟨f0, f1, f2, f3, f4⟩ := Pa.loose hP1)
    )
  go_ret
  exact ⟨rfl, (ho1.of_nil (One b)).set1 2 _, Blk.set hP1 2 _⟩

def NewPa (w : World) (n : Int) (x : Ending) (w' : World) : Prop :=
  ∃ b, x = .returned (.tuple #[.pointer (some ⟨b, 0, none⟩), .int .i64 0]) ∧ w.heap.size ≤ b ∧ Only Nil w w' ∧ Pa w' b n n n 0 0
theorem New_any (n : Int) (w : World) (h0 : 0 ≤ n) (h1 : n ≤ 2147483647) : Calls Try.prog 7 #[.int .i64 n] w (NewPa w n) := by
  go_enter Try.func7, Try.ntmps7
  go_wp2_with (first
    | (go_at_call 21; (with_reducible refine (may_yes _ _ h0 h1).mono ?_); rintro e w1 ⟨rfl, rfl⟩)
    )
  go_ret2
  exact ⟨w.heap.size, rfl, Nat.le_refl _, (Only.refl _ _).alloc _, Blk.new _ _ _⟩
theorem New_bad (n : Int) (w : World) (h : ¬ (0 ≤ n ∧ n ≤ 2147483647)) : Calls Try.prog 7 #[.int .i64 n] w fun x w' => x = .returned (.tuple #[.pointer none, .int .i64 3]) ∧ w = w' := by
  go_enter Try.func7, Try.ntmps7
  go_wp2_with (first
    | (go_at_call 21; (with_reducible refine (may_no _ _ h).mono ?_); rintro e w1 ⟨rfl, rfl⟩)
    )
  go_ret2
  exact ⟨rfl, rfl⟩
def NewRPa (w : World) (n : Int) (x : Ending) (w' : World) : Prop :=
  ∃ b, x = .returned (.pointer (some ⟨b, 0, none⟩)) ∧ w.heap.size ≤ b ∧ Only Nil w w' ∧ RPa w' b n n n 0 0
theorem RNew_any (n : Int) (w : World) : Calls Try.prog 9 #[.int .i64 n] w (NewRPa w n) := by
  go_enter Try.func9, Try.ntmps9
  go_wp2
  go_ret
  exact ⟨w.heap.size, rfl, Nat.le_refl _, (Only.refl _ _).alloc _, Blk.new _ _ _⟩
set_option maxHeartbeats 2000000 in
theorem RDue_any (b : Nat) (C M G T U : Int) (w : World) (hP : RPa w b C M G T U) (hs : smallK C G T U) :
    Calls Try.prog 22 #[.pointer (some ⟨b, 0, none⟩)] w (RdPost w (.int .i64 (dueF C G U))) := by
  obtain ⟨c0, c1, c2, c3, c4⟩ := hP.facts
  obtain ⟨⟨_, _⟩, ⟨_, _⟩, ⟨_, _⟩, _, _⟩ := id hs
  by_cases h1 : C - G + U ≤ 0
  · have e : dueF C G U = 0 := by unfold dueF; split <;> omega
    rw [e]
    clear e
    go_enter Try.func22, Try.ntmps22
    go_wp2
    go_quiet (fail)
    go_wp2
    go_ret
    exact ⟨by first | rfl | simp, (Only.refl _ _).drewN _⟩
  · by_cases h2 : 2 * (C - G + U) < C
    · have e : dueF C G U = 0 := by unfold dueF; split <;> omega
      rw [e]
      clear e
      go_enter Try.func22, Try.ntmps22
      go_wp2
      go_quiet (fail)
      go_wp2
      go_ret
      exact ⟨by first | rfl | simp, (Only.refl _ _).drewN _⟩
    · have e : dueF C G U = C - G + U := by unfold dueF; split <;> omega
      rw [e]
      clear e
      go_enter Try.func22, Try.ntmps22
      go_wp2
      go_quiet (fail)
      go_wp2
      go_ret
      exact ⟨by first | rfl | simp, (Only.refl _ _).drewN _⟩
set_option maxHeartbeats 2000000 in
theorem RResize_any (b : Nat) (C M G T U n : Int) (w : World) (hP : RPa w b C M G T U) (hs : smallK C G T U) (h0 : 0 ≤ n) (h1 : n ≤ 2147483647) :
    Calls Try.prog 23 #[.pointer (some ⟨b, 0, none⟩), .int .i64 n] w (RPaPost w b (.tuple #[]) n (max M n) (G + (n - C)) T U) := by
  obtain ⟨c0, c1, c2, c3, c4⟩ := hP.facts
  obtain ⟨f0, f1, f2, f3, f4⟩ := hP.loose
  obtain ⟨⟨_, _⟩, ⟨_, _⟩, ⟨_, _⟩, _, _⟩ := hs
  have e2 : G + (n - C) = G + n - C := by omega
  rw [e2]
  clear e2
  by_cases hm : M < n
  · have e : max M n = n := by omega
    rw [e]
    clear e
    go_enter Try.func23, Try.ntmps23
    go_wp2
    go_region
    all_goals go_wp2
    go_end0
    refine ⟨rfl, ?_, ?_⟩
    · repeat (first | exact Only.refl _ _ | apply Only.set1 | apply Only.drew)
    · exact Blk.drew (((hP.set 2 _).set 0 _).set 1 _)
  · have e : max M n = M := by omega
    rw [e]
    clear e
    go_enter Try.func23, Try.ntmps23
    go_wp2
    go_region
    all_goals go_wp2
    go_end0
    refine ⟨rfl, ?_, ?_⟩
    · repeat (first | exact Only.refl _ _ | apply Only.set1 | apply Only.drew)
    · exact Blk.drew ((hP.set 2 _).set 0 _)
end Go.Proofs.Ytpbdhdfbkmkopaa
