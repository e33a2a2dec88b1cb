/- A call of both. -/
import Derived.Test.YtpbdhdfbkmkopaaPace
namespace Go.Proofs.Ytpbdhdfbkmkopaa
open Go.RowKit
set_option linter.unusedVariables false

def Two (b c : Nat) : Nat → Prop := fun k => k = b ∨ k = c
theorem Only.two {b c i : Nat} {w w' : World} (h : Only (Two b c) w w') (u : Value) : Only (Two b c) w (w'.setCell ⟨c, i, none⟩ u) := h.setCell (p := ⟨c, i, none⟩) (fun _ => .inr rfl) u
def DoAt (w : World) (b c : Nat) (C M G T U : Int) (x : Ending) (w' : World) : Prop :=
  x = .returned (.bool true) ∧ Only (Two b c) w w' ∧ Pa w' b C M G T U ∧ RPa w' c C M G T U
set_option maxHeartbeats 4000000 in
theorem do_got_arg0 (b c : Nat) (C M G T U n : Int) (w : World) (hbc : b ≠ c) (hP : Pa w b C M G T U) (hR : RPa w c C M G T U) (hs : smallK C G T U) (hn : n < 0) :
    Calls Try.prog 10 #[.pointer (some ⟨b, 0, none⟩), .pointer (some ⟨c, 0, none⟩), .agg #[.int .i64 (0), .int .i64 n]] w (DoAt w b c C M G T U) := by
  have hlb := hP.lt
  have hlc := hR.lt
  have hcb : c ≠ b := fun h => hbc h.symm
  have hA : Blk (w.alloc (.cells #[.int .i64 (0), .int .i64 n] 32)) w.heap.size 32 #[.int .i64 (0), .int .i64 n] := Blk.new _ _ _
  have hP0 := hP.alloc (.cells #[.int .i64 (0), .int .i64 n] 32)
  have hR0 := hR.alloc (.cells #[.int .i64 (0), .int .i64 n] 32)
  have ho0 : Only (Two b c) w (w.alloc (.cells #[.int .i64 (0), .int .i64 n] 32)) := (Only.refl _ _).alloc _
  go_enter Try.func10, Try.ntmps10
  go_wp2_with (first
    | (go_at_call 17; (with_reducible refine (got_arg b C M G T U n _ hP0 hn).mono ?_); rintro e w1 ⟨rfl, ho1, hP1⟩; have hR1 := hR0.kept ho1 hcb; have hA1 := hA.kept ho1 (by unfold One; omega); obtain ⟨c0, c1, c2, c3, c4⟩ := RPa.facts hR1; obtain ⟨f0, f1, f2, f3, f4⟩ := RPa.loose hR1; have g1 : w1.cell? ⟨w.heap.size, 1, none⟩ = some (.int .i64 n) := hA1.cell 1)
    )
  go_ret
  refine ⟨by first | rfl | simp, ?_, ?_, ?_⟩
  · have h := ho0.trans (ho1.weaken (fun i _ h => .inl h))
    first | exact h | exact h.drewN _
  · exact hP1
  · exact hR1
set_option maxHeartbeats 4000000 in
theorem do_got_full0 (b c : Nat) (C M G T U n : Int) (w : World) (hbc : b ≠ c) (hP : Pa w b C M G T U) (hR : RPa w c C M G T U) (hs : smallK C G T U) (hn : 0 < n) (hf : G - T < n) :
    Calls Try.prog 10 #[.pointer (some ⟨b, 0, none⟩), .pointer (some ⟨c, 0, none⟩), .agg #[.int .i64 (0), .int .i64 n]] w (DoAt w b c C M G T U) := by
  have hlb := hP.lt
  have hlc := hR.lt
  have hcb : c ≠ b := fun h => hbc h.symm
  have hA : Blk (w.alloc (.cells #[.int .i64 (0), .int .i64 n] 32)) w.heap.size 32 #[.int .i64 (0), .int .i64 n] := Blk.new _ _ _
  have hP0 := hP.alloc (.cells #[.int .i64 (0), .int .i64 n] 32)
  have hR0 := hR.alloc (.cells #[.int .i64 (0), .int .i64 n] 32)
  have ho0 : Only (Two b c) w (w.alloc (.cells #[.int .i64 (0), .int .i64 n] 32)) := (Only.refl _ _).alloc _
  obtain ⟨⟨_, _⟩, ⟨_, _⟩, ⟨_, _⟩, _, _⟩ := id hs
  have hd : decide (0 < n) = true := by simpa using hn
  go_enter Try.func10, Try.ntmps10
  go_wp2_with (first
    | (go_at_call 17; (with_reducible refine (got_full b C M G T U n _ hP0 hs hn hf).mono ?_); rintro e w1 ⟨rfl, ho1, hP1⟩; have hR1 := hR0.kept ho1 hcb; have hA1 := hA.kept ho1 (by unfold One; omega); obtain ⟨c0, c1, c2, c3, c4⟩ := RPa.facts hR1; obtain ⟨f0, f1, f2, f3, f4⟩ := RPa.loose hR1; have g1 : w1.cell? ⟨w.heap.size, 1, none⟩ = some (.int .i64 n) := hA1.cell 1)
    )
  go_quiet (fail)
  go_wp2
  go_ret
  refine ⟨by first | rfl | simp, ?_, ?_, ?_⟩
  · have h := ho0.trans (ho1.weaken (fun i _ h => .inl h))
    first | exact h | exact h.drewN _
  · exact hP1
  · exact hR1
set_option maxHeartbeats 4000000 in
theorem do_got_ok0 (b c : Nat) (C M G T U n : Int) (w : World) (hbc : b ≠ c) (hP : Pa w b C M G T U) (hR : RPa w c C M G T U) (hs : smallK C G T U) (hn : 0 < n) (hf : n ≤ G - T) :
    Calls Try.prog 10 #[.pointer (some ⟨b, 0, none⟩), .pointer (some ⟨c, 0, none⟩), .agg #[.int .i64 (0), .int .i64 n]] w (DoAt w b c C M G (T + n) U) := by
  have hlb := hP.lt
  have hlc := hR.lt
  have hcb : c ≠ b := fun h => hbc h.symm
  have hA : Blk (w.alloc (.cells #[.int .i64 (0), .int .i64 n] 32)) w.heap.size 32 #[.int .i64 (0), .int .i64 n] := Blk.new _ _ _
  have hP0 := hP.alloc (.cells #[.int .i64 (0), .int .i64 n] 32)
  have hR0 := hR.alloc (.cells #[.int .i64 (0), .int .i64 n] 32)
  have ho0 : Only (Two b c) w (w.alloc (.cells #[.int .i64 (0), .int .i64 n] 32)) := (Only.refl _ _).alloc _
  obtain ⟨⟨_, _⟩, ⟨_, _⟩, ⟨_, _⟩, _, _⟩ := id hs
  have hd : decide (0 < n) = true := by simpa using hn
  go_enter Try.func10, Try.ntmps10
  go_wp2_with (first
    | (go_at_call 17; (with_reducible refine (got_ok b C M G T U n _ hP0 hs hn hf).mono ?_); rintro e w1 ⟨rfl, ho1, hP1⟩; have hR1 := hR0.kept ho1 hcb; have hA1 := hA.kept ho1 (by unfold One; omega); obtain ⟨c0, c1, c2, c3, c4⟩ := RPa.facts hR1; obtain ⟨f0, f1, f2, f3, f4⟩ := RPa.loose hR1; have g1 : w1.cell? ⟨w.heap.size, 1, none⟩ = some (.int .i64 n) := hA1.cell 1)
    )
  go_quiet (fail)
  go_wp2
  go_region
  all_goals go_wp2
  all_goals
    go_ret
    refine ⟨by first | rfl | simp, ?_, ?_, ?_⟩
    · have h := ho0.trans (ho1.weaken (fun i _ h => .inl h))
      repeat (first | exact h | apply Only.two | apply Only.drew | apply Only.drewN)
    · have h := Blk.far hP1 (p := ⟨c, 3, none⟩) hbc
      repeat (first | exact h _ | apply Blk.drew | apply Blk.drewN)
    · have h := Blk.set hR1 3
      repeat (first | exact h _ | apply Blk.drew | apply Blk.drewN)
set_option maxHeartbeats 4000000 in
theorem do_got_arg1 (b c : Nat) (C M G T U n : Int) (w : World) (hbc : b ≠ c) (hP : Pa w b C M G T U) (hR : RPa w c C M G T U) (hs : smallK C G T U) (hn : n < 0) :
    Calls Try.prog 10 #[.pointer (some ⟨b, 0, none⟩), .pointer (some ⟨c, 0, none⟩), .agg #[.int .i64 (1), .int .i64 n]] w (DoAt w b c C M G T U) := by
  have hlb := hP.lt
  have hlc := hR.lt
  have hcb : c ≠ b := fun h => hbc h.symm
  have hA : Blk (w.alloc (.cells #[.int .i64 (1), .int .i64 n] 32)) w.heap.size 32 #[.int .i64 (1), .int .i64 n] := Blk.new _ _ _
  have hP0 := hP.alloc (.cells #[.int .i64 (1), .int .i64 n] 32)
  have hR0 := hR.alloc (.cells #[.int .i64 (1), .int .i64 n] 32)
  have ho0 : Only (Two b c) w (w.alloc (.cells #[.int .i64 (1), .int .i64 n] 32)) := (Only.refl _ _).alloc _
  go_enter Try.func10, Try.ntmps10
  go_wp2_with (first
    | (go_at_call 17; (with_reducible refine (got_arg b C M G T U n _ hP0 hn).mono ?_); rintro e w1 ⟨rfl, ho1, hP1⟩; have hR1 := hR0.kept ho1 hcb; have hA1 := hA.kept ho1 (by unfold One; omega); obtain ⟨c0, c1, c2, c3, c4⟩ := RPa.facts hR1; obtain ⟨f0, f1, f2, f3, f4⟩ := RPa.loose hR1; have g1 : w1.cell? ⟨w.heap.size, 1, none⟩ = some (.int .i64 n) := hA1.cell 1)
    )
  go_ret
  refine ⟨by first | rfl | simp, ?_, ?_, ?_⟩
  · have h := ho0.trans (ho1.weaken (fun i _ h => .inl h))
    first | exact h | exact h.drewN _
  · exact hP1
  · exact hR1
set_option maxHeartbeats 4000000 in
theorem do_got_full1 (b c : Nat) (C M G T U n : Int) (w : World) (hbc : b ≠ c) (hP : Pa w b C M G T U) (hR : RPa w c C M G T U) (hs : smallK C G T U) (hn : 0 < n) (hf : G - T < n) :
    Calls Try.prog 10 #[.pointer (some ⟨b, 0, none⟩), .pointer (some ⟨c, 0, none⟩), .agg #[.int .i64 (1), .int .i64 n]] w (DoAt w b c C M G T U) := by
  have hlb := hP.lt
  have hlc := hR.lt
  have hcb : c ≠ b := fun h => hbc h.symm
  have hA : Blk (w.alloc (.cells #[.int .i64 (1), .int .i64 n] 32)) w.heap.size 32 #[.int .i64 (1), .int .i64 n] := Blk.new _ _ _
  have hP0 := hP.alloc (.cells #[.int .i64 (1), .int .i64 n] 32)
  have hR0 := hR.alloc (.cells #[.int .i64 (1), .int .i64 n] 32)
  have ho0 : Only (Two b c) w (w.alloc (.cells #[.int .i64 (1), .int .i64 n] 32)) := (Only.refl _ _).alloc _
  obtain ⟨⟨_, _⟩, ⟨_, _⟩, ⟨_, _⟩, _, _⟩ := id hs
  have hd : decide (0 < n) = true := by simpa using hn
  go_enter Try.func10, Try.ntmps10
  go_wp2_with (first
    | (go_at_call 17; (with_reducible refine (got_full b C M G T U n _ hP0 hs hn hf).mono ?_); rintro e w1 ⟨rfl, ho1, hP1⟩; have hR1 := hR0.kept ho1 hcb; have hA1 := hA.kept ho1 (by unfold One; omega); obtain ⟨c0, c1, c2, c3, c4⟩ := RPa.facts hR1; obtain ⟨f0, f1, f2, f3, f4⟩ := RPa.loose hR1; have g1 : w1.cell? ⟨w.heap.size, 1, none⟩ = some (.int .i64 n) := hA1.cell 1)
    )
  go_quiet (fail)
  go_wp2
  go_ret
  refine ⟨by first | rfl | simp, ?_, ?_, ?_⟩
  · have h := ho0.trans (ho1.weaken (fun i _ h => .inl h))
    first | exact h | exact h.drewN _
  · exact hP1
  · exact hR1
set_option maxHeartbeats 4000000 in
theorem do_got_ok1 (b c : Nat) (C M G T U n : Int) (w : World) (hbc : b ≠ c) (hP : Pa w b C M G T U) (hR : RPa w c C M G T U) (hs : smallK C G T U) (hn : 0 < n) (hf : n ≤ G - T) :
    Calls Try.prog 10 #[.pointer (some ⟨b, 0, none⟩), .pointer (some ⟨c, 0, none⟩), .agg #[.int .i64 (1), .int .i64 n]] w (DoAt w b c C M G (T + n) U) := by
  have hlb := hP.lt
  have hlc := hR.lt
  have hcb : c ≠ b := fun h => hbc h.symm
  have hA : Blk (w.alloc (.cells #[.int .i64 (1), .int .i64 n] 32)) w.heap.size 32 #[.int .i64 (1), .int .i64 n] := Blk.new _ _ _
  have hP0 := hP.alloc (.cells #[.int .i64 (1), .int .i64 n] 32)
  have hR0 := hR.alloc (.cells #[.int .i64 (1), .int .i64 n] 32)
  have ho0 : Only (Two b c) w (w.alloc (.cells #[.int .i64 (1), .int .i64 n] 32)) := (Only.refl _ _).alloc _
  obtain ⟨⟨_, _⟩, ⟨_, _⟩, ⟨_, _⟩, _, _⟩ := id hs
  have hd : decide (0 < n) = true := by simpa using hn
  go_enter Try.func10, Try.ntmps10
  go_wp2_with (first
    | (go_at_call 17; (with_reducible refine (got_ok b C M G T U n _ hP0 hs hn hf).mono ?_); rintro e w1 ⟨rfl, ho1, hP1⟩; have hR1 := hR0.kept ho1 hcb; have hA1 := hA.kept ho1 (by unfold One; omega); obtain ⟨c0, c1, c2, c3, c4⟩ := RPa.facts hR1; obtain ⟨f0, f1, f2, f3, f4⟩ := RPa.loose hR1; have g1 : w1.cell? ⟨w.heap.size, 1, none⟩ = some (.int .i64 n) := hA1.cell 1)
    )
  go_quiet (fail)
  go_wp2
  go_region
  all_goals go_wp2
  all_goals
    go_ret
    refine ⟨by first | rfl | simp, ?_, ?_, ?_⟩
    · have h := ho0.trans (ho1.weaken (fun i _ h => .inl h))
      repeat (first | exact h | apply Only.two | apply Only.drew | apply Only.drewN)
    · have h := Blk.far hP1 (p := ⟨c, 3, none⟩) hbc
      repeat (first | exact h _ | apply Blk.drew | apply Blk.drewN)
    · have h := Blk.set hR1 3
      repeat (first | exact h _ | apply Blk.drew | apply Blk.drewN)
set_option maxHeartbeats 4000000 in
theorem do_got_zero0 (b c : Nat) (C M G T U : Int) (w : World) (hbc : b ≠ c) (hP : Pa w b C M G T U) (hR : RPa w c C M G T U) (hs : smallK C G T U) :
    Calls Try.prog 10 #[.pointer (some ⟨b, 0, none⟩), .pointer (some ⟨c, 0, none⟩), .agg #[.int .i64 (0), .int .i64 0]] w (DoAt w b c C M G T U) := by
  have hlb := hP.lt
  have hlc := hR.lt
  have hcb : c ≠ b := fun h => hbc h.symm
  have hA : Blk (w.alloc (.cells #[.int .i64 (0), .int .i64 0] 32)) w.heap.size 32 #[.int .i64 (0), .int .i64 0] := Blk.new _ _ _
  have hP0 := hP.alloc (.cells #[.int .i64 (0), .int .i64 0] 32)
  have hR0 := hR.alloc (.cells #[.int .i64 (0), .int .i64 0] 32)
  have ho0 : Only (Two b c) w (w.alloc (.cells #[.int .i64 (0), .int .i64 0] 32)) := (Only.refl _ _).alloc _
  obtain ⟨⟨_, _⟩, ⟨_, _⟩, ⟨_, _⟩, _, _⟩ := id hs
  have hd : decide ((0 : Int) < 0) = false := by decide
  go_enter Try.func10, Try.ntmps10
  go_wp2_with (first
    | (go_at_call 17; (with_reducible refine (got_zero b C M G T U _ hP0 hs).mono ?_); rintro e w1 ⟨rfl, ho1, hP1⟩; have hR1 := hR0.kept ho1 hcb; have hA1 := hA.kept ho1 (by unfold One; omega); obtain ⟨c0, c1, c2, c3, c4⟩ := RPa.facts hR1; obtain ⟨f0, f1, f2, f3, f4⟩ := RPa.loose hR1; have g1 : w1.cell? ⟨w.heap.size, 1, none⟩ = some (.int .i64 0) := hA1.cell 1)
    )
  go_quiet (fail)
  go_wp2
  go_region
  all_goals go_wp2
  all_goals
    go_ret
    refine ⟨by first | rfl | simp, ?_, ?_, ?_⟩
    · have h := ho0.trans (ho1.weaken (fun i _ h => .inl h))
      repeat (first | exact h | apply Only.two | apply Only.drew | apply Only.drewN)
    · have h := Blk.far hP1 (p := ⟨c, 3, none⟩) hbc
      repeat (first | exact h _ | apply Blk.drew | apply Blk.drewN)
    · have h := Blk.set hR1 3
      repeat (first | exact h _ | apply Blk.drew | apply Blk.drewN)
set_option maxHeartbeats 4000000 in
theorem do_got_zero1 (b c : Nat) (C M G T U : Int) (w : World) (hbc : b ≠ c) (hP : Pa w b C M G T U) (hR : RPa w c C M G T U) (hs : smallK C G T U) :
    Calls Try.prog 10 #[.pointer (some ⟨b, 0, none⟩), .pointer (some ⟨c, 0, none⟩), .agg #[.int .i64 (1), .int .i64 0]] w (DoAt w b c C M G T U) := by
  have hlb := hP.lt
  have hlc := hR.lt
  have hcb : c ≠ b := fun h => hbc h.symm
  have hA : Blk (w.alloc (.cells #[.int .i64 (1), .int .i64 0] 32)) w.heap.size 32 #[.int .i64 (1), .int .i64 0] := Blk.new _ _ _
  have hP0 := hP.alloc (.cells #[.int .i64 (1), .int .i64 0] 32)
  have hR0 := hR.alloc (.cells #[.int .i64 (1), .int .i64 0] 32)
  have ho0 : Only (Two b c) w (w.alloc (.cells #[.int .i64 (1), .int .i64 0] 32)) := (Only.refl _ _).alloc _
  obtain ⟨⟨_, _⟩, ⟨_, _⟩, ⟨_, _⟩, _, _⟩ := id hs
  have hd : decide ((0 : Int) < 0) = false := by decide
  go_enter Try.func10, Try.ntmps10
  go_wp2_with (first
    | (go_at_call 17; (with_reducible refine (got_zero b C M G T U _ hP0 hs).mono ?_); rintro e w1 ⟨rfl, ho1, hP1⟩; have hR1 := hR0.kept ho1 hcb; have hA1 := hA.kept ho1 (by unfold One; omega); obtain ⟨c0, c1, c2, c3, c4⟩ := RPa.facts hR1; obtain ⟨f0, f1, f2, f3, f4⟩ := RPa.loose hR1; have g1 : w1.cell? ⟨w.heap.size, 1, none⟩ = some (.int .i64 0) := hA1.cell 1)
    )
  go_quiet (fail)
  go_wp2
  go_region
  all_goals go_wp2
  all_goals
    go_ret
    refine ⟨by first | rfl | simp, ?_, ?_, ?_⟩
    · have h := ho0.trans (ho1.weaken (fun i _ h => .inl h))
      repeat (first | exact h | apply Only.two | apply Only.drew | apply Only.drewN)
    · have h := Blk.far hP1 (p := ⟨c, 3, none⟩) hbc
      repeat (first | exact h _ | apply Blk.drew | apply Blk.drewN)
    · have h := Blk.set hR1 3
      repeat (first | exact h _ | apply Blk.drew | apply Blk.drewN)
set_option maxHeartbeats 4000000 in
theorem do_resize_bad (b c : Nat) (C M G T U n : Int) (w : World) (hbc : b ≠ c) (hP : Pa w b C M G T U) (hR : RPa w c C M G T U) (hs : smallK C G T U) (hb : ¬ (0 ≤ n ∧ n ≤ 2147483647)) (hq : n < 0 ∨ 2147483647 < n) :
    Calls Try.prog 10 #[.pointer (some ⟨b, 0, none⟩), .pointer (some ⟨c, 0, none⟩), .agg #[.int .i64 (5), .int .i64 n]] w (DoAt w b c C M G T U) := by
  have hlb := hP.lt
  have hlc := hR.lt
  have hcb : c ≠ b := fun h => hbc h.symm
  have hA : Blk (w.alloc (.cells #[.int .i64 (5), .int .i64 n] 32)) w.heap.size 32 #[.int .i64 (5), .int .i64 n] := Blk.new _ _ _
  have hP0 := hP.alloc (.cells #[.int .i64 (5), .int .i64 n] 32)
  have hR0 := hR.alloc (.cells #[.int .i64 (5), .int .i64 n] 32)
  have ho0 : Only (Two b c) w (w.alloc (.cells #[.int .i64 (5), .int .i64 n] 32)) := (Only.refl _ _).alloc _
  rcases hq with hq | hq
  all_goals
   go_enter Try.func10, Try.ntmps10
   go_wp2_with (first
    | (go_at_call 18; (with_reducible refine (resize_bad b C M G T U n _ hP0 hb).mono ?_); rintro e w1 ⟨rfl, ho1, hP1⟩; have hR1 := hR0.kept ho1 hcb; have hA1 := hA.kept ho1 (by unfold One; omega); obtain ⟨c0, c1, c2, c3, c4⟩ := RPa.facts hR1; obtain ⟨f0, f1, f2, f3, f4⟩ := RPa.loose hR1; have g1 : w1.cell? ⟨w.heap.size, 1, none⟩ = some (.int .i64 n) := hA1.cell 1)
    )
   go_ret
   refine ⟨by first | rfl | simp, ?_, ?_, ?_⟩
   · have h := ho0.trans (ho1.weaken (fun i _ h => .inl h))
     first | exact h | exact h.drewN _
   · exact hP1
   · exact hR1
set_option maxHeartbeats 4000000 in
theorem do_resize_ok (b c : Nat) (C M G T U n : Int) (w : World) (hbc : b ≠ c) (hP : Pa w b C M G T U) (hR : RPa w c C M G T U) (hs : smallK C G T U) (h0 : 0 ≤ n) (h1 : n ≤ 2147483647) :
    Calls Try.prog 10 #[.pointer (some ⟨b, 0, none⟩), .pointer (some ⟨c, 0, none⟩), .agg #[.int .i64 (5), .int .i64 n]] w (DoAt w b c n (max M n) (G + (n - C)) T U) := by
  have hlb := hP.lt
  have hlc := hR.lt
  have hcb : c ≠ b := fun h => hbc h.symm
  have hA : Blk (w.alloc (.cells #[.int .i64 (5), .int .i64 n] 32)) w.heap.size 32 #[.int .i64 (5), .int .i64 n] := Blk.new _ _ _
  have hP0 := hP.alloc (.cells #[.int .i64 (5), .int .i64 n] 32)
  have hR0 := hR.alloc (.cells #[.int .i64 (5), .int .i64 n] 32)
  have ho0 : Only (Two b c) w (w.alloc (.cells #[.int .i64 (5), .int .i64 n] 32)) := (Only.refl _ _).alloc _
  go_enter Try.func10, Try.ntmps10
  go_wp2_with (first
    | (go_at_call 18; (with_reducible refine (resize_ok b C M G T U n _ hP0 hs h0 h1).mono ?_); rintro e w1 ⟨rfl, ho1, hP1⟩; have hR1 := hR0.kept ho1 hcb; have hA1 := hA.kept ho1 (by unfold One; omega); obtain ⟨c0, c1, c2, c3, c4⟩ := RPa.facts hR1; obtain ⟨f0, f1, f2, f3, f4⟩ := RPa.loose hR1; have g1 : w1.cell? ⟨w.heap.size, 1, none⟩ = some (.int .i64 n) := hA1.cell 1)
    | (go_at_call 23; (with_reducible refine (RResize_any c C M G T U n _ hR1 hs h0 h1).mono ?_); rintro e w2 ⟨rfl, ho2, hR2⟩; have hP2 := Blk.kept hP1 ho2 hbc)
    )
  go_ret
  refine ⟨by first | rfl | simp, ?_, ?_, ?_⟩
  · exact (ho0.trans (ho1.weaken (fun i _ h => .inl h))).trans (ho2.weaken (fun i _ h => .inr h))
  · exact hP2
  · exact hR2
set_option maxHeartbeats 4000000 in
theorem do_use_arg (b c : Nat) (C M G T U n kd : Int) (w : World) (hbc : b ≠ c) (hP : Pa w b C M G T U) (hR : RPa w c C M G T U) (hs : smallK C G T U) (k0 : (kd == 0) = false) (k1 : (kd == 1) = false) (k4 : (kd == 4) = false) (k5 : (kd == 5) = false) (hn : n < 0) :
    Calls Try.prog 10 #[.pointer (some ⟨b, 0, none⟩), .pointer (some ⟨c, 0, none⟩), .agg #[.int .i64 (kd), .int .i64 n]] w (DoAt w b c C M G T U) := by
  have hlb := hP.lt
  have hlc := hR.lt
  have hcb : c ≠ b := fun h => hbc h.symm
  have hA : Blk (w.alloc (.cells #[.int .i64 (kd), .int .i64 n] 32)) w.heap.size 32 #[.int .i64 (kd), .int .i64 n] := Blk.new _ _ _
  have hP0 := hP.alloc (.cells #[.int .i64 (kd), .int .i64 n] 32)
  have hR0 := hR.alloc (.cells #[.int .i64 (kd), .int .i64 n] 32)
  have ho0 : Only (Two b c) w (w.alloc (.cells #[.int .i64 (kd), .int .i64 n] 32)) := (Only.refl _ _).alloc _
  go_enter Try.func10, Try.ntmps10
  go_wp2_with (first
    | (go_at_call 15; (with_reducible refine (use_arg b C M G T U n _ hP0 hn).mono ?_); rintro e w1 ⟨rfl, ho1, hP1⟩; have hR1 := hR0.kept ho1 hcb; have hA1 := hA.kept ho1 (by unfold One; omega); obtain ⟨c0, c1, c2, c3, c4⟩ := RPa.facts hR1; obtain ⟨f0, f1, f2, f3, f4⟩ := RPa.loose hR1; have g1 : w1.cell? ⟨w.heap.size, 1, none⟩ = some (.int .i64 n) := hA1.cell 1)
    )
  go_ret
  refine ⟨by first | rfl | simp, ?_, ?_, ?_⟩
  · have h := ho0.trans (ho1.weaken (fun i _ h => .inl h))
    first | exact h | exact h.drewN _
  · exact hP1
  · exact hR1
set_option maxHeartbeats 4000000 in
theorem do_use_range (b c : Nat) (C M G T U n kd : Int) (w : World) (hbc : b ≠ c) (hP : Pa w b C M G T U) (hR : RPa w c C M G T U) (hs : smallK C G T U) (k0 : (kd == 0) = false) (k1 : (kd == 1) = false) (k4 : (kd == 4) = false) (k5 : (kd == 5) = false) (hn : ¬ n < 0) (hf : T - U < n) :
    Calls Try.prog 10 #[.pointer (some ⟨b, 0, none⟩), .pointer (some ⟨c, 0, none⟩), .agg #[.int .i64 (kd), .int .i64 n]] w (DoAt w b c C M G T U) := by
  have hlb := hP.lt
  have hlc := hR.lt
  have hcb : c ≠ b := fun h => hbc h.symm
  have hA : Blk (w.alloc (.cells #[.int .i64 (kd), .int .i64 n] 32)) w.heap.size 32 #[.int .i64 (kd), .int .i64 n] := Blk.new _ _ _
  have hP0 := hP.alloc (.cells #[.int .i64 (kd), .int .i64 n] 32)
  have hR0 := hR.alloc (.cells #[.int .i64 (kd), .int .i64 n] 32)
  have ho0 : Only (Two b c) w (w.alloc (.cells #[.int .i64 (kd), .int .i64 n] 32)) := (Only.refl _ _).alloc _
  obtain ⟨⟨_, _⟩, ⟨_, _⟩, ⟨_, _⟩, _, _⟩ := id hs
  go_enter Try.func10, Try.ntmps10
  go_wp2_with (first
    | (go_at_call 15; (with_reducible refine (use_range b C M G T U n _ hP0 hs hn hf).mono ?_); rintro e w1 ⟨rfl, ho1, hP1⟩; have hR1 := hR0.kept ho1 hcb; have hA1 := hA.kept ho1 (by unfold One; omega); obtain ⟨c0, c1, c2, c3, c4⟩ := RPa.facts hR1; obtain ⟨f0, f1, f2, f3, f4⟩ := RPa.loose hR1; have g1 : w1.cell? ⟨w.heap.size, 1, none⟩ = some (.int .i64 n) := hA1.cell 1)
    )
  go_quiet (fail)
  go_wp2
  go_ret
  refine ⟨by first | rfl | simp, ?_, ?_, ?_⟩
  · have h := ho0.trans (ho1.weaken (fun i _ h => .inl h))
    first | exact h | exact h.drewN _
  · exact hP1
  · exact hR1
set_option maxHeartbeats 4000000 in
theorem do_use_ok (b c : Nat) (C M G T U n kd : Int) (w : World) (hbc : b ≠ c) (hP : Pa w b C M G T U) (hR : RPa w c C M G T U) (hs : smallK C G T U) (k0 : (kd == 0) = false) (k1 : (kd == 1) = false) (k4 : (kd == 4) = false) (k5 : (kd == 5) = false) (hn : ¬ n < 0) (hf : n ≤ T - U) :
    Calls Try.prog 10 #[.pointer (some ⟨b, 0, none⟩), .pointer (some ⟨c, 0, none⟩), .agg #[.int .i64 (kd), .int .i64 n]] w (DoAt w b c C M G T (U + n)) := by
  have hlb := hP.lt
  have hlc := hR.lt
  have hcb : c ≠ b := fun h => hbc h.symm
  have hA : Blk (w.alloc (.cells #[.int .i64 (kd), .int .i64 n] 32)) w.heap.size 32 #[.int .i64 (kd), .int .i64 n] := Blk.new _ _ _
  have hP0 := hP.alloc (.cells #[.int .i64 (kd), .int .i64 n] 32)
  have hR0 := hR.alloc (.cells #[.int .i64 (kd), .int .i64 n] 32)
  have ho0 : Only (Two b c) w (w.alloc (.cells #[.int .i64 (kd), .int .i64 n] 32)) := (Only.refl _ _).alloc _
  obtain ⟨⟨_, _⟩, ⟨_, _⟩, ⟨_, _⟩, _, _⟩ := id hs
  go_enter Try.func10, Try.ntmps10
  go_wp2_with (first
    | (go_at_call 15; (with_reducible refine (use_ok b C M G T U n _ hP0 hs hn hf).mono ?_); rintro e w1 ⟨rfl, ho1, hP1⟩; have hR1 := hR0.kept ho1 hcb; have hA1 := hA.kept ho1 (by unfold One; omega); obtain ⟨c0, c1, c2, c3, c4⟩ := RPa.facts hR1; obtain ⟨f0, f1, f2, f3, f4⟩ := RPa.loose hR1; have g1 : w1.cell? ⟨w.heap.size, 1, none⟩ = some (.int .i64 n) := hA1.cell 1)
    )
  go_quiet (fail)
  go_wp2
  go_region
  all_goals go_wp2
  all_goals
    go_ret
    refine ⟨by first | rfl | simp, ?_, ?_, ?_⟩
    · have h := ho0.trans (ho1.weaken (fun i _ h => .inl h))
      repeat (first | exact h | apply Only.two | apply Only.drew | apply Only.drewN)
    · have h := Blk.far hP1 (p := ⟨c, 4, none⟩) hbc
      repeat (first | exact h _ | apply Blk.drew | apply Blk.drewN)
    · have h := Blk.set hR1 4
      repeat (first | exact h _ | apply Blk.drew | apply Blk.drewN)
set_option maxHeartbeats 4000000 in
theorem do_grant (b c : Nat) (C M G T U n : Int) (w : World) (hbc : b ≠ c) (hP : Pa w b C M G T U) (hR : RPa w c C M G T U) (hs : smallK C G T U) :
    Calls Try.prog 10 #[.pointer (some ⟨b, 0, none⟩), .pointer (some ⟨c, 0, none⟩), .agg #[.int .i64 4, .int .i64 n]] w (DoAt w b c C M (G + dueF C G U) T U) := by
  have hlb := hP.lt
  have hlc := hR.lt
  have hcb : c ≠ b := fun h => hbc h.symm
  have hP0 := hP.alloc (.cells #[.int .i64 4, .int .i64 n] 32)
  have hR0 := hR.alloc (.cells #[.int .i64 4, .int .i64 n] 32)
  have ho0 : Only (Two b c) w (w.alloc (.cells #[.int .i64 4, .int .i64 n] 32)) := (Only.refl _ _).alloc _
  have hd := fun (W : World) (h : RPa W c C M G T U) => RDue_any c C M G T U W h hs
  have hg := fun (W : World) (h : Pa W b C M G T U) => Grant_any b C M G T U W h hs
  have hb : -1000000000000 ≤ dueF C G U ∧ dueF C G U ≤ 3000000000000 := by
    unfold smallK at hs
    unfold dueF
    split <;> omega
  obtain ⟨⟨_, _⟩, ⟨_, _⟩, ⟨_, _⟩, _, _⟩ := id hs
  generalize dueF C G U = D at hd hg hb
  obtain ⟨d1, d2⟩ := hb
  go_enter Try.func10, Try.ntmps10
  go_wp2_with (first
    | (go_at_call 22; (with_reducible refine (hd _ hR0).mono ?_); rintro e w1 ⟨rfl, ho1⟩; have hR1 := hR0.kept ho1 (fun hh => hh); have hP1 := hP0.kept ho1 (fun hh => hh); obtain ⟨c0, c1, c2, c3, c4⟩ := RPa.facts hR1; obtain ⟨f0, f1, f2, f3, f4⟩ := RPa.loose hR1; have hP2 := Blk.far hP1 (p := ⟨c, 2, none⟩) hbc (.int .i64 (G + D)); have hR2 := Blk.set hR1 2 (.int .i64 (G + D)))
    | (go_at_call 16; (with_reducible refine (hg _ hP2).mono ?_); rintro e w3 ⟨rfl, ho3, hP3⟩; have hR3 := Blk.kept hR2 ho3 hcb)
    )
  go_ret
  refine ⟨by first | rfl | simp, ?_, ?_, ?_⟩
  · exact ((ho0.trans (ho1.of_nil _)).two _).trans (ho3.weaken (fun i _ h => .inl h))
  · exact hP3
  · exact hR3

def DoPost (w : World) (b c : Nat) (k : Nat) (x : Ending) (w' : World) : Prop :=
  ∃ C M G T U, paOk k C M G T U ∧ x = .returned (.bool true) ∧ Only (Two b c) w w' ∧ Pa w' b C M G T U ∧ RPa w' c C M G T U
theorem do_any (k b c : Nat) (C M G T U kd n : Int) (w : World) (hk : k < 100) (hbc : b ≠ c) (hP : Pa w b C M G T U) (hR : RPa w c C M G T U) (hok : paOk k C M G T U) :
    Calls Try.prog 10 #[.pointer (some ⟨b, 0, none⟩), .pointer (some ⟨c, 0, none⟩), .agg #[.int .i64 kd, .int .i64 n]] w (DoPost w b c (k + 1)) := by
  have hs := hok.small (by omega)
  have up : paOk (k + 1) C M G T U := by unfold paOk at *; omega
  have fin : ∀ C' M' G' T' U', paOk (k + 1) C' M' G' T' U' → ∀ x w', DoAt w b c C' M' G' T' U' x w' → DoPost w b c (k + 1) x w' := fun C' M' G' T' U' h x w' hh => ⟨C', M', G', T', U', h, hh⟩
  by_cases k01 : kd = 0 ∨ kd = 1
  · have hz : n < 0 ∨ n = 0 ∨ (0 < n ∧ G - T < n) ∨ (0 < n ∧ n ≤ G - T) := by omega
    have upo : 0 < n → n ≤ G - T → paOk (k + 1) C M G (T + n) U := by intro h1 h2; unfold paOk at *; omega
    rcases k01 with rfl | rfl
    · rcases hz with h | h | ⟨h1, h2⟩ | ⟨h1, h2⟩
      · exact (do_got_arg0 b c C M G T U n w hbc hP hR hs h).mono (fin _ _ _ _ _ up)
      · subst h
        exact (do_got_zero0 b c C M G T U w hbc hP hR hs).mono (fin _ _ _ _ _ up)
      · exact (do_got_full0 b c C M G T U n w hbc hP hR hs h1 h2).mono (fin _ _ _ _ _ up)
      · exact (do_got_ok0 b c C M G T U n w hbc hP hR hs h1 h2).mono (fin _ _ _ _ _ (upo h1 h2))
    · rcases hz with h | h | ⟨h1, h2⟩ | ⟨h1, h2⟩
      · exact (do_got_arg1 b c C M G T U n w hbc hP hR hs h).mono (fin _ _ _ _ _ up)
      · subst h
        exact (do_got_zero1 b c C M G T U w hbc hP hR hs).mono (fin _ _ _ _ _ up)
      · exact (do_got_full1 b c C M G T U n w hbc hP hR hs h1 h2).mono (fin _ _ _ _ _ up)
      · exact (do_got_ok1 b c C M G T U n w hbc hP hR hs h1 h2).mono (fin _ _ _ _ _ (upo h1 h2))
  by_cases k4 : kd = 4
  · subst k4
    exact (do_grant b c C M G T U n w hbc hP hR hs).mono (fin _ _ _ _ _ (by unfold paOk dueF at *; split <;> omega))
  by_cases k5 : kd = 5
  · subst k5
    by_cases h : 0 ≤ n ∧ n ≤ 2147483647
    · exact (do_resize_ok b c C M G T U n w hbc hP hR hs h.1 h.2).mono (fin _ _ _ _ _ (by unfold paOk at *; omega))
    · exact (do_resize_bad b c C M G T U n w hbc hP hR hs h (by omega)).mono (fin _ _ _ _ _ up)
  have q0 : (kd == 0) = false := by simp; omega
  have q1 : (kd == 1) = false := by simp; omega
  have q4 : (kd == 4) = false := by simp; omega
  have q5 : (kd == 5) = false := by simp; omega
  by_cases h : n < 0
  · exact (do_use_arg b c C M G T U n kd w hbc hP hR hs q0 q1 q4 q5 h).mono (fin _ _ _ _ _ up)
  · by_cases h2 : n ≤ T - U
    · exact (do_use_ok b c C M G T U n kd w hbc hP hR hs q0 q1 q4 q5 h h2).mono (fin _ _ _ _ _ (by unfold paOk at *; omega))
    · exact (do_use_range b c C M G T U n kd w hbc hP hR hs q0 q1 q4 q5 h (by omega)).mono (fin _ _ _ _ _ up)
end Go.Proofs.Ytpbdhdfbkmkopaa
