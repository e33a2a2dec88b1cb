/- A call of both. -/
import Derived.Test.YtmlbbjcgcdkffaaDrain2
namespace Go.Proofs.Ytmlbbjcgcdkffaa
open Go.RowKit

def Two (b c : Nat) : Nat → Prop := fun k => k = b ∨ k = c
def DoPost (w : World) (b c : Nat) (O : Int) (x : Ending) (w' : World) : Prop :=
  ∃ S' G' O', x = .returned (.bool true) ∧ Only (Two b c) w w' ∧ Dr w' b S' G' O' ∧ RDr w' c S' G' O' ∧ drOk S' G' O' ∧ (0 ≤ O → O' = O)

set_option maxHeartbeats 4000000 in
theorem do_send (b c : Nat) (S G O n cd : Int) (w : World) (hbc : b ≠ c) (hD : Dr w b S G O) (hR : RDr w c S G O) (e0 : Int) (S' G' O' : Int)
    (hp : ∀ W, Dr W b S G O → Calls Try.prog 17 #[.pointer (some ⟨b, 0, none⟩), .int .i64 n] W (DrPost W b (.int .i64 e0) S' G' O'))
    (hr : ∀ W, RDr W c S G O → Calls Try.prog 19 #[.pointer (some ⟨c, 0, none⟩), .int .i64 n] W (RDrPost W c (.int .i64 e0) S' G' O')) (hok : drOk S' G' O') (hO : 0 ≤ O → O' = O) :
    Calls Try.prog 10 #[.pointer (some ⟨b, 0, none⟩), .pointer (some ⟨c, 0, none⟩), .agg #[.int .i64 (0), .int .i64 n, .int .i64 cd]] w (DoPost w b c O) := by
  have hlb := hD.lt
  have hlc := hR.lt
  have hA : Blk (w.alloc (.cells #[.int .i64 (0), .int .i64 n, .int .i64 cd] 32)) w.heap.size 32 #[.int .i64 (0), .int .i64 n, .int .i64 cd] := Blk.new _ _ _
  have hD0 := hD.alloc (.cells #[.int .i64 (0), .int .i64 n, .int .i64 cd] 32)
  have hR0 := hR.alloc (.cells #[.int .i64 (0), .int .i64 n, .int .i64 cd] 32)
  go_enter Try.func10, Try.ntmps10
  go_wp2
  go_region_held3 (fun w' => w'.cell? ⟨w.heap.size, 1, none⟩ = some (.int .i64 n) ∧ w'.cell? ⟨w.heap.size, 2, none⟩ = some (.int .i64 cd)) (first | exact ⟨hA2.cell 1, hA2.cell 2⟩ | exact ⟨hA1.cell 1, hA1.cell 2⟩ | exact ⟨hA.cell 1, hA.cell 2⟩) (first
    | (go_at_call 17; (with_reducible refine (hp _ hD0.drew).mono ?_); rintro e w1 ⟨rfl, ho1, hD1⟩; have hR1 := hR0.drew.kept ho1 (fun h => hbc h.symm); have hA1 := hA.drew.kept ho1 (by unfold One; omega))
    | (go_at_call 19; (with_reducible refine (hr _ hR1).mono ?_); rintro e w2 ⟨rfl, ho2, hR2⟩; have hD2 := hD1.kept ho2 hbc; have hA2 := hA1.kept ho2 (by unfold One; omega))
    )
  all_goals
    go_wp2
    go_ret
    refine ⟨S', G', O', by first | rfl | simp, ?_, hD2, hR2, hok, hO⟩
    exact (((Only.refl _ _).alloc _).drew.trans (ho1.weaken (fun i _ h => .inl h))).trans (ho2.weaken (fun i _ h => .inr h))
set_option maxHeartbeats 4000000 in
theorem do_got1 (b c : Nat) (S G O n cd : Int) (w : World) (hbc : b ≠ c) (hD : Dr w b S G O) (hR : RDr w c S G O) (e0 : Int) (S' G' O' : Int)
    (hp : ∀ W, Dr W b S G O → Calls Try.prog 16 #[.pointer (some ⟨b, 0, none⟩), .int .i64 n, .int .i64 cd] W (DrPost W b (.int .i64 e0) S' G' O'))
    (hr : ∀ W, RDr W c S G O → Calls Try.prog 20 #[.pointer (some ⟨c, 0, none⟩), .int .i64 n, .int .i64 cd] W (RDrPost W c (.int .i64 e0) S' G' O')) (hok : drOk S' G' O') (hO : 0 ≤ O → O' = O) :
    Calls Try.prog 10 #[.pointer (some ⟨b, 0, none⟩), .pointer (some ⟨c, 0, none⟩), .agg #[.int .i64 (1), .int .i64 n, .int .i64 cd]] w (DoPost w b c O) := by
  have hlb := hD.lt
  have hlc := hR.lt
  have hA : Blk (w.alloc (.cells #[.int .i64 (1), .int .i64 n, .int .i64 cd] 32)) w.heap.size 32 #[.int .i64 (1), .int .i64 n, .int .i64 cd] := Blk.new _ _ _
  have hD0 := hD.alloc (.cells #[.int .i64 (1), .int .i64 n, .int .i64 cd] 32)
  have hR0 := hR.alloc (.cells #[.int .i64 (1), .int .i64 n, .int .i64 cd] 32)
  go_enter Try.func10, Try.ntmps10
  go_wp2
  go_region_held3 (fun w' => w'.cell? ⟨w.heap.size, 1, none⟩ = some (.int .i64 n) ∧ w'.cell? ⟨w.heap.size, 2, none⟩ = some (.int .i64 cd)) (first | exact ⟨hA2.cell 1, hA2.cell 2⟩ | exact ⟨hA1.cell 1, hA1.cell 2⟩ | exact ⟨hA.cell 1, hA.cell 2⟩) (first
    | (go_at_call 16; (with_reducible refine (hp _ hD0.drew).mono ?_); rintro e w1 ⟨rfl, ho1, hD1⟩; have hR1 := hR0.drew.kept ho1 (fun h => hbc h.symm); have hA1 := hA.drew.kept ho1 (by unfold One; omega))
    | (go_at_call 20; (with_reducible refine (hr _ hR1).mono ?_); rintro e w2 ⟨rfl, ho2, hR2⟩; have hD2 := hD1.kept ho2 hbc; have hA2 := hA1.kept ho2 (by unfold One; omega))
    )
  all_goals
    go_wp2
    go_ret
    refine ⟨S', G', O', by first | rfl | simp, ?_, hD2, hR2, hok, hO⟩
    exact (((Only.refl _ _).alloc _).drew.trans (ho1.weaken (fun i _ h => .inl h))).trans (ho2.weaken (fun i _ h => .inr h))
set_option maxHeartbeats 4000000 in
theorem do_got2 (b c : Nat) (S G O n cd : Int) (w : World) (hbc : b ≠ c) (hD : Dr w b S G O) (hR : RDr w c S G O) (e0 : Int) (S' G' O' : Int)
    (hp : ∀ W, Dr W b S G O → Calls Try.prog 16 #[.pointer (some ⟨b, 0, none⟩), .int .i64 n, .int .i64 cd] W (DrPost W b (.int .i64 e0) S' G' O'))
    (hr : ∀ W, RDr W c S G O → Calls Try.prog 20 #[.pointer (some ⟨c, 0, none⟩), .int .i64 n, .int .i64 cd] W (RDrPost W c (.int .i64 e0) S' G' O')) (hok : drOk S' G' O') (hO : 0 ≤ O → O' = O) :
    Calls Try.prog 10 #[.pointer (some ⟨b, 0, none⟩), .pointer (some ⟨c, 0, none⟩), .agg #[.int .i64 (2), .int .i64 n, .int .i64 cd]] w (DoPost w b c O) := by
  have hlb := hD.lt
  have hlc := hR.lt
  have hA : Blk (w.alloc (.cells #[.int .i64 (2), .int .i64 n, .int .i64 cd] 32)) w.heap.size 32 #[.int .i64 (2), .int .i64 n, .int .i64 cd] := Blk.new _ _ _
  have hD0 := hD.alloc (.cells #[.int .i64 (2), .int .i64 n, .int .i64 cd] 32)
  have hR0 := hR.alloc (.cells #[.int .i64 (2), .int .i64 n, .int .i64 cd] 32)
  go_enter Try.func10, Try.ntmps10
  go_wp2
  go_region_held3 (fun w' => w'.cell? ⟨w.heap.size, 1, none⟩ = some (.int .i64 n) ∧ w'.cell? ⟨w.heap.size, 2, none⟩ = some (.int .i64 cd)) (first | exact ⟨hA2.cell 1, hA2.cell 2⟩ | exact ⟨hA1.cell 1, hA1.cell 2⟩ | exact ⟨hA.cell 1, hA.cell 2⟩) (first
    | (go_at_call 16; (with_reducible refine (hp _ hD0.drew).mono ?_); rintro e w1 ⟨rfl, ho1, hD1⟩; have hR1 := hR0.drew.kept ho1 (fun h => hbc h.symm); have hA1 := hA.drew.kept ho1 (by unfold One; omega))
    | (go_at_call 20; (with_reducible refine (hr _ hR1).mono ?_); rintro e w2 ⟨rfl, ho2, hR2⟩; have hD2 := hD1.kept ho2 hbc; have hA2 := hA1.kept ho2 (by unfold One; omega))
    )
  all_goals
    go_wp2
    go_ret
    refine ⟨S', G', O', by first | rfl | simp, ?_, hD2, hR2, hok, hO⟩
    exact (((Only.refl _ _).alloc _).drew.trans (ho1.weaken (fun i _ h => .inl h))).trans (ho2.weaken (fun i _ h => .inr h))
set_option maxHeartbeats 4000000 in
theorem do_fail (b c : Nat) (S G O n cd : Int) (w : World) (hbc : b ≠ c) (hD : Dr w b S G O) (hR : RDr w c S G O) (e0 : Int) (S' G' O' : Int)
    (hp : ∀ W, Dr W b S G O → Calls Try.prog 18 #[.pointer (some ⟨b, 0, none⟩), .int .i64 cd] W (DrPost W b (.int .i64 e0) S' G' O'))
    (hr : ∀ W, RDr W c S G O → Calls Try.prog 21 #[.pointer (some ⟨c, 0, none⟩), .int .i64 cd] W (RDrPost W c (.int .i64 e0) S' G' O')) (hok : drOk S' G' O') (hO : 0 ≤ O → O' = O) :
    Calls Try.prog 10 #[.pointer (some ⟨b, 0, none⟩), .pointer (some ⟨c, 0, none⟩), .agg #[.int .i64 (3), .int .i64 n, .int .i64 cd]] w (DoPost w b c O) := by
  have hlb := hD.lt
  have hlc := hR.lt
  have hA : Blk (w.alloc (.cells #[.int .i64 (3), .int .i64 n, .int .i64 cd] 32)) w.heap.size 32 #[.int .i64 (3), .int .i64 n, .int .i64 cd] := Blk.new _ _ _
  have hD0 := hD.alloc (.cells #[.int .i64 (3), .int .i64 n, .int .i64 cd] 32)
  have hR0 := hR.alloc (.cells #[.int .i64 (3), .int .i64 n, .int .i64 cd] 32)
  go_enter Try.func10, Try.ntmps10
  go_wp2
  go_region_held3 (fun w' => w'.cell? ⟨w.heap.size, 1, none⟩ = some (.int .i64 n) ∧ w'.cell? ⟨w.heap.size, 2, none⟩ = some (.int .i64 cd)) (first | exact ⟨hA2.cell 1, hA2.cell 2⟩ | exact ⟨hA1.cell 1, hA1.cell 2⟩ | exact ⟨hA.cell 1, hA.cell 2⟩) (first
    | (go_at_call 18; (with_reducible refine (hp _ hD0.drew).mono ?_); rintro e w1 ⟨rfl, ho1, hD1⟩; have hR1 := hR0.drew.kept ho1 (fun h => hbc h.symm); have hA1 := hA.drew.kept ho1 (by unfold One; omega))
    | (go_at_call 21; (with_reducible refine (hr _ hR1).mono ?_); rintro e w2 ⟨rfl, ho2, hR2⟩; have hD2 := hD1.kept ho2 hbc; have hA2 := hA1.kept ho2 (by unfold One; omega))
    )
  all_goals
    go_wp2
    go_ret
    refine ⟨S', G', O', by first | rfl | simp, ?_, hD2, hR2, hok, hO⟩
    exact (((Only.refl _ _).alloc _).drew.trans (ho1.weaken (fun i _ h => .inl h))).trans (ho2.weaken (fun i _ h => .inr h))
set_option maxHeartbeats 4000000 in
theorem do_step (b c : Nat) (S G O n cd kd : Int) (w : World) (hbc : b ≠ c) (hD : Dr w b S G O) (hR : RDr w c S G O) (r : Bool) (S' G' O' : Int) (k0 : (kd == 0) = false) (k1 : (kd == 1) = false) (k2 : (kd == 2) = false) (k3 : (kd == 3) = false)
    (hp : ∀ W, Dr W b S G O → Calls Try.prog 15 #[.pointer (some ⟨b, 0, none⟩), .int .i64 n] W (DrPost W b (.bool r) S' G' O'))
    (hr : ∀ W, RDr W c S G O → Calls Try.prog 22 #[.pointer (some ⟨c, 0, none⟩), .int .i64 n] W (RDrPost W c (.bool r) S' G' O')) (hok : drOk S' G' O') (hO : 0 ≤ O → O' = O) :
    Calls Try.prog 10 #[.pointer (some ⟨b, 0, none⟩), .pointer (some ⟨c, 0, none⟩), .agg #[.int .i64 (kd), .int .i64 n, .int .i64 cd]] w (DoPost w b c O) := by
  have hlb := hD.lt
  have hlc := hR.lt
  have hA : Blk (w.alloc (.cells #[.int .i64 (kd), .int .i64 n, .int .i64 cd] 32)) w.heap.size 32 #[.int .i64 (kd), .int .i64 n, .int .i64 cd] := Blk.new _ _ _
  have hD0 := hD.alloc (.cells #[.int .i64 (kd), .int .i64 n, .int .i64 cd] 32)
  have hR0 := hR.alloc (.cells #[.int .i64 (kd), .int .i64 n, .int .i64 cd] 32)
  go_enter Try.func10, Try.ntmps10
  go_wp2
  go_region_held3 (fun w' => w'.cell? ⟨w.heap.size, 1, none⟩ = some (.int .i64 n) ∧ w'.cell? ⟨w.heap.size, 2, none⟩ = some (.int .i64 cd)) (first | exact ⟨hA2.cell 1, hA2.cell 2⟩ | exact ⟨hA1.cell 1, hA1.cell 2⟩ | exact ⟨hA.cell 1, hA.cell 2⟩) (first
    | (go_at_call 15; (with_reducible refine (hp _ hD0.drew).mono ?_); rintro e w1 ⟨rfl, ho1, hD1⟩; have hR1 := hR0.drew.kept ho1 (fun h => hbc h.symm); have hA1 := hA.drew.kept ho1 (by unfold One; omega))
    | (go_at_call 22; (with_reducible refine (hr _ hR1).mono ?_); rintro e w2 ⟨rfl, ho2, hR2⟩; have hD2 := hD1.kept ho2 hbc; have hA2 := hA1.kept ho2 (by unfold One; omega))
    )
  all_goals
    go_wp2
    go_ret
    refine ⟨S', G', O', by first | rfl | simp, ?_, hD2, hR2, hok, hO⟩
    exact (((Only.refl _ _).alloc _).drew.trans (ho1.weaken (fun i _ h => .inl h))).trans (ho2.weaken (fun i _ h => .inr h))

theorem do_any (b c : Nat) (S G O kd n cd : Int) (w : World) (hbc : b ≠ c) (hD : Dr w b S G O) (hR : RDr w c S G O) (hok : drOk S G O) :
    Calls Try.prog 10 #[.pointer (some ⟨b, 0, none⟩), .pointer (some ⟨c, 0, none⟩), .agg #[.int .i64 kd, .int .i64 n, .int .i64 cd]] w (DoPost w b c O) := by
  obtain ⟨⟨s1, s2⟩, ⟨g1, g2⟩, o1, o2⟩ := id hok
  by_cases hO : 0 ≤ O
  · have hO' : decide (0 ≤ O) = true := by simpa using hO
    by_cases k0 : kd = 0
    · subst k0
      exact do_send b c S G O n cd w hbc hD hR 14 S G O (fun W h => send_closed b S G O n W h hO') (fun W h => rsend_closed c S G O n W h hO') hok (fun _ => rfl)
    by_cases k1 : kd = 1
    · subst k1
      exact do_got1 b c S G O n cd w hbc hD hR 14 S G O (fun W h => got_closed b S G O n cd W h hO') (fun W h => rgot_closed c S G O n cd W h hO') hok (fun _ => rfl)
    by_cases k2 : kd = 2
    · subst k2
      exact do_got2 b c S G O n cd w hbc hD hR 14 S G O (fun W h => got_closed b S G O n cd W h hO') (fun W h => rgot_closed c S G O n cd W h hO') hok (fun _ => rfl)
    by_cases k3 : kd = 3
    · subst k3
      exact do_fail b c S G O n cd w hbc hD hR 14 S G O (fun W h => fail_closed b S G O cd W h hO') (fun W h => rfail_closed c S G O cd W h hO') hok (fun _ => rfl)
    exact do_step b c S G O n cd kd w hbc hD hR true S G O (by simpa using k0) (by simpa using k1) (by simpa using k2) (by simpa using k3) (fun W h => step_over b S G O n W h hO') (fun W h => rstep_over c S G O n W h hO') hok (fun _ => rfl)
  · have hO' : decide (0 ≤ O) = false := by simpa using hO
    have gotcase : ∃ (e0 S' G' O' : Int), (∀ W, Dr W b S G O → Calls Try.prog 16 #[.pointer (some ⟨b, 0, none⟩), .int .i64 n, .int .i64 cd] W (DrPost W b (.int .i64 e0) S' G' O')) ∧
        (∀ W, RDr W c S G O → Calls Try.prog 20 #[.pointer (some ⟨c, 0, none⟩), .int .i64 n, .int .i64 cd] W (RDrPost W c (.int .i64 e0) S' G' O')) ∧ drOk S' G' O' := by
      cases hn : mayB n
      · exact ⟨2, S, G, O, fun W h => got_arg1 b S G O n cd W h hO' hn, fun W h => rgot_arg1 c S G O n cd W h hO' hn, hok⟩
      · cases hc : mayB cd
        · exact ⟨2, S, G, O, fun W h => got_arg2 b S G O n cd W h hO' hn hc, fun W h => rgot_arg2 c S G O n cd W h hO' hn hc, hok⟩
        · obtain ⟨n1, n2⟩ := mayB_yes hn
          obtain ⟨m1, m2⟩ := mayB_yes hc
          cases hz : (cd != 0)
          · by_cases hG : 0 ≤ G
            · have hG' : decide (0 ≤ G) = true := by simpa using hG
              by_cases hl : G ≤ n
              · exact ⟨11, S, G, O, fun W h => got_state b S G O n cd W h hO' hn hc hz hG' hl, fun W h => rgot_state c S G O n cd W h hO' hn hc hz hG' hl, hok⟩
              · exact ⟨0, S, n, O, fun W h => got_ok1 b S G O n cd W h hO' hn hc hz hG' hl, fun W h => rgot_ok1 c S G O n cd W h hO' hn hc hz hG' hl, ⟨⟨s1, s2⟩, ⟨by omega, n2⟩, o1, o2⟩⟩
            · have hG' : decide (0 ≤ G) = false := by simpa using hG
              exact ⟨0, S, n, O, fun W h => got_ok2 b S G O n cd W h hO' hn hc hz hG', fun W h => rgot_ok2 c S G O n cd W h hO' hn hc hz hG', ⟨⟨s1, s2⟩, ⟨by omega, n2⟩, o1, o2⟩⟩
          · exact ⟨0, S, G, cd, fun W h => got_code b S G O n cd W h hO' hn hc hz, fun W h => rgot_code c S G O n cd W h hO' hn hc hz, ⟨⟨s1, s2⟩, ⟨g1, g2⟩, by omega, m2⟩⟩
    by_cases k0 : kd = 0
    · subst k0
      cases hn : mayB n
      · exact do_send b c S G O n cd w hbc hD hR 2 S G O (fun W h => send_arg b S G O n W h hO' hn) (fun W h => rsend_arg c S G O n W h hO' hn) hok (fun _ => rfl)
      · obtain ⟨n1, n2⟩ := mayB_yes hn
        by_cases hS : 0 ≤ S
        · have hS' : decide (0 ≤ S) = true := by simpa using hS
          exact do_send b c S G O n cd w hbc hD hR 11 S G O (fun W h => send_state b S G O n W h hO' hn hS') (fun W h => rsend_state c S G O n W h hO' hn hS') hok (fun _ => rfl)
        · have hS' : decide (0 ≤ S) = false := by simpa using hS
          exact do_send b c S G O n cd w hbc hD hR 0 n G O (fun W h => send_ok b S G O n W h hO' hn hS') (fun W h => rsend_ok c S G O n W h hO' hn hS') ⟨⟨by omega, n2⟩, ⟨g1, g2⟩, o1, o2⟩ (fun _ => rfl)
    by_cases k1 : kd = 1
    · subst k1
      obtain ⟨e0, S', G', O', p1, p2, p3⟩ := gotcase
      exact do_got1 b c S G O n cd w hbc hD hR e0 S' G' O' p1 p2 p3 (fun h => absurd h hO)
    by_cases k2 : kd = 2
    · subst k2
      obtain ⟨e0, S', G', O', p1, p2, p3⟩ := gotcase
      exact do_got2 b c S G O n cd w hbc hD hR e0 S' G' O' p1 p2 p3 (fun h => absurd h hO)
    by_cases k3 : kd = 3
    · subst k3
      cases hn : mayB cd
      · exact do_fail b c S G O n cd w hbc hD hR 2 S G O (fun W h => fail_arg1 b S G O cd W h hO' hn) (fun W h => rfail_arg1 c S G O cd W h hO' hn) hok (fun _ => rfl)
      · obtain ⟨n1, n2⟩ := mayB_yes hn
        cases hz : (cd == 0)
        · exact do_fail b c S G O n cd w hbc hD hR 0 S G cd (fun W h => fail_ok b S G O cd W h hO' hn hz) (fun W h => rfail_ok c S G O cd W h hO' hn hz) ⟨⟨s1, s2⟩, ⟨g1, g2⟩, by omega, n2⟩ (fun h => absurd h hO)
        · exact do_fail b c S G O n cd w hbc hD hR 2 S G O (fun W h => fail_arg2 b S G O cd W h hO' hn hz) (fun W h => rfail_arg2 c S G O cd W h hO' hn hz) hok (fun _ => rfl)
    cases hr : ((decide (0 ≤ S) || decide (0 ≤ G)) && decide (n ≤ 0))
    · exact do_step b c S G O n cd kd w hbc hD hR false S G O (by simpa using k0) (by simpa using k1) (by simpa using k2) (by simpa using k3) (fun W h => step_no b S G O n W h hO' hr) (fun W h => rstep_no c S G O n W h hO' hr) hok (fun _ => rfl)
    · exact do_step b c S G O n cd kd w hbc hD hR true S G 0 (by simpa using k0) (by simpa using k1) (by simpa using k2) (by simpa using k3) (fun W h => step_end b S G O n W h hO' hr) (fun W h => rstep_end c S G O n W h hO' hr) ⟨⟨s1, s2⟩, ⟨g1, g2⟩, by omega, by omega⟩ (fun h => absurd h hO)
end Go.Proofs.Ytmlbbjcgcdkffaa
