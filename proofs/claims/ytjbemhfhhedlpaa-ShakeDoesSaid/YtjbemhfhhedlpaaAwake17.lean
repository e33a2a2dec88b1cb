/- What must come at any rate, of shake. -/
import Derived.Test.YtjbemhfhhedlpaaShake3
namespace Go.Proofs.Ytjbemhfhhedlpaa
open Go.RowKit

set_option maxHeartbeats 8000000 in
theorem awake_any (w : World) : Calls Try.prog 6 #[] w fun x w' => x = .returned (.bool true) ∧ Below w.heap.size w w' := by
  have hS : ∀ W b v, Sk W b w.heap.size v ⟨64, 8, 4⟩ ⟨64, 8, 4⟩ [] → Calls Try.prog 8 #[.pointer (some ⟨b, 0, none⟩), .agg #[.int .i64 64, .int .i64 9, .int .i64 4]] W fun x w' => ∃ A cap v', x = .returned (.tuple #[.slice A 1 cap, .int .i64 0]) ∧ Sk w' b w.heap.size v' ⟨64, 8, 4⟩ ⟨64, 9, 4⟩ [⟨64, 9, 4⟩] ∧ Below w.heap.size W w' ∧ Only (Tch b v) W w' ∧ ∀ g, v'.ownBlock = some g → v.ownBlock = some g ∨ W.heap.size ≤ g := fun W b v k => by
    refine (Send_ok W k ⟨64, 9, 4⟩ rfl (by decide)).mono ?_
    rintro x w' ⟨A, cap, v', rfl, _, k', hb, _, h3, h4⟩
    exact ⟨A, cap, v', rfl, k', hb, h3, h4⟩
  have hA : ∀ W b v, Sk W b w.heap.size v ⟨64, 8, 4⟩ ⟨64, 9, 4⟩ [⟨64, 9, 4⟩] → Calls Try.prog 7 #[.pointer (some ⟨b, 0, none⟩)] W fun x w' => ∃ v', x = .returned (.tuple #[stV 64 8 4, stV 64 9 4, .int .i64 0]) ∧ Sk w' b w.heap.size v' ⟨64, 9, 4⟩ ⟨64, 9, 4⟩ [] ∧ Below w.heap.size W w' ∧ Only (Tch b v) W w' ∧ ∀ g, v'.ownBlock = some g → W.heap.size ≤ g := fun W b v k => Ack_ok W ⟨64, 9, 4⟩ [] k (by decide)
  have hN : ∀ W b v, Sk W b w.heap.size v ⟨64, 9, 4⟩ ⟨64, 9, 4⟩ [] → Calls Try.prog 7 #[.pointer (some ⟨b, 0, none⟩)] W fun x w' => x = .returned (.tuple #[stV 0 0 0, stV 0 0 0, .int .i64 1]) ∧ Only Nil W w' := fun W b v k => Ack_none W k
  have hH : ∀ W b v, Sk W b w.heap.size v ⟨64, 9, 4⟩ ⟨64, 9, 4⟩ [] → Calls Try.prog 12 #[.pointer (some ⟨b, 0, none⟩)] W fun x w' => x = .returned (stV 64 9 4) ∧ Only Nil W w' := fun W b v k => Holds_any W k
  have HS := Lib.hid hS
  have HA := Lib.hid hA
  have HN := Lib.hid hN
  have HH := Lib.hid hH
  clear hS hA hN hH
  go_enter Try.func6, Try.ntmps6
  go_wp2_with (first
    | (go_at_call 5; (with_reducible refine (New_any _).mono ?_); rintro e w1 ⟨b, rfl, ho1, k1⟩; have p1 : Sb _ w1.heap.size ⟨64, 9, 4⟩ := Blk.new w1 27 #[.int .i64 64, .int .i64 9, .int .i64 4]; have k1' := k1.kept ((Only.refl Nil w1).alloc (.cells #[.int .i64 64, .int .i64 9, .int .i64 4] 27)); have z1 := k1.blk.lt; have hbe1 := (ho1.alloc (.cells #[.int .i64 64, .int .i64 9, .int .i64 4] 27)).below (Nat.le_refl _) (fun _ _ hh => hh); have s1 := ho1.size)
    | (go_at_call 8; (with_reducible refine (HS.out _ _ _ k1').mono ?_); rintro e w2 ⟨A2, c2, v2, rfl, k2, hb2, ht2, hf2⟩; have p2 : Sb w2 w1.heap.size ⟨64, 9, 4⟩ := Blk.kept p1 ht2 (by rintro (hh | hh); (omega); (simp [Value.ownBlock] at hh)); have hbe2 := hbe1.trans hb2; have s2 := ht2.size; have n2 : ¬ Tch b v2 w1.heap.size := (by rintro (hh | hh); (omega); (rcases hf2 _ hh with h | h; (simp [Value.ownBlock] at h); (exact absurd h (by simp)))))
    | (go_at_call 7; (with_reducible refine (HA.out _ _ _ k2).mono ?_); rintro e w3 ⟨v3, rfl, k3, hb3, ht3, hf3⟩; have p3 : Sb w3 w1.heap.size ⟨64, 9, 4⟩ := Blk.kept p2 ht3 n2; have r3 : Sb _ w3.heap.size ⟨64, 8, 4⟩ := (Blk.new w3 27 #[.int .i64 64, .int .i64 8, .int .i64 4]).alloc (.cells #[.int .i64 64, .int .i64 9, .int .i64 4] 27); have q3 : Sb _ (w3.heap.size + 1) ⟨64, 9, 4⟩ := (by simpa using Blk.new (w3.alloc (.cells #[.int .i64 64, .int .i64 8, .int .i64 4] 27)) 27 #[.int .i64 64, .int .i64 9, .int .i64 4]); have hx3 := ((Only.refl Nil w3).alloc (.cells #[.int .i64 64, .int .i64 8, .int .i64 4] 27)).alloc (.cells #[.int .i64 64, .int .i64 9, .int .i64 4] 27); have k3' := k3.kept hx3; have p3' : Sb _ w1.heap.size ⟨64, 9, 4⟩ := Blk.kept p3 hx3 (fun hh => hh); have hbe3 := (hbe2.trans hb3).trans (hx3.below (B := w.heap.size) (by have := ht3.size; simp at s2; omega) (fun _ _ hh => hh)))
    | (go_at_call 7; have _t := k3'; (with_reducible refine (HN.out _ _ _ k3').mono ?_); rintro e w4 ⟨rfl, ho4⟩)
    )
  have hx4 := (ho4.alloc (.cells #[.int .i64 0, .int .i64 0, .int .i64 0] 27)).alloc (.cells #[.int .i64 0, .int .i64 0, .int .i64 0] 27)
  have r4 : Sb _ _ ⟨64, 8, 4⟩ := Blk.kept r3 hx4 (fun hh => hh)
  have q4 : Sb _ _ ⟨64, 9, 4⟩ := Blk.kept q3 hx4 (fun hh => hh)
  have p4 : Sb _ _ ⟨64, 9, 4⟩ := Blk.kept p3' hx4 (fun hh => hh)
  have k4 := k3'.kept hx4
  have hz4 := hbe3.size
  have hbe4 := hbe3.trans (hx4.below hz4 (fun _ _ hh => hh))
  have r5 := Blk.drew r4
  have q5 := Blk.drew q4
  have p5 := Blk.drew p4
  go_region_held3 (fun w' => (w'.cell? ⟨w3.heap.size, 0, none⟩ = some (.int .i64 64) ∧ w'.cell? ⟨w3.heap.size, 1, none⟩ = some (.int .i64 8) ∧ w'.cell? ⟨w3.heap.size, 2, none⟩ = some (.int .i64 4)) ∧ (w'.cell? ⟨w3.heap.size + 1, 0, none⟩ = some (.int .i64 64) ∧ w'.cell? ⟨w3.heap.size + 1, 1, none⟩ = some (.int .i64 9) ∧ w'.cell? ⟨w3.heap.size + 1, 2, none⟩ = some (.int .i64 4)) ∧ (w'.cell? ⟨w1.heap.size, 0, none⟩ = some (.int .i64 64) ∧ w'.cell? ⟨w1.heap.size, 1, none⟩ = some (.int .i64 9) ∧ w'.cell? ⟨w1.heap.size, 2, none⟩ = some (.int .i64 4))) (first | exact ⟨Sb.facts (q := ⟨64, 8, 4⟩) r7, Sb.facts (q := ⟨64, 9, 4⟩) q7, Sb.facts (q := ⟨64, 9, 4⟩) p7⟩ | exact ⟨Sb.facts (q := ⟨64, 8, 4⟩) r6, Sb.facts (q := ⟨64, 9, 4⟩) q6, Sb.facts (q := ⟨64, 9, 4⟩) p6⟩ | exact ⟨Sb.facts (q := ⟨64, 8, 4⟩) r5, Sb.facts (q := ⟨64, 9, 4⟩) q5, Sb.facts (q := ⟨64, 9, 4⟩) p5⟩) (first
    | (go_at_call 12; (with_reducible refine (HH.out _ _ _ k6).mono ?_); rintro e w7 ⟨rfl, ho7⟩; have r7 : Sb _ _ ⟨64, 8, 4⟩ := Blk.kept r6 ho7 (fun hh => hh); have q7 : Sb _ _ ⟨64, 9, 4⟩ := Blk.kept q6 ho7 (fun hh => hh); have p7 : Sb _ _ ⟨64, 9, 4⟩ := Blk.kept p6 ho7 (fun hh => hh))
    | (go_at_call 16; (with_reducible refine (First_any _).mono ?_); rintro e w6 ⟨rfl, ho6⟩; have r6 : Sb _ _ ⟨64, 8, 4⟩ := Blk.kept r5 ho6 (fun hh => hh); have q6 : Sb _ _ ⟨64, 9, 4⟩ := Blk.kept q5 ho6 (fun hh => hh); have p6 : Sb _ _ ⟨64, 9, 4⟩ := Blk.kept p5 ho6 (fun hh => hh); have k6 := (k4.kept (Only.refl Nil _).drew).kept ho6)
    )
  all_goals
    go_wp2
    go_ret
    exact ⟨rfl, hbe4.drew.trans ((ho6.trans ho7).below hbe4.size (fun _ _ hh => hh))⟩
end Go.Proofs.Ytjbemhfhhedlpaa
