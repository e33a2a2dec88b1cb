/- A step of a beat, and an answer. -/
import Derived.Test.YtjepehgmldgnlaaBeat
namespace Go.Proofs.Ytjepehgmldgnlaa
open Go.RowKit

set_option maxHeartbeats 2000000 in
theorem Step_lost (b : Nat) (t every wait now heard since count : Int) (out : Bool) (w : World) (hT : Bt w b ⟨every, wait, now, heard, out, true, since, count⟩) (hn : now ≤ t) (he : 1 ≤ every) :
    Calls Try.prog 7 #[.pointer (some ⟨b, 0, none⟩), .int .i64 t] w (StPost w b 2 noS ⟨every, wait, t, heard, out, true, since, count⟩) := by
  obtain ⟨c0, c1, c2, c3, c4, c5, c6, c7⟩ := hT.facts
  dsimp only at c0
  go_enter Try.func7, Try.ntmps7
  go_wp2_with (first
    | (go_at_call 13; (with_reducible refine (at_any b t _ _ hT hn).mono ?_); rintro e w1 ⟨rfl, ho1, hB1⟩; obtain ⟨c0, c1, c2, c3, c4, c5, c6, c7⟩ := Bt.facts hB1; obtain ⟨f2, f3, f4, f5, f6, f7⟩ := Bt.loose hB1; dsimp only at c0 c1 c2 c3 c4 c5 c6 c7)
    )
  go_ret2
  exact ⟨rfl, ho1, hB1⟩
set_option maxHeartbeats 4000000 in
theorem Step_wait (b : Nat) (t every wait now heard since count : Int) (r : Bool) (w : World) (hT : Bt w b ⟨every, wait, now, heard, true, false, since, count⟩) (hn : now ≤ t) (he : 1 ≤ every) (t0 : 0 ≤ t) (t1 : t ≤ 1000000) (s0 : 0 ≤ since) (s1 : since ≤ 1000000) (hr : decide (wait ≤ t - since) = r) (K : Int) (hK : Hid (K = if r then 2 else 0)) :
    Calls Try.prog 7 #[.pointer (some ⟨b, 0, none⟩), .int .i64 t] w (StPost w b K noS ⟨every, wait, t, heard, true, r, since, count⟩) := by
  obtain ⟨c0, c1, c2, c3, c4, c5, c6, c7⟩ := hT.facts
  dsimp only at c0
  have ha : ∀ (g g2 : Nat) (W : World), Blk W g 25 #[.pointer (some ⟨b, 0, none⟩)] → Blk W g2 3 #[.int .i64 since] → Bt W b ⟨every, wait, t, heard, true, false, since, count⟩ → Calls Try.prog 16 #[.int .i64 wait, .pointer (some ⟨g, 0, none⟩), .pointer (some ⟨g2, 0, none⟩)] W fun x w' => x = .returned (.bool r) ∧ Only Nil W w' := by
    intro g g2 W hg hg2 h
    rw [← hr]
    exact ago1_any g g2 b since wait _ W hg hg2 h t0 t1 s0 s1
  have HA := Lib.hid ha
  clear ha hr
  go_enter Try.func7, Try.ntmps7
  go_wp2_with (first
    | (go_at_call 13; (with_reducible refine (at_any b t _ _ hT hn).mono ?_); rintro e w1 ⟨rfl, ho1, hB1⟩; obtain ⟨c0, c1, c2, c3, c4, c5, c6, c7⟩ := Bt.facts hB1; obtain ⟨f2, f3, f4, f5, f6, f7⟩ := Bt.loose hB1; dsimp only at c0 c1 c2 c3 c4 c5 c6 c7)
    )
  go_region_with (first
    | (go_at_call 14; (with_reducible refine (ago_any b since _).mono ?_); rintro e w2 ⟨g, g2, rfl, ho2, hG, hG2⟩; have hB2 := (Blk.drew hB1).kept ho2 (fun hh => hh); obtain ⟨c0, c1, c2, c3, c4, c5, c6, c7⟩ := Bt.facts (q := ⟨every, wait, t, heard, true, false, since, count⟩) hB2; obtain ⟨f2, f3, f4, f5, f6, f7⟩ := Bt.loose (q := ⟨every, wait, t, heard, true, false, since, count⟩) hB2)
    | (go_at_call 16; (with_reducible refine (HA.out g g2 _ hG hG2 hB2).mono ?_); rintro e w3 ⟨rfl, ho3⟩; have hB3 := hB2.kept ho3 (fun hh => hh); obtain ⟨c0, c1, c2, c3, c4, c5, c6, c7⟩ := Bt.facts (q := ⟨every, wait, t, heard, true, false, since, count⟩) hB3; obtain ⟨f2, f3, f4, f5, f6, f7⟩ := Bt.loose (q := ⟨every, wait, t, heard, true, false, since, count⟩) hB3)
    )
  all_goals
    cases r
    · obtain rfl : K = 0 := hK.out
      go_wp2
      go_ret2
      exact ⟨rfl, (((ho1.drew.trans (ho2.of_nil _)).trans (ho3.of_nil _)).set1 5 _), Blk.set hB3 5 _⟩
    · obtain rfl : K = 2 := hK.out
      go_wp2
      go_ret2
      exact ⟨rfl, (((ho1.drew.trans (ho2.of_nil _)).trans (ho3.of_nil _)).set1 5 _), Blk.set hB3 5 _⟩
set_option maxHeartbeats 4000000 in
theorem Step_none (b : Nat) (t every wait now heard since count : Int) (w : World) (hT : Bt w b ⟨every, wait, now, heard, false, false, since, count⟩) (hn : now ≤ t) (he : 1 ≤ every) (t0 : 0 ≤ t) (t1 : t ≤ 1000000) (s0 : 0 ≤ heard) (s1 : heard ≤ 1000000) (hr : t - heard < every) :
    Calls Try.prog 7 #[.pointer (some ⟨b, 0, none⟩), .int .i64 t] w (StPost w b 0 noS ⟨every, wait, t, heard, false, false, since, count⟩) := by
  obtain ⟨c0, c1, c2, c3, c4, c5, c6, c7⟩ := hT.facts
  dsimp only at c0
  have ha : ∀ (g g2 : Nat) (W : World), Blk W g 25 #[.pointer (some ⟨b, 0, none⟩)] → Blk W g2 3 #[.int .i64 heard] → Bt W b ⟨every, wait, t, heard, false, false, since, count⟩ → Calls Try.prog 16 #[.int .i64 every, .pointer (some ⟨g, 0, none⟩), .pointer (some ⟨g2, 0, none⟩)] W fun x w' => x = .returned (.bool false) ∧ Only Nil W w' := by
    intro g g2 W hg hg2 h
    have hd : decide (every ≤ t - heard) = false := by simp; omega
    rw [← hd]
    exact ago1_any g g2 b heard every _ W hg hg2 h t0 t1 s0 s1
  have HA := Lib.hid ha
  clear ha hr
  go_enter Try.func7, Try.ntmps7
  go_wp2_with (first
    | (go_at_call 13; (with_reducible refine (at_any b t _ _ hT hn).mono ?_); rintro e w1 ⟨rfl, ho1, hB1⟩; obtain ⟨c0, c1, c2, c3, c4, c5, c6, c7⟩ := Bt.facts hB1; obtain ⟨f2, f3, f4, f5, f6, f7⟩ := Bt.loose hB1; dsimp only at c0 c1 c2 c3 c4 c5 c6 c7)
    )
  go_region_with (first
    | (go_at_call 14; (with_reducible refine (ago_any b heard _).mono ?_); rintro e w2 ⟨g, g2, rfl, ho2, hG, hG2⟩; have hB2 := (Blk.drew hB1).kept ho2 (fun hh => hh); obtain ⟨c0, c1, c2, c3, c4, c5, c6, c7⟩ := Bt.facts (q := ⟨every, wait, t, heard, false, false, since, count⟩) hB2)
    | (go_at_call 16; (with_reducible refine (HA.out g g2 _ hG hG2 hB2).mono ?_); rintro e w3 ⟨rfl, ho3⟩; have hB3 := hB2.kept ho3 (fun hh => hh))
    )
  all_goals
    go_wp2
    go_ret2
    exact ⟨rfl, ((ho1.drew.trans (ho2.of_nil _)).trans (ho3.of_nil _)), hB3⟩
set_option maxHeartbeats 4000000 in
theorem Step_ping (b : Nat) (t every wait now heard since count : Int) (w : World) (hT : Bt w b ⟨every, wait, now, heard, false, false, since, count⟩) (hn : now ≤ t) (he : 1 ≤ every) (t0 : 0 ≤ t) (t1 : t ≤ 1000000) (s0 : 0 ≤ heard) (s1 : heard ≤ 1000000) (hr : every ≤ t - heard) (k0 : 0 ≤ count) (k1 : count ≤ 1000) :
    Calls Try.prog 7 #[.pointer (some ⟨b, 0, none⟩), .int .i64 t] w (StPost w b 1 (dataB (count + 1)) ⟨every, wait, t, heard, true, false, t, count + 1⟩) := by
  obtain ⟨c0, c1, c2, c3, c4, c5, c6, c7⟩ := hT.facts
  dsimp only at c0
  have ha : ∀ (g g2 : Nat) (W : World), Blk W g 25 #[.pointer (some ⟨b, 0, none⟩)] → Blk W g2 3 #[.int .i64 heard] → Bt W b ⟨every, wait, t, heard, false, false, since, count⟩ → Calls Try.prog 16 #[.int .i64 every, .pointer (some ⟨g, 0, none⟩), .pointer (some ⟨g2, 0, none⟩)] W fun x w' => x = .returned (.bool true) ∧ Only Nil W w' := by
    intro g g2 W hg hg2 h
    have hd : decide (every ≤ t - heard) = true := by simp; omega
    rw [← hd]
    exact ago1_any g g2 b heard every _ W hg hg2 h t0 t1 s0 s1
  have HA := Lib.hid ha
  clear ha hr
  go_enter Try.func7, Try.ntmps7
  go_wp2_with (first
    | (go_at_call 13; (with_reducible refine (at_any b t _ _ hT hn).mono ?_); rintro e w1 ⟨rfl, ho1, hB1⟩; obtain ⟨c0, c1, c2, c3, c4, c5, c6, c7⟩ := Bt.facts hB1; obtain ⟨f2, f3, f4, f5, f6, f7⟩ := Bt.loose hB1; dsimp only at c0 c1 c2 c3 c4 c5 c6 c7)
    )
  go_region_with (first
    | (go_at_call 14; (with_reducible refine (ago_any b heard _).mono ?_); rintro e w2 ⟨g, g2, rfl, ho2, hG, hG2⟩; have hB2 := (Blk.drew hB1).kept ho2 (fun hh => hh); obtain ⟨c0, c1, c2, c3, c4, c5, c6, c7⟩ := Bt.facts (q := ⟨every, wait, t, heard, false, false, since, count⟩) hB2)
    | (go_at_call 16; (with_reducible refine (HA.out g g2 _ hG hG2 hB2).mono ?_); rintro e w3 ⟨rfl, ho3⟩; have hB3 := hB2.kept ho3 (fun hh => hh); obtain ⟨c0, c1, c2, c3, c4, c5, c6, c7⟩ := Bt.facts (q := ⟨every, wait, t, heard, false, false, since, count⟩) hB3; obtain ⟨f2, f3, f4, f5, f6, f7⟩ := Bt.loose (q := ⟨every, wait, t, heard, false, false, since, count⟩) hB3; dsimp only at c0 c1 c2 c3 c4 c5 c6 c7)
    )
  all_goals
    go_wp2_with (first
      | (go_at_call 15; (with_reducible refine (laid_any (count + 1) _ (by omega) (by omega)).mono ?_); rintro e w4 ⟨rfl, ho4⟩)
      )
    go_ret2
    have hB4 : Bt _ b ⟨every, wait, t, heard, true, false, t, count + 1⟩ := Blk.set (Blk.set (Blk.set hB3 4 (.bool true)) 6 (.int .i64 t)) 7 (.int .i64 (count + 1))
    exact ⟨rfl, (((((ho1.drew.trans (ho2.of_nil _)).trans (ho3.of_nil _)).set1 4 _).set1 6 _).set1 7 _).trans (ho4.of_nil _), hB4.kept ho4 (fun hh => hh)⟩
theorem Pong_yes (b : Nat) (t every wait now heard since count : Int) (w : World) (hT : Bt w b ⟨every, wait, now, heard, true, false, since, count⟩) (hn : now ≤ t) (k0 : 0 ≤ count) (k1 : count ≤ 1000000) :
    Calls Try.prog 8 #[.pointer (some ⟨b, 0, none⟩), .int .i64 t, .string (dataB count)] w (BtPost w b (.bool true) ⟨every, wait, t, t, false, false, since, count⟩) := by
  obtain ⟨c0, c1, c2, c3, c4, c5, c6, c7⟩ := hT.facts
  dsimp only at c4 c7
  have hd := fun (W : World) => laid_any count W k0 k1
  generalize dataB count = S at hd
  go_enter Try.func8, Try.ntmps8
  go_wp2_with (first
    | (go_at_call 15; (with_reducible refine (hd _).mono ?_); rintro e w1 ⟨rfl, ho1⟩; have hB1 := Blk.kept hT ho1 (fun hh => hh); obtain ⟨f2, f3, f4, f5, f6, f7⟩ := Bt.loose (q := ⟨every, wait, now, heard, true, false, since, count⟩) hB1; have d4 := hB1.cell 4; have hB2 : Bt (w1.setCell ⟨b, 4, none⟩ (.bool false)) b ⟨every, wait, now, heard, false, false, since, count⟩ := Blk.set hB1 4 _)
    | (go_at_call 10; (with_reducible refine (Heard_any b t _ _ hB2 hn).mono ?_); rintro e w3 ⟨rfl, ho3, hB3⟩)
    )
  go_ret
  exact ⟨rfl, ((ho1.of_nil (One b)).set1 4 _).trans ho3, hB3⟩
set_option maxHeartbeats 2000000 in
theorem awake_any (w : World) : Calls Try.prog 6 #[] w fun x w' => x = .returned (.bool true) ∧ Only Nil w w' := by
  have hS : dataB (0 + 1) = ⟨#[0, 0, 0, 0, 0, 0, 0, 1]⟩ := rfl
  have hp := fun (b : Nat) (W : World) (h : Bt W b ⟨5, 3, 4, 0, false, false, 0, 0⟩) => Step_ping b 5 5 3 4 0 0 0 W h (by decide) (by decide) (by decide) (by decide) (by decide) (by decide) (by decide) (by decide) (by decide)
  rw [hS] at hp
  clear hS
  go_enter Try.func6, Try.ntmps6
  go_wp2_with (first
    | (go_at_call 5; (with_reducible refine (New_any 5 3 _ (by decide) (by decide) (by decide) (by decide)).mono ?_); rintro e w1 ⟨b, rfl, hb, ho1, h1⟩)
    | (go_at_call 7; (with_reducible refine (Step_none b 4 5 3 0 0 0 0 _ h1 (by decide) (by decide) (by decide) (by decide) (by decide) (by decide) (by decide)).mono ?_); rintro e w2 ⟨rfl, ho2, h2⟩)
    | (go_at_call 7; (with_reducible refine (hp b _ h2).mono ?_); rintro e w3 ⟨rfl, ho3, h3⟩)
    | (go_at_call 7; (with_reducible refine (Step_wait b 7 5 3 5 0 5 (0 + 1) false _ h3 (by decide) (by decide) (by decide) (by decide) (by decide) (by decide) (by decide) 0 (Lib.hid rfl)).mono ?_); rintro e w4 ⟨rfl, ho4, h4⟩)
    | (go_at_call 7; (with_reducible refine (Step_wait b 8 5 3 7 0 5 (0 + 1) true _ h4 (by decide) (by decide) (by decide) (by decide) (by decide) (by decide) (by decide) 2 (Lib.hid rfl)).mono ?_); rintro e w5 ⟨rfl, ho5, h5⟩)
    )
  go_ret
  refine ⟨rfl, ?_⟩
  have hx : ∀ i, i < w.heap.size → One b i → Nil i := fun i hi hh => by unfold One at hh; omega
  exact (((ho1.trans_new ho2 hx).trans_new ho3 hx).trans_new ho4 hx).trans_new ho5 hx
end Go.Proofs.Ytjepehgmldgnlaa
