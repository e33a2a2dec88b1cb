/- What must come at any rate, of credit. -/
import Derived.Test.YtlnemadkggfmbaaCredit4
namespace Go.Proofs.Ytlnemadkggfmbaa
open Go.RowKit

theorem rise1 (x : Gn) : rise [x] := fun i j a c ha hc hij => by
  have h1 := (List.getElem?_eq_some_iff.1 ha).1
  have h2 := (List.getElem?_eq_some_iff.1 hc).1
  simp at h1 h2
  omega
theorem rise2 {x y : Gn} (h : x.id < y.id) : rise [x, y] := fun i j a c ha hc hij => by
  have h1 := (List.getElem?_eq_some_iff.1 ha).1
  have h2 := (List.getElem?_eq_some_iff.1 hc).1
  simp at h1 h2
  obtain rfl : i = 0 := by omega
  obtain rfl : j = 1 := by omega
  simp at ha hc
  subst ha hc
  exact h
def AwO (B b cb : Nat) (C S : Int) (L : Nat → List Gn) (W : World) (x : Ending) (w' : World) : Prop :=
  ∃ v' wb, x = .returned (.int .i64 0) ∧ Lg w' b cb B C S v' (L wb) ∧ Below B W w'
set_option maxHeartbeats 4000000 in
theorem awake_any (w : World) : Calls Try.prog 8 #[] w fun x w' => x = .returned (.bool true) ∧ Below w.heap.size w w' := by
  have hO1 : ∀ W b cb v, Lg W b cb w.heap.size 10 0 v [] → Calls Try.prog 11 #[.pointer (some ⟨b, 0, none⟩), .int .i64 1, .int .i64 8] W (AwO w.heap.size b cb 10 0 (fun wb => [⟨1, 0, 8, wb⟩]) W) := fun W b cb v h => by
    refine (Open_new 1 8 W h (fun x hx => by simp at hx) (by decide) (by decide) (by decide) (by decide)).mono ?_
    rintro x w' ⟨r, wb, hp, v', rfl, hL, ho⟩
    have : r = 0 := by have := hp.1; simpa using this
    subst this
    exact ⟨v', wb, rfl, hL, h.bel ho⟩
  have hO2 : ∀ W b cb v wb, Lg W b cb w.heap.size 10 0 v [⟨1, 0, 8, wb⟩] → Calls Try.prog 11 #[.pointer (some ⟨b, 0, none⟩), .int .i64 3, .int .i64 8] W (AwO w.heap.size b cb 10 0 (fun wc => [⟨1, 0, 8, wb⟩, ⟨3, 0, 8, wc⟩]) W) := fun W b cb v wb h => by
    refine (Open_new 3 8 W h (fun x hx => by simp at hx; subst hx; show (1 : Int) ≠ 3; decide) (by simp) (by decide) (by decide) (by decide)).mono ?_
    rintro x w' ⟨r, wc, hp, v', rfl, hL, ho⟩
    have : r = 1 := by
      have h1 := hp.1
      have h2 := hp.2.2
      simp at h1
      rcases Nat.lt_or_ge r 1 with h0 | h0
      · obtain rfl : r = 0 := by omega
        have := h2 _ rfl
        simp at this
      · omega
    subst this
    exact ⟨v', wc, rfl, hL, h.bel ho⟩
  have hS : ∀ W b cb v wb wc, Lg W b cb w.heap.size 10 0 v [⟨1, 0, 8, wb⟩, ⟨3, 0, 8, wc⟩] → Calls Try.prog 16 #[.pointer (some ⟨b, 0, none⟩), .int .i64 1, .int .i64 8] W (AwO w.heap.size b cb 2 8 (fun _ => [⟨1, 8, 0, wb⟩, ⟨3, 0, 8, wc⟩]) W) := fun W b cb v wb wc h => by
    refine (Spend_in 0 _ 1 8 W h (by simp) (rise2 (by show (1 : Int) < 3; decide)) rfl rfl (by decide) (by intro _; unfold frI; dsimp only; decide) ⟨by unfold winOk; decide, fun x hx => by simp at hx; rcases hx with rfl | rfl <;> (unfold winOk; dsimp only; decide)⟩ ⟨by decide, fun x hx => by simp at hx; rcases hx with rfl | rfl <;> (dsimp only; decide)⟩).mono ?_
    rintro x w' ⟨v', rfl, hL, ho⟩
    exact ⟨v', 0, rfl, hL, h.bel ho⟩
  have hF1 : ∀ W b cb v wb wc, Lg W b cb w.heap.size 2 8 v [⟨1, 8, 0, wb⟩, ⟨3, 0, 8, wc⟩] → Calls Try.prog 19 #[.pointer (some ⟨b, 0, none⟩), .int .i64 3] W fun e w' => e = .returned (.int .i64 2) ∧ Only Nil W w' := fun W b cb v wb wc h => Free_in 1 _ 3 W h (by simp) (rise2 (by show (1 : Int) < 3; decide)) rfl rfl
  have hF2 : ∀ W b cb v wb wc, Lg W b cb w.heap.size 2 8 v [⟨1, 8, 0, wb⟩, ⟨3, 0, 8, wc⟩] → Calls Try.prog 19 #[.pointer (some ⟨b, 0, none⟩), .int .i64 1] W fun e w' => e = .returned (.int .i64 0) ∧ Only Nil W w' := fun W b cb v wb wc h => Free_in 0 _ 1 W h (by simp) (rise2 (by show (1 : Int) < 3; decide)) rfl rfl
  have hI : ∀ W b cb v wb wc, Lg W b cb w.heap.size 2 8 v [⟨1, 8, 0, wb⟩, ⟨3, 0, 8, wc⟩] → Calls Try.prog 14 #[.pointer (some ⟨b, 0, none⟩)] W (fun x w' => ∃ A cap, x = .returned (.slice A 2 cap) ∧ Sq encZ 1 w' w'.heap.size A [1, 3] ∧ Only Nil W w') := fun W b cb v wb wc h => IDs_any W h (by simp)
  have hT : ∀ W A B ca cb, Sq encZ 1 W W.heap.size A [1, 3] → Sq encZ 1 W W.heap.size B [1, 3] → Calls Try.prog 21 #[.slice A 2 ca, .slice B 2 cb] W fun x w' => x = .returned (.bool true) ∧ Only Nil W w' := fun W A B ca cb h1 h2 => Ints_same A B ca cb [1, 3] W h1 h2 (by decide)
  have HO1 := Lib.hid hO1
  have HO2 := Lib.hid hO2
  have HS := Lib.hid hS
  have HF1 := Lib.hid hF1
  have HF2 := Lib.hid hF2
  have HI := Lib.hid hI
  have HT := Lib.hid hT
  clear hO1 hO2 hS hF1 hF2 hI hT
  go_enter Try.func8, Try.ntmps8
  go_wp2_with (first
    | (go_at_call 6; (with_reducible refine (New_any 10 _ (by decide)).mono ?_); rintro e w1 ⟨b, cb, rfl, t1, ho1⟩)
    | (go_at_call 11; (with_reducible refine (HO1.out _ _ _ _ t1).mono ?_); rintro e w2 ⟨v2, wb, rfl, t2, hb2⟩)
    | (go_at_call 11; (with_reducible refine (HO2.out _ _ _ _ _ t2).mono ?_); rintro e w3 ⟨v3, wc, rfl, t3, hb3⟩)
    | (go_at_call 16; (with_reducible refine (HS.out _ _ _ _ _ _ t3).mono ?_); rintro e w4 ⟨v4, _, rfl, t4, hb4⟩)
    | (go_at_call 18; (with_reducible refine (Spent_0 _ t4).mono ?_); rintro e w5 ⟨rfl, rfl⟩)
    | (go_at_call 19; (with_reducible refine (HF1.out _ _ _ _ _ _ t4).mono ?_); rintro e w6 ⟨rfl, ho6⟩; have t6 := t4.kept ho6)
    | (go_at_call 19; (with_reducible refine (HF2.out _ _ _ _ _ _ t6).mono ?_); rintro e w7 ⟨rfl, ho7⟩; have t7 := t6.kept ho7)
    | (go_at_call 14; (with_reducible refine (HI.out _ _ _ _ _ _ t7).mono ?_); rintro e w8 ⟨A5, c5, rfl, hs5, ho8⟩; have s1 := hs5.go ((Only.refl Nil w8).alloc (.cells #[.int .i64 1, .int .i64 3] 3)); have s2 := (Ow.lit (enc := encZ) (sz := 1) (e := 3) (base := 0) w8 (cs := #[.int .i64 1, .int .i64 3]) [1, 3] rfl rfl (by decide) (Nat.zero_le _)).sq (fun _ _ => rfl) rfl)
    | (go_at_call 21; (with_reducible refine (HT.out _ _ _ _ _ s1 s2).mono ?_); rintro e w9 ⟨rfl, ho9⟩)
    )
  go_ret
  have b1 := ho1.below (Nat.le_refl _) (fun _ _ hh => hh)
  have b3 := ((b1.trans hb2).trans hb3).trans hb4
  have hx := (((ho6.trans ho7).trans ho8).alloc (.cells #[.int .i64 1, .int .i64 3] 3)).trans ho9
  exact ⟨rfl, b3.trans (hx.below b3.size (fun _ _ hh => hh))⟩
end Go.Proofs.Ytlnemadkggfmbaa
