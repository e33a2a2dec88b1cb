/- What the laws of senders ask first: may there be such a sender? -/
import Derived.Test.YtlinmpcllmijaaaTxS
import Derived.Test.YtlinmpcllmijaaaAwake22
namespace Go.Proofs.Ytlinmpcllmijaaa
open Go.RowKit

theorem right_any (kd cp st : Int) (w : World) : Calls Try.prog 8 #[.agg #[.int .i64 kd, .int .i64 cp, .int .i64 st]] w fun x w' => x = .returned (.int .i64 (rightE kd cp st)) ∧ Only Nil w w' := by
  obtain ⟨r, hr⟩ : ∃ r, rightE kd cp st = r := ⟨_, rfl⟩
  rw [hr]
  unfold rightE at hr
  by_cases k1 : kd = 1
  · subst k1
    rw [if_neg (by decide)] at hr
    by_cases h1 : cp < 0
    · rw [if_pos (.inl h1)] at hr
      subst hr
      go_enter Try.func8, Try.ntmps8
      go_wp2
      go_ret
      exact ⟨rfl, (Only.refl _ _).alloc _⟩
    · by_cases h2 : 4096 < cp
      · rw [if_pos (.inr (.inl ⟨rfl, h2⟩))] at hr
        subst hr
        go_enter Try.func8, Try.ntmps8
        go_wp2
        go_ret
        exact ⟨rfl, (Only.refl _ _).alloc _⟩
      · rw [if_neg (by omega), if_neg (by omega)] at hr
        subst hr
        go_enter Try.func8, Try.ntmps8
        go_wp2
        go_ret
        exact ⟨rfl, (Only.refl _ _).alloc _⟩
  · by_cases k2 : kd = 2
    · subst k2
      rw [if_neg (by decide)] at hr
      clear k1
      by_cases h1 : cp < 0
      · rw [if_pos (.inl h1)] at hr
        subst hr
        go_enter Try.func8, Try.ntmps8
        go_wp2
        go_ret
        exact ⟨rfl, (Only.refl _ _).alloc _⟩
      · by_cases h2 : 64 < cp
        · rw [if_pos (.inr (.inr ⟨rfl, h2⟩))] at hr
          subst hr
          go_enter Try.func8, Try.ntmps8
          go_wp2
          go_ret
          exact ⟨rfl, (Only.refl _ _).alloc _⟩
        · rw [if_neg (by omega)] at hr
          by_cases h3 : st < 0
          · rw [if_pos ⟨rfl, .inl h3⟩] at hr
            subst hr
            go_enter Try.func8, Try.ntmps8
            go_wp2
            go_ret
            exact ⟨rfl, (Only.refl _ _).alloc _⟩
          · by_cases h4 : 2 < st
            · rw [if_pos ⟨rfl, .inr h4⟩] at hr
              subst hr
              go_enter Try.func8, Try.ntmps8
              go_wp2
              go_ret
              exact ⟨rfl, (Only.refl _ _).alloc _⟩
            · rw [if_neg (by omega)] at hr
              subst hr
              go_enter Try.func8, Try.ntmps8
              go_wp2
              go_ret
              exact ⟨rfl, (Only.refl _ _).alloc _⟩
    · rw [if_pos ⟨k1, k2⟩] at hr
      subst hr
      have e1 : (kd != 1) = true := by simpa using k1
      have e2 : (kd != 2) = true := by simpa using k2
      clear k1 k2
      go_enter Try.func8, Try.ntmps8
      go_wp2
      go_ret
      exact ⟨rfl, (Only.refl _ _).alloc _⟩
end Go.Proofs.Ytlinmpcllmijaaa
