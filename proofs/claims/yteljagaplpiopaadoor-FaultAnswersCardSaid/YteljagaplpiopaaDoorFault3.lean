/- A fault's code, whether it is of the connection; what is sent of it; all kinds; the document's own. -/
import Derived.Test.YteljagaplpiopaaDoorFault2
namespace Go.Proofs.YteljagaplpiopaaDoor
open Go.RowKit

section
variable {k s o : Int} {w : World}
theorem Code_out (hR : Rws w) (hk : k < 0 ∨ 20 < k) : Calls Tryd.prog 6 #[ftV k s o] w fun x w' => x = .returned (.tuple #[.int .i64 0, .int .i64 3]) ∧ Only Nil w w' := by
  have h0 := Lib.hid (of_out k s o (w.alloc (.cells #[.int .i64 k, .int .i64 s, .int .i64 o] 23)) (hR.alloc _) hk)
  have hn := (Only.refl Nil w).alloc (.cells #[.int .i64 k, .int .i64 s, .int .i64 o] 23)
  clear hk
  go_enter Tryd.func6, Tryd.ntmps6
  go_wp2_with (first
    | (go_at_call 16; (with_reducible refine (h0.out).mono ?_); rintro e w1 ⟨rfl, ho1⟩)
    )
  go_ret2
  exact ⟨rfl, (hn.trans ho1).alloc _⟩
theorem Code_in (hR : Rws w) (k0 : 0 ≤ k) (k20 : k ≤ 20) : Calls Tryd.prog 6 #[ftV k s o] w fun x w' => x = .returned (.tuple #[.int .i64 (cdF k o), .int .i64 0]) ∧ Only Nil w w' := by
  have h0 := Lib.hid (of_in k s o (w.alloc (.cells #[.int .i64 k, .int .i64 s, .int .i64 o] 23)) (hR.alloc _) k0 k20)
  have hn := (Only.refl Nil w).alloc (.cells #[.int .i64 k, .int .i64 s, .int .i64 o] 23)
  clear k0 k20
  generalize cdF k o = cc at *
  generalize whB k = ww at *
  go_enter Tryd.func6, Tryd.ntmps6
  go_wp2_with (first
    | (go_at_call 16; (with_reducible refine (h0.out).mono ?_); rintro e w1 ⟨rfl, ho1⟩)
    )
  go_ret2
  exact ⟨rfl, (hn.trans ho1).alloc _⟩
theorem Whole_out (hR : Rws w) (hk : k < 0 ∨ 20 < k) : Calls Tryd.prog 7 #[ftV k s o] w fun x w' => x = .returned (.bool true) ∧ Only Nil w w' := by
  have h0 := Lib.hid (of_out k s o (w.alloc (.cells #[.int .i64 k, .int .i64 s, .int .i64 o] 23)) (hR.alloc _) hk)
  have hn := (Only.refl Nil w).alloc (.cells #[.int .i64 k, .int .i64 s, .int .i64 o] 23)
  clear hk
  go_enter Tryd.func7, Tryd.ntmps7
  go_wp2_with (first
    | (go_at_call 16; (with_reducible refine (h0.out).mono ?_); rintro e w1 ⟨rfl, ho1⟩)
    )
  go_ret
  exact ⟨rfl, (hn.trans ho1).alloc _⟩
theorem Whole_in (hR : Rws w) (k0 : 0 ≤ k) (k20 : k ≤ 20) : Calls Tryd.prog 7 #[ftV k s o] w fun x w' => x = .returned (.bool (whB k)) ∧ Only Nil w w' := by
  have h0 := Lib.hid (of_in k s o (w.alloc (.cells #[.int .i64 k, .int .i64 s, .int .i64 o] 23)) (hR.alloc _) k0 k20)
  have hn := (Only.refl Nil w).alloc (.cells #[.int .i64 k, .int .i64 s, .int .i64 o] 23)
  clear k0 k20
  generalize cdF k o = cc at *
  generalize whB k = ww at *
  go_enter Tryd.func7, Tryd.ntmps7
  go_wp2_with (first
    | (go_at_call 16; (with_reducible refine (h0.out).mono ?_); rintro e w1 ⟨rfl, ho1⟩)
    )
  go_ret
  exact ⟨rfl, (hn.trans ho1).alloc _⟩
theorem RWhole_in (k0 : 0 ≤ k) (k20 : k ≤ 20) : Calls Tryd.prog 10 #[.int .i64 k] w fun x w' => x = .returned (.bool (whB k)) ∧ w = w' := by
  have hk : k = 0 ∨ k = 1 ∨ k = 2 ∨ k = 3 ∨ k = 4 ∨ k = 5 ∨ k = 6 ∨ k = 7 ∨ k = 8 ∨ k = 9 ∨ k = 10 ∨ k = 11 ∨ k = 12 ∨ k = 13 ∨ k = 14 ∨ k = 15 ∨ k = 16 ∨ k = 17 ∨ k = 18 ∨ k = 19 ∨ k = 20 := by omega
  clear k0 k20
  rcases hk with rfl | rfl | rfl | rfl | rfl | rfl | rfl | rfl | rfl | rfl | rfl | rfl | rfl | rfl | rfl | rfl | rfl | rfl | rfl | rfl | rfl
  all_goals
    go_enter Tryd.func10, Tryd.ntmps10
    go_wp2
    go_ret
    exact ⟨rfl, rfl⟩
theorem RCode_in (k0 : 0 ≤ k) (k20 : k ≤ 20) : Calls Tryd.prog 9 #[.int .i64 k, .int .i64 o] w fun x w' => x = .returned (.int .i64 (cdF k o)) ∧ w = w' := by
  by_cases hk0 : k = 0
  · subst hk0
    clear k0 k20
    by_cases h1 : 1 ≤ o
    · by_cases h2 : o ≤ 12
      · have e : cdF 0 o = o := by unfold cdF; rw [if_pos ⟨rfl, by omega, h2⟩]
        rw [e]
        go_enter Tryd.func9, Tryd.ntmps9
        go_wp2
        go_ret
        exact ⟨rfl, rfl⟩
      · have e : cdF 0 o = 1 := by unfold cdF; rw [if_neg (by omega)]; rfl
        rw [e]
        go_enter Tryd.func9, Tryd.ntmps9
        go_wp2
        go_ret
        exact ⟨rfl, rfl⟩
    · have e : cdF 0 o = 1 := by unfold cdF; rw [if_neg (by omega)]; rfl
      rw [e]
      go_enter Tryd.func9, Tryd.ntmps9
      go_wp2
      go_ret
      exact ⟨rfl, rfl⟩
  · have e : cdF k o = cdI k := by unfold cdF; rw [if_neg (by omega)]
    rw [e]
    have hk : k = 1 ∨ k = 2 ∨ k = 3 ∨ k = 4 ∨ k = 5 ∨ k = 6 ∨ k = 7 ∨ k = 8 ∨ k = 9 ∨ k = 10 ∨ k = 11 ∨ k = 12 ∨ k = 13 ∨ k = 14 ∨ k = 15 ∨ k = 16 ∨ k = 17 ∨ k = 18 ∨ k = 19 ∨ k = 20 := by omega
    clear k0 k20 e hk0
    rcases hk with rfl | rfl | rfl | rfl | rfl | rfl | rfl | rfl | rfl | rfl | rfl | rfl | rfl | rfl | rfl | rfl | rfl | rfl | rfl | rfl
    all_goals
      go_enter Tryd.func9, Tryd.ntmps9
      go_wp2
      go_ret
      exact ⟨rfl, rfl⟩
end
end Go.Proofs.YteljagaplpiopaaDoor
