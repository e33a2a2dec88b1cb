/- Whether a frame may be, by the document: what it calls. -/
import Derived.Test.YtgiplefnggnpcaaDoorFcheck3
namespace Go.Proofs.YtgiplefnggnpcaaDoor
open Go.RowKit Nd

abbrev dpV (on wt : Int) (ex : Bool) : Value := .agg #[.int .i64 on, .int .i64 wt, .bool ex]
theorem RFour_any (n : Int) (w : World) : Calls Tryd.prog 20 #[.int .i64 n] w fun x w' => x = .returned (.bool (fourB n)) ∧ w = w' := by
  unfold fourB
  cases h1 : decide (0 ≤ n) <;> cases h2 : decide (n ≤ 2147483647)
  all_goals
    go_enter Tryd.func20, Tryd.ntmps20
    go_wp2
    go_ret
    exact ⟨rfl, rfl⟩
set_option maxHeartbeats 2000000 in
theorem RDep_any (on wt : Int) (ex : Bool) (w : World) : Calls Tryd.prog 24 #[dpV on wt ex] w fun x w' => x = .returned (.bool (depB on wt)) ∧ Only Nil w w' := by
  unfold depB
  have hN := Lib.hid (RFour_any on)
  cases h0 : fourB on <;> cases h1 : decide (1 ≤ wt) <;> cases h2 : decide (wt ≤ 256)
  all_goals
    rw [h0] at hN
    clear h0
    go_enter Tryd.func24, Tryd.ntmps24
    go_wp2_with (first
      | (go_at_call 20; (with_reducible refine (hN.out _).mono ?_); rintro e w1 ⟨rfl, rfl⟩)
      )
    go_ret
    exact ⟨rfl, (Only.refl _ _).alloc _⟩
def noDep (on wt : Int) (ex : Bool) : Bool := decide (on = 0 ∧ wt = 0 ∧ ex = false)
set_option maxHeartbeats 2000000 in
theorem RNone_any (on wt : Int) (ex : Bool) (w : World) : Calls Tryd.prog 23 #[dpV on wt ex] w fun x w' => x = .returned (.bool (noDep on wt ex)) ∧ Only Nil w w' := by
  unfold noDep
  by_cases h0 : on = 0
  · subst h0
    by_cases h1 : wt = 0
    · subst h1
      cases ex
      all_goals
        go_enter Tryd.func23, Tryd.ntmps23
        go_wp2
        go_ret
        exact ⟨rfl, (Only.refl _ _).alloc _⟩
    · have e : decide ((0 : Int) = 0 ∧ wt = 0 ∧ ex = false) = false := decide_eq_false (fun h => h1 h.2.1)
      rw [e]
      go_enter Tryd.func23, Tryd.ntmps23
      go_wp2
      go_ret
      exact ⟨rfl, (Only.refl _ _).alloc _⟩
  · have e : decide (on = 0 ∧ wt = 0 ∧ ex = false) = false := decide_eq_false (fun h => h0 h.1)
    rw [e]
    go_enter Tryd.func23, Tryd.ntmps23
    go_wp2
    go_ret
    exact ⟨rfl, (Only.refl _ _).alloc _⟩
theorem RZero_any (k : Int) (w : World) : Calls Tryd.prog 21 #[.int .i64 k] w fun x w' => x = .returned (.bool (nzB k)) ∧ w = w' := by
  unfold nzB
  cases h1 : decide (5 ≤ k) <;> cases h2 : decide (k ≤ 10)
  all_goals
    go_enter Tryd.func21, Tryd.ntmps21
    go_wp2
    go_ret
    exact ⟨rfl, rfl⟩
theorem ROne_any (k : Int) (w : World) : Calls Tryd.prog 22 #[.int .i64 k] w fun x w' => x = .returned (.bool (naB k)) ∧ w = w' := by
  unfold naB
  cases h1 : decide (k ≤ 4) <;> cases h2 : decide (10 ≤ k)
  all_goals
    go_enter Tryd.func22, Tryd.ntmps22
    go_wp2
    go_ret
    exact ⟨rfl, rfl⟩
set_option maxRecDepth 100000 in
set_option maxHeartbeats 4000000 in
theorem RRight_out (f : Frm) (p : Value) (w : World) (h : f.t < 0 ∨ 11 < f.t ∨ fourB f.s = false ∨ f.s = 0 ∧ nzB f.t = false ∨ 0 < f.s ∧ naB f.t = false) : Calls Tryd.prog 17 #[frmV f p] w fun x w' => x = .returned (.bool false) ∧ Only Nil w w' := by
  obtain ⟨t, s, en, d, k, on, wt, ex, c, l, n, P⟩ := f
  simp only at h
  have hO := (Only.refl Nil w).alloc (.cells (frC ⟨t, s, en, d, k, on, wt, ex, c, l, n, P⟩ p) 31)
  by_cases h1 : t < 0
  · clear h
    go_enter Tryd.func17, Tryd.ntmps17
    go_wp2
    go_ret
    exact ⟨rfl, hO⟩
  by_cases h2 : 11 < t
  · clear h
    go_enter Tryd.func17, Tryd.ntmps17
    go_wp2
    go_ret
    exact ⟨rfl, hO⟩
  have hF := Lib.hid (RFour_any s)
  have hZ := Lib.hid (RZero_any t)
  have hN := Lib.hid (ROne_any t)
  cases h3 : fourB s
  · rw [h3] at hF
    clear h h3
    go_enter Tryd.func17, Tryd.ntmps17
    go_wp2_with (first
      | (go_at_call 20; (with_reducible refine (hF.out _).mono ?_); rintro e w1 ⟨rfl, rfl⟩)
      )
    go_ret
    exact ⟨rfl, hO⟩
  · rw [h3] at hF
    rcases h with h | h | h | ⟨rfl, h⟩ | ⟨h, h'⟩
    · exact absurd h h1
    · exact absurd h h2
    · rw [h3] at h
      cases h
    · rw [h] at hZ
      clear h h3
      go_enter Tryd.func17, Tryd.ntmps17
      go_wp2_with (first
        | (go_at_call 20; (with_reducible refine (hF.out _).mono ?_); rintro e w1 ⟨rfl, rfl⟩)
        | (go_at_call 21; (with_reducible refine (hZ.out _).mono ?_); rintro e w1 ⟨rfl, rfl⟩)
        )
      go_ret
      exact ⟨rfl, hO⟩
    · rw [h'] at hN
      have hs : ¬ s = 0 := by omega
      clear h' h3
      go_enter Tryd.func17, Tryd.ntmps17
      go_wp2_with (first
        | (go_at_call 20; (with_reducible refine (hF.out _).mono ?_); rintro e w1 ⟨rfl, rfl⟩)
        | (go_at_call 22; (with_reducible refine (hN.out _).mono ?_); rintro e w1 ⟨rfl, rfl⟩)
        )
      go_ret
      exact ⟨rfl, hO⟩
theorem retB {X r : Bool} {Q : Prop} (hr : r = true ↔ Q) (h : X = true ↔ Q) : Ending.returned (.bool X) = .returned (.bool r) := by
  have : X = r := by rw [Bool.eq_iff_iff, h, hr]
  rw [this]
theorem nil_toList (d : ByteArray) : d = nilS ↔ d.toList = [] := by
  constructor
  · rintro rfl
    decide +kernel
  · intro h
    exact ba_inj (h.trans (by decide +kernel))
end Go.Proofs.YtgiplefnggnpcaaDoor
