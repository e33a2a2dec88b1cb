/- Whether a frame may be, by the document: of any frame. -/
import Derived.Test.YtgiplefnggnpcaaDoorRightA
import Derived.Test.YtgiplefnggnpcaaDoorRightB
import Derived.Test.YtgiplefnggnpcaaDoorRightC
import Derived.Test.YtgiplefnggnpcaaDoorRightD
import Derived.Test.YtgiplefnggnpcaaDoorRightE
namespace Go.Proofs.YtgiplefnggnpcaaDoor
open Go.RowKit Nd

theorem four_not {n : Int} (h : n < 0 ∨ 2147483647 < n) : fourB n = false := by
  unfold fourB
  rw [Bool.and_eq_false_iff]
  rcases h with h | h
  · exact .inl (decide_eq_false (by omega))
  · exact .inr (decide_eq_false (by omega))
theorem RRight_any (f : Frm) {A : Option Addr} {m cap : Nat} (w : World) (hP : PmIs w (.slice A m cap) f.P) (r : Bool) (hr : r = true ↔ rightP f) : Calls Tryd.prog 17 #[frmV f (.slice A m cap)] w fun x w' => x = .returned (.bool r) ∧ Only Nil w w' := by
  have no : ¬ rightP f → r = false := fun h => by
    cases r
    · rfl
    · exact absurd (hr.1 rfl) h
  have hm : m = f.P.length := by
    obtain ⟨_, _, e, _⟩ := hP
    injection e
  by_cases hk : f.t < 0 ∨ 11 < f.t
  · obtain rfl := no (fun h => by have := h.t0; have := h.t11; omega)
    exact RRight_out f _ w (by rcases hk with h | h <;> simp [h])
  by_cases hs : f.s < 0 ∨ 2147483647 < f.s
  · obtain rfl := no (fun h => by have := h.s0; have := h.sm; omega)
    exact RRight_out f _ w (.inr (.inr (.inl (four_not hs))))
  obtain ⟨t, s, en, d, k, on, wt, ex, c, l, n, P⟩ := f
  simp only at hk hs hP hm
  have s0 : 0 ≤ s := by omega
  have sm : s ≤ 2147483647 := by omega
  by_cases hs1 : (s = 0 → nzB t = true) ∧ (0 < s → naB t = true)
  · have ht : t = 0 ∨ t = 1 ∨ t = 2 ∨ t = 3 ∨ t = 4 ∨ t = 5 ∨ t = 6 ∨ t = 7 ∨ t = 8 ∨ t = 9 ∨ t = 10 ∨ t = 11 := by omega
    clear no
    rcases ht with rfl | rfl | rfl | rfl | rfl | rfl | rfl | rfl | rfl | rfl | rfl | rfl
    ·
      exact RRight_0 s k en d on wt c l n ex P A m cap w hm s0 sm hs1.1 hs1.2 r (hr.trans (right_0 s k en d on wt c l n ex P s0 sm hs1.1 hs1.2))
    ·
      exact RRight_1 s k en d on wt c l n ex P A m cap w hm s0 sm hs1.1 hs1.2 r (hr.trans (right_1 s k en d on wt c l n ex P s0 sm hs1.1 hs1.2))
    ·
      exact RRight_2 s k en d on wt c l n ex P A m cap w hm s0 sm hs1.1 hs1.2 r (hr.trans (right_2 s k en d on wt c l n ex P s0 sm hs1.1 hs1.2))
    ·
      exact RRight_3 s k en d on wt c l n ex P A m cap w hm s0 sm hs1.1 hs1.2 r (hr.trans (right_3 s k en d on wt c l n ex P s0 sm hs1.1 hs1.2))
    ·
      exact RRight_4 s k en d on wt c l n ex P A m cap w hm s0 sm hs1.1 hs1.2 r (hr.trans (right_4 s k en d on wt c l n ex P s0 sm hs1.1 hs1.2))
    · exact RRight_5 s k en d on wt c l n ex P A m cap w hm hP s0 sm hs1.1 hs1.2 r (hr.trans (right_5 s k en d on wt c l n ex P s0 sm hs1.1 hs1.2))
    ·
      exact RRight_6 s k en d on wt c l n ex P A m cap w hm s0 sm hs1.1 hs1.2 r (hr.trans (right_6 s k en d on wt c l n ex P s0 sm hs1.1 hs1.2))
    ·
      exact RRight_7 s k en d on wt c l n ex P A m cap w hm s0 sm hs1.1 hs1.2 r (hr.trans (right_7 s k en d on wt c l n ex P s0 sm hs1.1 hs1.2))
    ·
      exact RRight_8 s k en d on wt c l n ex P A m cap w hm s0 sm hs1.1 hs1.2 r (hr.trans (right_8 s k en d on wt c l n ex P s0 sm hs1.1 hs1.2))
    ·
      exact RRight_9 s k en d on wt c l n ex P A m cap w hm s0 sm hs1.1 hs1.2 r (hr.trans (right_9 s k en d on wt c l n ex P s0 sm hs1.1 hs1.2))
    ·
      exact RRight_10 s k en d on wt c l n ex P A m cap w hm s0 sm hs1.1 hs1.2 r (hr.trans (right_10 s k en d on wt c l n ex P s0 sm hs1.1 hs1.2))
    ·
      exact RRight_11 s k en d on wt c l n ex P A m cap w hm s0 sm hs1.1 hs1.2 r (hr.trans (right_11 s k en d on wt c l n ex P s0 sm hs1.1 hs1.2))
  · obtain rfl := no (fun hh => hs1 ⟨fun e => by have := hh.zero e; simp [nzB]; exact this, fun e => by have := hh.one e; simp [naB]; exact this⟩)
    refine RRight_out _ _ w (.inr (.inr (.inr ?_)))
    by_cases e : s = 0
    · have : nzB t = false := by
        cases e2 : nzB t
        · rfl
        · exact absurd ⟨fun _ => e2, fun e3 => by omega⟩ hs1
      exact .inl ⟨e, this⟩
    · have : naB t = false := by
        cases e2 : naB t
        · rfl
        · exact absurd ⟨fun e3 => absurd e3 e, fun _ => e2⟩ hs1
      exact .inr ⟨by show 0 < s; omega, this⟩
end Go.Proofs.YtgiplefnggnpcaaDoor
