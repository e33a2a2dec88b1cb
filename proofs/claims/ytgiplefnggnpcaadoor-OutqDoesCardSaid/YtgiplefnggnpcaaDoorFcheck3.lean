/- Whether a frame may be: frame.Check, of any frame. -/
import Derived.Test.YtgiplefnggnpcaaDoorFcheck2
namespace Go.Proofs.YtgiplefnggnpcaaDoor
open Go.RowKit Nd

theorem right_0 (s k : Int) (en : Bool) (d : ByteArray) (on wt c l n : Int) (ex : Bool) (P : List Prm) (s0 : 0 ≤ s) (sm : s ≤ 2147483647) (hz : s = 0 → nzB 0 = true) (ha : 0 < s → naB 0 = true) :
    rightP ⟨0, s, en, d, k, on, wt, ex, c, l, n, P⟩ ↔ (decide ((d.size : Int) ≤ 256)) = true ∧ (⟨0, s, false, nilS, k, on, wt, ex, c, l, n, P⟩) = bare 0 s := by
  constructor
  · rintro ⟨_, _, _, _, _, _, h1, h2, h3, h4, h5, h6, h7, h8, h9, h10, h11, h12, h13, h14, h15, h16⟩
    simp at h1 h2 h3 h4 h5 h6 h7 h8 h9 h10 h11 h12 h13 h14 h15 h16
    simp_all
  · rintro ⟨hok, hg⟩
    simp [bare] at hg
    refine ⟨show (0 : Int) ≤ 0 by decide, show (0 : Int) ≤ 11 by decide, s0, sm, fun hh => ?_, fun hh => ?_, ?_, ?_, ?_, ?_, ?_, ?_, ?_, ?_, ?_, ?_, ?_, ?_, ?_, ?_, ?_, ?_⟩
    · have := hz hh
      simp [nzB] at this ⊢
    · have := ha hh
      simp [naB] at this ⊢
    all_goals (try simp_all [pmsB, fourB])
theorem right_1 (s k : Int) (en : Bool) (d : ByteArray) (on wt c l n : Int) (ex : Bool) (P : List Prm) (s0 : 0 ≤ s) (sm : s ≤ 2147483647) (hz : s = 0 → nzB 1 = true) (ha : 0 < s → naB 1 = true) :
    rightP ⟨1, s, en, d, k, on, wt, ex, c, l, n, P⟩ ↔ (decide ((d.size : Int) ≤ 256)) = true ∧ (⟨1, s, false, nilS, k, on, wt, ex, c, l, n, P⟩) = bare 1 s := by
  constructor
  · rintro ⟨_, _, _, _, _, _, h1, h2, h3, h4, h5, h6, h7, h8, h9, h10, h11, h12, h13, h14, h15, h16⟩
    simp at h1 h2 h3 h4 h5 h6 h7 h8 h9 h10 h11 h12 h13 h14 h15 h16
    simp_all
  · rintro ⟨hok, hg⟩
    simp [bare] at hg
    refine ⟨show (0 : Int) ≤ 1 by decide, show (1 : Int) ≤ 11 by decide, s0, sm, fun hh => ?_, fun hh => ?_, ?_, ?_, ?_, ?_, ?_, ?_, ?_, ?_, ?_, ?_, ?_, ?_, ?_, ?_, ?_, ?_⟩
    · have := hz hh
      simp [nzB] at this ⊢
    · have := ha hh
      simp [naB] at this ⊢
    all_goals (try simp_all [pmsB, fourB])
theorem right_2 (s k : Int) (en : Bool) (d : ByteArray) (on wt c l n : Int) (ex : Bool) (P : List Prm) (s0 : 0 ≤ s) (sm : s ≤ 2147483647) (hz : s = 0 → nzB 2 = true) (ha : 0 < s → naB 2 = true) :
    rightP ⟨2, s, en, d, k, on, wt, ex, c, l, n, P⟩ ↔ ((decide (k = 1) || decide (k = 2)) && depB on wt) = true ∧ (⟨2, s, en, d, 0, 0, 0, false, c, l, n, P⟩) = bare 2 s := by
  constructor
  · rintro ⟨_, _, _, _, _, _, h1, h2, h3, h4, h5, h6, h7, h8, h9, h10, h11, h12, h13, h14, h15, h16⟩
    simp at h1 h2 h3 h4 h5 h6 h7 h8 h9 h10 h11 h12 h13 h14 h15 h16
    simp_all
  · rintro ⟨hok, hg⟩
    simp [bare] at hg
    refine ⟨show (0 : Int) ≤ 2 by decide, show (2 : Int) ≤ 11 by decide, s0, sm, fun hh => ?_, fun hh => ?_, ?_, ?_, ?_, ?_, ?_, ?_, ?_, ?_, ?_, ?_, ?_, ?_, ?_, ?_, ?_, ?_⟩
    · have := hz hh
      simp [nzB] at this ⊢
    · have := ha hh
      simp [naB] at this ⊢
    all_goals (try simp_all [pmsB, fourB])
theorem right_3 (s k : Int) (en : Bool) (d : ByteArray) (on wt c l n : Int) (ex : Bool) (P : List Prm) (s0 : 0 ≤ s) (sm : s ≤ 2147483647) (hz : s = 0 → nzB 3 = true) (ha : 0 < s → naB 3 = true) :
    rightP ⟨3, s, en, d, k, on, wt, ex, c, l, n, P⟩ ↔ (depB on wt) = true ∧ (⟨3, s, en, d, k, 0, 0, false, c, l, n, P⟩) = bare 3 s := by
  constructor
  · rintro ⟨_, _, _, _, _, _, h1, h2, h3, h4, h5, h6, h7, h8, h9, h10, h11, h12, h13, h14, h15, h16⟩
    simp at h1 h2 h3 h4 h5 h6 h7 h8 h9 h10 h11 h12 h13 h14 h15 h16
    simp_all
  · rintro ⟨hok, hg⟩
    simp [bare] at hg
    refine ⟨show (0 : Int) ≤ 3 by decide, show (3 : Int) ≤ 11 by decide, s0, sm, fun hh => ?_, fun hh => ?_, ?_, ?_, ?_, ?_, ?_, ?_, ?_, ?_, ?_, ?_, ?_, ?_, ?_, ?_, ?_, ?_⟩
    · have := hz hh
      simp [nzB] at this ⊢
    · have := ha hh
      simp [naB] at this ⊢
    all_goals (try simp_all [pmsB, fourB])
theorem right_4 (s k : Int) (en : Bool) (d : ByteArray) (on wt c l n : Int) (ex : Bool) (P : List Prm) (s0 : 0 ≤ s) (sm : s ≤ 2147483647) (hz : s = 0 → nzB 4 = true) (ha : 0 < s → naB 4 = true) :
    rightP ⟨4, s, en, d, k, on, wt, ex, c, l, n, P⟩ ↔ (fourB c) = true ∧ (⟨4, s, en, d, k, on, wt, ex, 0, l, n, P⟩) = bare 4 s := by
  constructor
  · rintro ⟨_, _, _, _, _, _, h1, h2, h3, h4, h5, h6, h7, h8, h9, h10, h11, h12, h13, h14, h15, h16⟩
    simp at h1 h2 h3 h4 h5 h6 h7 h8 h9 h10 h11 h12 h13 h14 h15 h16
    simp_all
  · rintro ⟨hok, hg⟩
    simp [bare] at hg
    refine ⟨show (0 : Int) ≤ 4 by decide, show (4 : Int) ≤ 11 by decide, s0, sm, fun hh => ?_, fun hh => ?_, ?_, ?_, ?_, ?_, ?_, ?_, ?_, ?_, ?_, ?_, ?_, ?_, ?_, ?_, ?_, ?_⟩
    · have := hz hh
      simp [nzB] at this ⊢
    · have := ha hh
      simp [naB] at this ⊢
    all_goals (try simp_all [pmsB, fourB])
theorem right_5 (s k : Int) (en : Bool) (d : ByteArray) (on wt c l n : Int) (ex : Bool) (P : List Prm) (s0 : 0 ≤ s) (sm : s ≤ 2147483647) (hz : s = 0 → nzB 5 = true) (ha : 0 < s → naB 5 = true) :
    rightP ⟨5, s, en, d, k, on, wt, ex, c, l, n, P⟩ ↔ (pmsB P) = true ∧ (⟨5, s, en, d, k, on, wt, ex, c, l, n, []⟩) = bare 5 s := by
  constructor
  · rintro ⟨_, _, _, _, _, _, h1, h2, h3, h4, h5, h6, h7, h8, h9, h10, h11, h12, h13, h14, h15, h16⟩
    simp at h1 h2 h3 h4 h5 h6 h7 h8 h9 h10 h11 h12 h13 h14 h15 h16
    simp_all
  · rintro ⟨hok, hg⟩
    simp [bare] at hg
    refine ⟨show (0 : Int) ≤ 5 by decide, show (5 : Int) ≤ 11 by decide, s0, sm, fun hh => ?_, fun hh => ?_, ?_, ?_, ?_, ?_, ?_, ?_, ?_, ?_, ?_, ?_, ?_, ?_, ?_, ?_, ?_, ?_⟩
    · have := hz hh
      simp [nzB] at this ⊢
    · have := ha hh
      simp [naB] at this ⊢
    all_goals (try simp_all [pmsB, fourB])
theorem right_6 (s k : Int) (en : Bool) (d : ByteArray) (on wt c l n : Int) (ex : Bool) (P : List Prm) (s0 : 0 ≤ s) (sm : s ≤ 2147483647) (hz : s = 0 → nzB 6 = true) (ha : 0 < s → naB 6 = true) :
    rightP ⟨6, s, en, d, k, on, wt, ex, c, l, n, P⟩ ↔ (true) = true ∧ (⟨6, s, en, d, k, on, wt, ex, c, l, n, P⟩) = bare 6 s := by
  constructor
  · rintro ⟨_, _, _, _, _, _, h1, h2, h3, h4, h5, h6, h7, h8, h9, h10, h11, h12, h13, h14, h15, h16⟩
    simp at h1 h2 h3 h4 h5 h6 h7 h8 h9 h10 h11 h12 h13 h14 h15 h16
    simp_all
  · rintro ⟨hok, hg⟩
    simp [bare] at hg
    refine ⟨show (0 : Int) ≤ 6 by decide, show (6 : Int) ≤ 11 by decide, s0, sm, fun hh => ?_, fun hh => ?_, ?_, ?_, ?_, ?_, ?_, ?_, ?_, ?_, ?_, ?_, ?_, ?_, ?_, ?_, ?_, ?_⟩
    · have := hz hh
      simp [nzB] at this ⊢
    · have := ha hh
      simp [naB] at this ⊢
    all_goals (try simp_all [pmsB, fourB])
theorem right_7 (s k : Int) (en : Bool) (d : ByteArray) (on wt c l n : Int) (ex : Bool) (P : List Prm) (s0 : 0 ≤ s) (sm : s ≤ 2147483647) (hz : s = 0 → nzB 7 = true) (ha : 0 < s → naB 7 = true) :
    rightP ⟨7, s, en, d, k, on, wt, ex, c, l, n, P⟩ ↔ (decide ((d.size : Int) = 8)) = true ∧ (⟨7, s, en, nilS, k, on, wt, ex, c, l, n, P⟩) = bare 7 s := by
  constructor
  · rintro ⟨_, _, _, _, _, _, h1, h2, h3, h4, h5, h6, h7, h8, h9, h10, h11, h12, h13, h14, h15, h16⟩
    simp at h1 h2 h3 h4 h5 h6 h7 h8 h9 h10 h11 h12 h13 h14 h15 h16
    simp_all
  · rintro ⟨hok, hg⟩
    simp [bare] at hg
    refine ⟨show (0 : Int) ≤ 7 by decide, show (7 : Int) ≤ 11 by decide, s0, sm, fun hh => ?_, fun hh => ?_, ?_, ?_, ?_, ?_, ?_, ?_, ?_, ?_, ?_, ?_, ?_, ?_, ?_, ?_, ?_, ?_⟩
    · have := hz hh
      simp [nzB] at this ⊢
    · have := ha hh
      simp [naB] at this ⊢
    all_goals (try simp_all [pmsB, fourB])
theorem right_8 (s k : Int) (en : Bool) (d : ByteArray) (on wt c l n : Int) (ex : Bool) (P : List Prm) (s0 : 0 ≤ s) (sm : s ≤ 2147483647) (hz : s = 0 → nzB 8 = true) (ha : 0 < s → naB 8 = true) :
    rightP ⟨8, s, en, d, k, on, wt, ex, c, l, n, P⟩ ↔ (decide ((d.size : Int) = 8)) = true ∧ (⟨8, s, en, nilS, k, on, wt, ex, c, l, n, P⟩) = bare 8 s := by
  constructor
  · rintro ⟨_, _, _, _, _, _, h1, h2, h3, h4, h5, h6, h7, h8, h9, h10, h11, h12, h13, h14, h15, h16⟩
    simp at h1 h2 h3 h4 h5 h6 h7 h8 h9 h10 h11 h12 h13 h14 h15 h16
    simp_all
  · rintro ⟨hok, hg⟩
    simp [bare] at hg
    refine ⟨show (0 : Int) ≤ 8 by decide, show (8 : Int) ≤ 11 by decide, s0, sm, fun hh => ?_, fun hh => ?_, ?_, ?_, ?_, ?_, ?_, ?_, ?_, ?_, ?_, ?_, ?_, ?_, ?_, ?_, ?_, ?_⟩
    · have := hz hh
      simp [nzB] at this ⊢
    · have := ha hh
      simp [naB] at this ⊢
    all_goals (try simp_all [pmsB, fourB])
theorem right_9 (s k : Int) (en : Bool) (d : ByteArray) (on wt c l n : Int) (ex : Bool) (P : List Prm) (s0 : 0 ≤ s) (sm : s ≤ 2147483647) (hz : s = 0 → nzB 9 = true) (ha : 0 < s → naB 9 = true) :
    rightP ⟨9, s, en, d, k, on, wt, ex, c, l, n, P⟩ ↔ (fourB c && fourB l) = true ∧ (⟨9, s, en, d, k, on, wt, ex, 0, 0, n, P⟩) = bare 9 s := by
  constructor
  · rintro ⟨_, _, _, _, _, _, h1, h2, h3, h4, h5, h6, h7, h8, h9, h10, h11, h12, h13, h14, h15, h16⟩
    simp at h1 h2 h3 h4 h5 h6 h7 h8 h9 h10 h11 h12 h13 h14 h15 h16
    simp_all
  · rintro ⟨hok, hg⟩
    simp [bare] at hg
    refine ⟨show (0 : Int) ≤ 9 by decide, show (9 : Int) ≤ 11 by decide, s0, sm, fun hh => ?_, fun hh => ?_, ?_, ?_, ?_, ?_, ?_, ?_, ?_, ?_, ?_, ?_, ?_, ?_, ?_, ?_, ?_, ?_⟩
    · have := hz hh
      simp [nzB] at this ⊢
    · have := ha hh
      simp [naB] at this ⊢
    all_goals (try simp_all [pmsB, fourB])
theorem right_10 (s k : Int) (en : Bool) (d : ByteArray) (on wt c l n : Int) (ex : Bool) (P : List Prm) (s0 : 0 ≤ s) (sm : s ≤ 2147483647) (hz : s = 0 → nzB 10 = true) (ha : 0 < s → naB 10 = true) :
    rightP ⟨10, s, en, d, k, on, wt, ex, c, l, n, P⟩ ↔ (fourB n) = true ∧ (⟨10, s, en, d, k, on, wt, ex, c, l, 0, P⟩) = bare 10 s := by
  constructor
  · rintro ⟨_, _, _, _, _, _, h1, h2, h3, h4, h5, h6, h7, h8, h9, h10, h11, h12, h13, h14, h15, h16⟩
    simp at h1 h2 h3 h4 h5 h6 h7 h8 h9 h10 h11 h12 h13 h14 h15 h16
    simp_all
  · rintro ⟨hok, hg⟩
    simp [bare] at hg
    refine ⟨show (0 : Int) ≤ 10 by decide, show (10 : Int) ≤ 11 by decide, s0, sm, fun hh => ?_, fun hh => ?_, ?_, ?_, ?_, ?_, ?_, ?_, ?_, ?_, ?_, ?_, ?_, ?_, ?_, ?_, ?_, ?_⟩
    · have := hz hh
      simp [nzB] at this ⊢
    · have := ha hh
      simp [naB] at this ⊢
    all_goals (try simp_all [pmsB, fourB])
theorem right_11 (s k : Int) (en : Bool) (d : ByteArray) (on wt c l n : Int) (ex : Bool) (P : List Prm) (s0 : 0 ≤ s) (sm : s ≤ 2147483647) (hz : s = 0 → nzB 11 = true) (ha : 0 < s → naB 11 = true) :
    rightP ⟨11, s, en, d, k, on, wt, ex, c, l, n, P⟩ ↔ (fourB n) = true ∧ (⟨11, s, en, d, k, on, wt, ex, c, l, 0, P⟩) = bare 11 s := by
  constructor
  · rintro ⟨_, _, _, _, _, _, h1, h2, h3, h4, h5, h6, h7, h8, h9, h10, h11, h12, h13, h14, h15, h16⟩
    simp at h1 h2 h3 h4 h5 h6 h7 h8 h9 h10 h11 h12 h13 h14 h15 h16
    simp_all
  · rintro ⟨hok, hg⟩
    simp [bare] at hg
    refine ⟨show (0 : Int) ≤ 11 by decide, show (11 : Int) ≤ 11 by decide, s0, sm, fun hh => ?_, fun hh => ?_, ?_, ?_, ?_, ?_, ?_, ?_, ?_, ?_, ?_, ?_, ?_, ?_, ?_, ?_, ?_, ?_⟩
    · have := hz hh
      simp [nzB] at this ⊢
    · have := ha hh
      simp [naB] at this ⊢
    all_goals (try simp_all [pmsB, fourB])
theorem Check_any (f : Frm) {A : Option Addr} {m cap : Nat} (w : World) (hP : PmIs w (.slice A m cap) f.P) (hT : Nds w) (r : Bool) (hr : r = true ↔ rightP f) : Calls Tryd.prog 18 #[frmV f (.slice A m cap)] w (CkPost w r) := by
  have no : ¬ rightP f → r = false := fun h => by
    cases r
    · rfl
    · exact absurd (hr.1 rfl) h
  by_cases hk : f.t < 0 ∨ 11 < f.t
  · obtain rfl := no (fun h => by have := h.t0; have := h.t11; omega)
    exact Check_out f w hk
  by_cases hs : f.s < 0 ∨ 2147483647 < f.s
  · obtain rfl := no (fun h => by have := h.s0; have := h.sm; omega)
    exact Check_s f w hT (by omega) (by omega) (by rcases hs with h | h <;> simp [h])
  obtain ⟨t, s, en, d, k, on, wt, ex, c, l, n, P⟩ := f
  simp only at hk hs hP
  have s0 : 0 ≤ s := by omega
  have sm : s ≤ 2147483647 := by omega
  have bad : ∀ {T : Int}, T = t → 0 ≤ T → T ≤ 11 → ¬ ((s = 0 → nzB T = true) ∧ (0 < s → naB T = true)) → Calls Tryd.prog 18 #[frmV ⟨T, s, en, d, k, on, wt, ex, c, l, n, P⟩ (.slice A m cap)] w (CkPost w r) := by
    intro T e h0 h11 h
    subst e
    obtain rfl := no (fun hh => h ⟨fun e => by have := hh.zero e; simp [nzB]; exact this, fun e => by have := hh.one e; simp [naB]; exact this⟩)
    refine Check_s _ w hT h0 h11 ?_
    by_cases e : s = 0
    · have : nzB T = false := by
        cases e2 : nzB T
        · rfl
        · exact absurd ⟨fun _ => e2, fun e3 => by omega⟩ h
      exact .inr (.inr (.inl ⟨e, this⟩))
    · have : naB T = false := by
        cases e2 : naB T
        · rfl
        · exact absurd ⟨fun e3 => absurd e3 e, fun _ => e2⟩ h
      exact .inr (.inr (.inr ⟨by show 0 < s; omega, this⟩))
  have ht : t = 0 ∨ t = 1 ∨ t = 2 ∨ t = 3 ∨ t = 4 ∨ t = 5 ∨ t = 6 ∨ t = 7 ∨ t = 8 ∨ t = 9 ∨ t = 10 ∨ t = 11 := by omega
  clear no
  rcases ht with rfl | rfl | rfl | rfl | rfl | rfl | rfl | rfl | rfl | rfl | rfl | rfl
  all_goals replace bad := bad rfl
  ·
    by_cases hs1 : (s = 0 → nzB 0 = true) ∧ (0 < s → naB 0 = true)
    · exact Check_mid _ _ w _ _ (fun W h => split_0 W) (fun W h => hP.go h) hT (show (0 : Int) ≤ 0 by decide) (show (0 : Int) ≤ 11 by decide) s0 sm hs1.1 hs1.2 r (hr.trans (right_0 s k en d on wt c l n ex P s0 sm hs1.1 hs1.2))
    · exact bad (by decide) (by decide) hs1
  ·
    by_cases hs1 : (s = 0 → nzB 1 = true) ∧ (0 < s → naB 1 = true)
    · exact Check_mid _ _ w _ _ (fun W h => split_1 W) (fun W h => hP.go h) hT (show (0 : Int) ≤ 1 by decide) (show (1 : Int) ≤ 11 by decide) s0 sm hs1.1 hs1.2 r (hr.trans (right_1 s k en d on wt c l n ex P s0 sm hs1.1 hs1.2))
    · exact bad (by decide) (by decide) hs1
  ·
    by_cases hs1 : (s = 0 → nzB 2 = true) ∧ (0 < s → naB 2 = true)
    · exact Check_mid _ _ w _ _ (fun W h => split_2 W) (fun W h => hP.go h) hT (show (0 : Int) ≤ 2 by decide) (show (2 : Int) ≤ 11 by decide) s0 sm hs1.1 hs1.2 r (hr.trans (right_2 s k en d on wt c l n ex P s0 sm hs1.1 hs1.2))
    · exact bad (by decide) (by decide) hs1
  ·
    by_cases hs1 : (s = 0 → nzB 3 = true) ∧ (0 < s → naB 3 = true)
    · exact Check_mid _ _ w _ _ (fun W h => split_3 W) (fun W h => hP.go h) hT (show (0 : Int) ≤ 3 by decide) (show (3 : Int) ≤ 11 by decide) s0 sm hs1.1 hs1.2 r (hr.trans (right_3 s k en d on wt c l n ex P s0 sm hs1.1 hs1.2))
    · exact bad (by decide) (by decide) hs1
  ·
    by_cases hs1 : (s = 0 → nzB 4 = true) ∧ (0 < s → naB 4 = true)
    · exact Check_mid _ _ w _ _ (fun W h => split_4 W) (fun W h => hP.go h) hT (show (0 : Int) ≤ 4 by decide) (show (4 : Int) ≤ 11 by decide) s0 sm hs1.1 hs1.2 r (hr.trans (right_4 s k en d on wt c l n ex P s0 sm hs1.1 hs1.2))
    · exact bad (by decide) (by decide) hs1
  · by_cases hs1 : (s = 0 → nzB 5 = true) ∧ (0 < s → naB 5 = true)
    · exact Check_mid _ _ w _ _ (fun W h => split_5 W (hP.go h)) (fun W h => PmIs.nil W) hT (show (0 : Int) ≤ 5 by decide) (show (5 : Int) ≤ 11 by decide) s0 sm hs1.1 hs1.2 r (hr.trans (right_5 s k en d on wt c l n ex P s0 sm hs1.1 hs1.2))
    · exact bad (by decide) (by decide) hs1
  ·
    by_cases hs1 : (s = 0 → nzB 6 = true) ∧ (0 < s → naB 6 = true)
    · exact Check_mid _ _ w _ _ (fun W h => split_6 W) (fun W h => hP.go h) hT (show (0 : Int) ≤ 6 by decide) (show (6 : Int) ≤ 11 by decide) s0 sm hs1.1 hs1.2 r (hr.trans (right_6 s k en d on wt c l n ex P s0 sm hs1.1 hs1.2))
    · exact bad (by decide) (by decide) hs1
  ·
    by_cases hs1 : (s = 0 → nzB 7 = true) ∧ (0 < s → naB 7 = true)
    · exact Check_mid _ _ w _ _ (fun W h => split_7 W) (fun W h => hP.go h) hT (show (0 : Int) ≤ 7 by decide) (show (7 : Int) ≤ 11 by decide) s0 sm hs1.1 hs1.2 r (hr.trans (right_7 s k en d on wt c l n ex P s0 sm hs1.1 hs1.2))
    · exact bad (by decide) (by decide) hs1
  ·
    by_cases hs1 : (s = 0 → nzB 8 = true) ∧ (0 < s → naB 8 = true)
    · exact Check_mid _ _ w _ _ (fun W h => split_8 W) (fun W h => hP.go h) hT (show (0 : Int) ≤ 8 by decide) (show (8 : Int) ≤ 11 by decide) s0 sm hs1.1 hs1.2 r (hr.trans (right_8 s k en d on wt c l n ex P s0 sm hs1.1 hs1.2))
    · exact bad (by decide) (by decide) hs1
  ·
    by_cases hs1 : (s = 0 → nzB 9 = true) ∧ (0 < s → naB 9 = true)
    · exact Check_mid _ _ w _ _ (fun W h => split_9 W) (fun W h => hP.go h) hT (show (0 : Int) ≤ 9 by decide) (show (9 : Int) ≤ 11 by decide) s0 sm hs1.1 hs1.2 r (hr.trans (right_9 s k en d on wt c l n ex P s0 sm hs1.1 hs1.2))
    · exact bad (by decide) (by decide) hs1
  ·
    by_cases hs1 : (s = 0 → nzB 10 = true) ∧ (0 < s → naB 10 = true)
    · exact Check_mid _ _ w _ _ (fun W h => split_10 W) (fun W h => hP.go h) hT (show (0 : Int) ≤ 10 by decide) (show (10 : Int) ≤ 11 by decide) s0 sm hs1.1 hs1.2 r (hr.trans (right_10 s k en d on wt c l n ex P s0 sm hs1.1 hs1.2))
    · exact bad (by decide) (by decide) hs1
  ·
    by_cases hs1 : (s = 0 → nzB 11 = true) ∧ (0 < s → naB 11 = true)
    · exact Check_mid _ _ w _ _ (fun W h => split_11 W) (fun W h => hP.go h) hT (show (0 : Int) ≤ 11 by decide) (show (11 : Int) ≤ 11 by decide) s0 sm hs1.1 hs1.2 r (hr.trans (right_11 s k en d on wt c l n ex P s0 sm hs1.1 hs1.2))
    · exact bad (by decide) (by decide) hs1
end Go.Proofs.YtgiplefnggnpcaaDoor
