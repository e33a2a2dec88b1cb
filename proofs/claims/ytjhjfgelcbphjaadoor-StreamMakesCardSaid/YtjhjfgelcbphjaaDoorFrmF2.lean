/- Whether two frames are the same: frame.Same; the settings. No condition. -/

import Derived.Test.YtjhjfgelcbphjaaDoorFrmF
namespace Go.Proofs.YtjhjfgelcbphjaaDoor
open Go.RowKit

section
variable {w : World} {p q : Value}
set_option maxRecDepth 100000 in
set_option maxHeartbeats 4000000 in
theorem FSame_in (t s k : Int) (en : Bool) (d : ByteArray) (on wt c l n : Int) (ex : Bool) (P P' : List Prm) (hp : PmIs w p P) (hq : PmIs w q P') (hle : P.length = P'.length) (r : Bool) (hr : r = true ↔ P = P') :
    Calls Tryd.prog 37 #[frmV ⟨t, s, en, d, k, on, wt, ex, c, l, n, P⟩ p, frmV ⟨t, s, en, d, k, on, wt, ex, c, l, n, P'⟩ q] w fun x w' => x = .returned (.bool r) ∧ Only Nil w w' := by
  obtain ⟨A, cap, rfl, hl1, hm1, hS1⟩ := hp
  obtain ⟨A', cap', rfl, hl2, hm2, hS2⟩ := hq
  unfold maxLen at hm1 hm2
  rw [← hle] at hl2 ⊢
  obtain ⟨m, hm⟩ : ∃ m, m = P.length := ⟨_, rfl⟩
  rw [← hm] at hl1 hl2 hle ⊢
  have HM := Lib.hid hm
  have HL := Lib.hid hle
  have HS1 := Lib.hid hS1
  have HS2 := Lib.hid hS2
  have HR := Lib.hid hr
  clear hm hle hS1 hS2 hr
  go_enter Tryd.func37, Tryd.ntmps37
  go_wp2
  go_loopw [78] (fun ii wr => ∃ j : Nat, j ≤ m ∧ ii = .int .i64 j ∧ P.take j = P'.take j ∧ Two w wr A m cap A' cap') (fun ii _ => m - (intOf ii).toNat)
  case atStart =>
    refine ⟨0, Nat.zero_le _, rfl, rfl, ?_, ?_, ?_, ?_⟩
    · exact (Blk.alloc (Blk.new w 62 (frC ⟨t, s, en, d, k, on, wt, ex, c, l, n, P⟩ (.slice A m cap))) (.cells (frC ⟨t, s, en, d, k, on, wt, ex, c, l, n, P'⟩ (.slice A' m cap')) 62)).cell 11
    · simp
    · simp
    · exact ((Only.refl _ _).alloc _).alloc _
  case round =>
    obtain ⟨j, hj, rfl, hT0, c0, c1, z, ho⟩ := hrel
    have HT := Lib.hid hT0
    have z0 : w.heap.size < wr.heap.size := by omega
    have z1 : w.heap.size + 1 < wr.heap.size := by omega
    have HZ := Lib.hid z
    clear hT0 z
    by_cases hlt : j < m
    · obtain ⟨b1, o1, x1, rfl, hb1, hx1, _, hc1⟩ := (HS1.out.go ho).at_ (k := j) (by have := HM.out; omega)
      obtain ⟨b2, o2, x2, rfl, hb2, hx2, _, hc2⟩ := (HS2.out.go ho).at_ (k := j) (by have := HL.out; omega)
      have HX1 := Lib.hid hx1
      have HX2 := Lib.hid hx2
      clear hx1 hx2
      obtain ⟨i1, v1⟩ := x1
      obtain ⟨i2, v2⟩ := x2
      have p0 := hc1 0 (by decide)
      have p1 := hc1 1 (by decide)
      have q0 := hc2 0 (by decide)
      have q1 := hc2 1 (by decide)
      simp [encPm] at p0 p1 q0 q1
      clear hc1 hc2
      have hlt' : (j : Int) < m := by omega
      by_cases e1 : i1 = i2 ∧ v1 = v2
      · obtain ⟨rfl, rfl⟩ := e1
        have HT2 := Lib.hid (take_eq HT.out HX1.out HX2.out)
        have HO := Lib.hid (Two.go ⟨c0, c1, HZ.out, ho⟩)
        go_wp2
        go_region
        go_wp2
        go_roundw
        case rel => exact ⟨j + 1, by omega, by go_num, HT2.out, HO.out _ (by first | exact ((Only.refl _ _).alloc _).drew | exact (Only.refl _ _).drew)⟩
        case measure => simp [intOf]; omega
      · have hrf : r = false := by
          cases r
          · rfl
          · have e2 := HR.out.1 rfl
            subst e2
            have := HX1.out.symm.trans HX2.out
            injection this with this
            injection this with e3 e4
            exact absurd ⟨e3, e4⟩ e1
        subst hrf
        have HO := Lib.hid ho
        rcases (Classical.em (i1 = i2)).symm with e3 | rfl
        · clear e1
          go_wp2
          go_region
          go_wp2
          go_ret
          exact ⟨rfl, by first | exact (HO.out.alloc _).drew | exact HO.out.drew⟩
        · have e3 : ¬ v1 = v2 := fun e => e1 ⟨rfl, e⟩
          clear e1
          go_wp2
          go_region
          go_wp2
          go_ret
          exact ⟨rfl, by first | exact (HO.out.alloc _).drew | exact HO.out.drew⟩
    · obtain rfl : j = m := by omega
      have hrt : r = true := HR.out.2 (by
        have h1 := HT.out
        have a1 := HM.out
        have a2 := HL.out
        rwa [List.take_of_length_le (by omega), List.take_of_length_le (by omega)] at h1)
      subst hrt
      go_wp2
      go_ret
      exact ⟨rfl, ho⟩
/-- whether two frames are the same -/
theorem FSame_any (f g : Frm) (hp : PmIs w p f.P) (hq : PmIs w q g.P) (r : Bool) (hr : r = true ↔ f = g) : Calls Tryd.prog 37 #[frmV f p, frmV g q] w fun x w' => x = .returned (.bool r) ∧ Only Nil w w' := by
  obtain ⟨t, s, en, d, k, on, wt, ex, c, l, n, P⟩ := f
  obtain ⟨t', s', en', d', k', on', wt', ex', c', l', n', P'⟩ := g
  by_cases h1 : t = t' ∧ s = s' ∧ en = en' ∧ d = d' ∧ k = k'
  · obtain ⟨rfl, rfl, rfl, rfl, rfl⟩ := h1
    by_cases h2 : on = on' ∧ wt = wt' ∧ ex = ex' ∧ c = c' ∧ l = l' ∧ n = n' ∧ P.length = P'.length
    · obtain ⟨rfl, rfl, rfl, rfl, rfl, rfl, h3⟩ := h2
      exact FSame_in t s k en d on wt c l n ex P P' hp hq h3 r (by rw [hr]; simp)
    · have : r = false := by
        cases r
        · rfl
        · have e := hr.1 rfl
          injection e with a1 a2 a3 a4 a5 a6 a7 a8 a9 a10 a11 a12
          exact absurd ⟨a6, a7, a8, a9, a10, a11, by rw [a12]⟩ h2
      subst this
      exact FSame_2 t s k en d on wt c l n ex P on' wt' c' l' n' ex' P' hp hq h2
  · have : r = false := by
      cases r
      · rfl
      · have e := hr.1 rfl
        injection e with a1 a2 a3 a4 a5 a6 a7 a8 a9 a10 a11 a12
        exact absurd ⟨a1, a2, a3, a4, a5⟩ h1
    subst this
    exact FSame_1 t s k en d on wt c l n ex P t' s' k' en' d' on' wt' c' l' n' ex' P' hp hq h1
end
end Go.Proofs.YtjhjfgelcbphjaaDoor
