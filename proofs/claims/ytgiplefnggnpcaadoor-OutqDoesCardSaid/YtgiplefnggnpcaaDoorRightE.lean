/- Whether a frame may be, by the document: type by type (5). -/
import Derived.Test.YtgiplefnggnpcaaDoorFright
namespace Go.Proofs.YtgiplefnggnpcaaDoor
open Go.RowKit Nd

set_option maxRecDepth 100000 in
set_option maxHeartbeats 8000000 in
theorem RRight_5n (s k : Int) (en : Bool) (d : ByteArray) (on wt c l n : Int) (ex : Bool) (P : List Prm) (A : Option Addr) (m cap : Nat) (w : World) (hm : m = P.length) (hm0 : ¬ 0 < m) (s0 : 0 ≤ s) (sm : s ≤ 2147483647) (hz : s = 0 → nzB 5 = true) (ha : 0 < s → naB 5 = true) (r : Bool)
    (hr : r = true ↔ (pmsB P) = true ∧ (⟨5, s, en, d, k, on, wt, ex, c, l, n, []⟩ : Frm) = bare 5 s) : Calls Tryd.prog 17 #[frmV ⟨5, s, en, d, k, on, wt, ex, c, l, n, P⟩ (.slice A m cap)] w fun x w' => x = .returned (.bool r) ∧ Only Nil w w' := by
  have hs : fourB s = true := by simp [fourB, s0, sm]
  have hF := Lib.hid (RFour_any s)
  rw [hs] at hF
  have HR := Lib.hid hr
  have HP : Hid (P = [] ↔ ¬ 0 < m) := Lib.hid (by rw [hm]; constructor <;> intro h <;> simp_all)
  have hDn := Lib.hid (nil_toList d)
  have hZ := Lib.hid (RZero_any 5)
  have hN := Lib.hid (ROne_any 5)
  have f0 : fourB 0 = true := rfl
  clear hr hs sm hm
  by_cases h : 0 < s
  · exact absurd (ha h) (by decide)
  obtain rfl : s = 0 := by omega
  rw [hz rfl] at hZ
  clear hz ha s0 h
  go_enter Tryd.func17, Tryd.ntmps17
  go_wp2_with (first
    | (go_at_call 20; (with_reducible refine (hF.out _).mono ?_); rintro e w1 ⟨rfl, rfl⟩)
    | (go_at_call 21; (with_reducible refine (hZ.out _).mono ?_); rintro e w1 ⟨rfl, rfl⟩)
    | (go_at_call 22; (with_reducible refine (hN.out _).mono ?_); rintro e w1 ⟨rfl, rfl⟩)
    | (go_at_call 23; (with_reducible refine (RNone_any _ _ _ _).mono ?_); rintro e w1 ⟨rfl, ho1⟩; obtain ⟨c0, c1, c2, c3, c4, c5, c6, c7, c8, c9, c10, c11⟩ := ((Blk.new w 31 (frC _ _)).kept ho1 (fun hh => hh)).frm; have zb := ((Blk.new w 31 (frC _ _)).kept ho1 (fun hh => hh)).lt)
    | (go_at_call 24; (with_reducible refine (RDep_any _ _ _ _).mono ?_); rintro e w2 ⟨rfl, ho2⟩; obtain ⟨e0, e1, e2, e3, e4, e5, e6, e7, e8, e9, e10, e11⟩ := (((Blk.new w 31 (frC _ _)).kept ho1 (fun hh => hh)).kept ho2 (fun hh => hh)).frm; have zc := (((Blk.new w 31 (frC _ _)).kept ho1 (fun hh => hh)).kept ho2 (fun hh => hh)).lt)
    )
  all_goals first
    | (go_ret; refine And.intro (retB HR.out ?_) ?_; rotate_left; (first | exact (Only.refl _ _).alloc _ | exact ((Only.refl _ _).alloc _).trans ho1 | exact (((Only.refl _ _).alloc _).trans ho1).trans ho2); have hPm := HP.out; have hD := hDn.out; simp_all [bare, noDep, pmsB]; done)
    | skip
  all_goals
    go_loop [4] (fun ii => ii = .int .i64 0) (fun _ => 0)
    case atStart => rfl
    case round =>
      obtain rfl := hrel
      go_wp2_with (first
        | (go_at_call 20; (with_reducible refine (RFour_any _ _).mono ?_); rintro e w3 ⟨rfl, rfl⟩)
        )
      all_goals
        go_ret
        refine And.intro (retB HR.out ?_) ?_
        rotate_left
        first | exact (Only.refl _ _).alloc _ | exact ((Only.refl _ _).alloc _).trans ho1 | exact (((Only.refl _ _).alloc _).trans ho1).trans ho2
        have hPm := HP.out
        have hD := hDn.out
        simp_all [bare, noDep, pmsB]
set_option maxRecDepth 100000 in
set_option maxHeartbeats 8000000 in
theorem RRight_5q (s k : Int) (en : Bool) (d : ByteArray) (on wt c l n : Int) (ex : Bool) (P : List Prm) (A : Option Addr) (m cap : Nat) (w : World) (hm : m = P.length) (hd0 : ¬ d.toList = []) (_hd1 : (!d.toList.isEmpty) = true) (s0 : 0 ≤ s) (sm : s ≤ 2147483647) (hz : s = 0 → nzB 5 = true) (ha : 0 < s → naB 5 = true) (r : Bool)
    (hr : r = true ↔ (pmsB P) = true ∧ (⟨5, s, en, d, k, on, wt, ex, c, l, n, []⟩ : Frm) = bare 5 s) : Calls Tryd.prog 17 #[frmV ⟨5, s, en, d, k, on, wt, ex, c, l, n, P⟩ (.slice A m cap)] w fun x w' => x = .returned (.bool r) ∧ Only Nil w w' := by
  have hs : fourB s = true := by simp [fourB, s0, sm]
  have hF := Lib.hid (RFour_any s)
  rw [hs] at hF
  have HR := Lib.hid hr
  have HP : Hid (P = [] ↔ ¬ 0 < m) := Lib.hid (by rw [hm]; constructor <;> intro h <;> simp_all)
  have hDn := Lib.hid (nil_toList d)
  have hZ := Lib.hid (RZero_any 5)
  have hN := Lib.hid (ROne_any 5)
  have f0 : fourB 0 = true := rfl
  clear hr hs sm hm
  by_cases h : 0 < s
  · exact absurd (ha h) (by decide)
  obtain rfl : s = 0 := by omega
  rw [hz rfl] at hZ
  clear hz ha s0 h
  go_enter Tryd.func17, Tryd.ntmps17
  go_wp2_with (first
    | (go_at_call 20; (with_reducible refine (hF.out _).mono ?_); rintro e w1 ⟨rfl, rfl⟩)
    | (go_at_call 21; (with_reducible refine (hZ.out _).mono ?_); rintro e w1 ⟨rfl, rfl⟩)
    | (go_at_call 22; (with_reducible refine (hN.out _).mono ?_); rintro e w1 ⟨rfl, rfl⟩)
    | (go_at_call 23; (with_reducible refine (RNone_any _ _ _ _).mono ?_); rintro e w1 ⟨rfl, ho1⟩; obtain ⟨c0, c1, c2, c3, c4, c5, c6, c7, c8, c9, c10, c11⟩ := ((Blk.new w 31 (frC _ _)).kept ho1 (fun hh => hh)).frm; have zb := ((Blk.new w 31 (frC _ _)).kept ho1 (fun hh => hh)).lt)
    | (go_at_call 24; (with_reducible refine (RDep_any _ _ _ _).mono ?_); rintro e w2 ⟨rfl, ho2⟩; obtain ⟨e0, e1, e2, e3, e4, e5, e6, e7, e8, e9, e10, e11⟩ := (((Blk.new w 31 (frC _ _)).kept ho1 (fun hh => hh)).kept ho2 (fun hh => hh)).frm; have zc := (((Blk.new w 31 (frC _ _)).kept ho1 (fun hh => hh)).kept ho2 (fun hh => hh)).lt)
    )
  all_goals
    go_ret
    refine And.intro (retB HR.out ?_) ?_
    rotate_left
    first | exact (Only.refl _ _).alloc _ | exact ((Only.refl _ _).alloc _).trans ho1 | exact (((Only.refl _ _).alloc _).trans ho1).trans ho2
    have hPm := HP.out
    have hD := hDn.out
    simp_all [bare, noDep]
set_option maxRecDepth 100000 in
set_option maxHeartbeats 8000000 in
theorem RRight_5p (s k : Int) (en : Bool) (d : ByteArray) (on wt c l n : Int) (ex : Bool) (P : List Prm) (A : Option Addr) (m cap : Nat) (w : World) (hm : m = P.length) (hPS : PmIs w (.slice A m cap) P) (hm0 : 0 < m) (hd0 : d.toList = []) (_hd1 : (!d.toList.isEmpty) = false) (s0 : 0 ≤ s) (sm : s ≤ 2147483647) (hz : s = 0 → nzB 5 = true) (ha : 0 < s → naB 5 = true) (r : Bool)
    (hr : r = true ↔ (pmsB P) = true ∧ (⟨5, s, en, d, k, on, wt, ex, c, l, n, []⟩ : Frm) = bare 5 s) : Calls Tryd.prog 17 #[frmV ⟨5, s, en, d, k, on, wt, ex, c, l, n, P⟩ (.slice A m cap)] w fun x w' => x = .returned (.bool r) ∧ Only Nil w w' := by
  have hs : fourB s = true := by simp [fourB, s0, sm]
  have hF := Lib.hid (RFour_any s)
  rw [hs] at hF
  have HR := Lib.hid hr
  have HP : Hid (P = [] ↔ ¬ 0 < m) := Lib.hid (by rw [hm]; constructor <;> intro h <;> simp_all)
  have hDn := Lib.hid (nil_toList d)
  have hZ := Lib.hid (RZero_any 5)
  have hN := Lib.hid (ROne_any 5)
  have f0 : fourB 0 = true := rfl
  have HM := Lib.hid hm
  obtain ⟨A', cap', e, hl1, hm1, hS1⟩ := hPS
  injection e with e1 e2 e3
  subst e1 e3
  have HS1 := Lib.hid hS1
  rw [← hm] at hl1
  unfold maxLen at hm1
  clear hr hs sm hm e2 hS1
  by_cases h : 0 < s
  · exact absurd (ha h) (by decide)
  obtain rfl : s = 0 := by omega
  rw [hz rfl] at hZ
  clear hz ha s0 h
  go_enter Tryd.func17, Tryd.ntmps17
  go_wp2_with (first
    | (go_at_call 20; (with_reducible refine (hF.out _).mono ?_); rintro e w1 ⟨rfl, rfl⟩)
    | (go_at_call 21; (with_reducible refine (hZ.out _).mono ?_); rintro e w1 ⟨rfl, rfl⟩)
    | (go_at_call 22; (with_reducible refine (hN.out _).mono ?_); rintro e w1 ⟨rfl, rfl⟩)
    | (go_at_call 23; (with_reducible refine (RNone_any _ _ _ _).mono ?_); rintro e w1 ⟨rfl, ho1⟩; obtain ⟨c0, c1, c2, c3, c4, c5, c6, c7, c8, c9, c10, c11⟩ := ((Blk.new w 31 (frC _ _)).kept ho1 (fun hh => hh)).frm; have zb := ((Blk.new w 31 (frC _ _)).kept ho1 (fun hh => hh)).lt)
    | (go_at_call 24; (with_reducible refine (RDep_any _ _ _ _).mono ?_); rintro e w2 ⟨rfl, ho2⟩; obtain ⟨e0, e1, e2, e3, e4, e5, e6, e7, e8, e9, e10, e11⟩ := (((Blk.new w 31 (frC _ _)).kept ho1 (fun hh => hh)).kept ho2 (fun hh => hh)).frm; have zc := (((Blk.new w 31 (frC _ _)).kept ho1 (fun hh => hh)).kept ho2 (fun hh => hh)).lt)
    )
  all_goals first
    | (go_ret; refine And.intro (retB HR.out ?_) ?_; rotate_left; (first | exact (Only.refl _ _).alloc _ | exact ((Only.refl _ _).alloc _).trans ho1 | exact (((Only.refl _ _).alloc _).trans ho1).trans ho2); have hPm := HP.out; have hD := hDn.out; simp_all [bare, noDep]; done)
    | skip
  all_goals first
    | (exfalso; have h9 : ¬ d.toList = [] := by assumption; have h8 : (!d.toList.isEmpty) = false := by assumption; simp at h8; exact h9 h8)
    | skip
  all_goals
    obtain ⟨W0, hW0⟩ : ∃ W0, Hid (W0 = w1) := ⟨w1, Lib.hid rfl⟩
    go_loop [4] (fun ii => ∃ j : Nat, j ≤ m ∧ ii = .int .i64 j ∧ Hid ((P.take j).all pmB = true)) (fun ii => m - (intOf ii).toNat)
    case atStart => exact ⟨0, Nat.zero_le _, rfl, Lib.hid (by simp)⟩
    case round =>
      obtain ⟨j, hj, rfl, ha⟩ := hrel
      by_cases hlt : j < m
      · have hlt' : (j : Int) < m := by omega
        obtain ⟨b1, o1, x1, rfl, hb1, hx1, _, hc1⟩ := (HS1.out.go (((Only.refl _ _).alloc _).trans ho1)).at_ (k := j) (by have := HM.out; omega)
        have HX := Lib.hid hx1
        obtain ⟨i1, v1⟩ := x1
        have p0 := hc1 0 (by decide)
        have p1 := hc1 1 (by decide)
        simp [encPm] at p0 p1
        clear hc1 hx1
        have hFv := Lib.hid (RFour_any v1)
        cases hb : pmB ⟨i1, v1⟩
        · have HA := Lib.hid (pms_bad HX.out hb)
          simp only [pmB, Bool.and_eq_false_iff, decide_eq_false_iff_not] at hb
          rcases hb with (hb | hb) | hb
          · have hb0 : i1 < 0 := by omega
            clear hb
            go_wp2
            go_ret
            refine And.intro (retB HR.out ?_) ?_
            rotate_left
            exact ((Only.refl _ _).alloc _).trans ho1
            simp [HA.out]
          · have hb1 : 65535 < i1 := by omega
            clear hb
            have hb0 : ¬ i1 < 0 := by omega
            go_wp2
            go_ret
            refine And.intro (retB HR.out ?_) ?_
            rotate_left
            exact ((Only.refl _ _).alloc _).trans ho1
            simp [HA.out]
          · rw [hb] at hFv
            clear hb
            go_wp2_with (first
              | (go_at_call 20; (with_reducible refine (hFv.out _).mono ?_); rintro e w3 ⟨rfl, rfl⟩)
              )
            all_goals
              go_ret
              refine And.intro (retB HR.out ?_) ?_
              rotate_left
              exact ((Only.refl _ _).alloc _).trans ho1
              simp [HA.out]
        · have HA := Lib.hid (all_snoc ha.out HX.out hb)
          simp only [pmB, Bool.and_eq_true, decide_eq_true_eq] at hb
          obtain ⟨⟨g1, g2⟩, g3⟩ := hb
          rw [g3] at hFv
          clear g3
          go_wp2_with (first
            | (go_at_call 20; (with_reducible refine (hFv.out _).mono ?_); rintro e w3 ⟨rfl, rfl⟩)
            )
          go_round
          case rel => exact ⟨j + 1, by omega, by go_num, HA⟩
          case measure => simp [intOf]; omega
      · obtain rfl : j = m := by omega
        have HA := Lib.hid (show pmsB P = decide (j ≤ 8) by
          have h1 := ha.out
          rw [List.take_of_length_le (by have := HM.out; omega)] at h1
          unfold pmsB
          rw [h1, ← HM.out, Bool.and_true])
        go_wp2_with (first
          | (go_at_call 20; (with_reducible refine (RFour_any _ _).mono ?_); rintro e w3 ⟨rfl, rfl⟩)
          )
        all_goals
          go_ret
          refine And.intro (retB HR.out ?_) ?_
          rotate_left
          exact ((Only.refl _ _).alloc _).trans ho1
          have hD := hDn.out
          rw [HA.out]
          simp_all [bare, noDep]
          all_goals omega
theorem RRight_5 (s k : Int) (en : Bool) (d : ByteArray) (on wt c l n : Int) (ex : Bool) (P : List Prm) (A : Option Addr) (m cap : Nat) (w : World) (hm : m = P.length) (hPS : PmIs w (.slice A m cap) P) (s0 : 0 ≤ s) (sm : s ≤ 2147483647) (hz : s = 0 → nzB 5 = true) (ha : 0 < s → naB 5 = true) (r : Bool)
    (hr : r = true ↔ (pmsB P) = true ∧ (⟨5, s, en, d, k, on, wt, ex, c, l, n, []⟩ : Frm) = bare 5 s) : Calls Tryd.prog 17 #[frmV ⟨5, s, en, d, k, on, wt, ex, c, l, n, P⟩ (.slice A m cap)] w fun x w' => x = .returned (.bool r) ∧ Only Nil w w' := by
  by_cases hd : d.toList = []
  rotate_left
  · exact RRight_5q s k en d on wt c l n ex P A m cap w hm hd (by simpa using hd) s0 sm hz ha r hr
  by_cases h : 0 < m
  · exact RRight_5p s k en d on wt c l n ex P A m cap w hm hPS h hd (by simp [hd]) s0 sm hz ha r hr
  · exact RRight_5n s k en d on wt c l n ex P A m cap w hm h s0 sm hz ha r hr
end Go.Proofs.YtgiplefnggnpcaaDoor
