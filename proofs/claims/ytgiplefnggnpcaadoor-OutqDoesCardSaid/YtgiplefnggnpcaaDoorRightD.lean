/- Whether a frame may be, by the document: type by type (6, 10, 11). -/
import Derived.Test.YtgiplefnggnpcaaDoorFright
namespace Go.Proofs.YtgiplefnggnpcaaDoor
open Go.RowKit Nd

set_option maxRecDepth 100000 in
set_option maxHeartbeats 8000000 in
theorem RRight_6 (s k : Int) (en : Bool) (d : ByteArray) (on wt c l n : Int) (ex : Bool) (P : List Prm) (A : Option Addr) (m cap : Nat) (w : World) (hm : m = P.length) (s0 : 0 ≤ s) (sm : s ≤ 2147483647) (hz : s = 0 → nzB 6 = true) (ha : 0 < s → naB 6 = true) (r : Bool)
    (hr : r = true ↔ (true) = true ∧ (⟨6, s, en, d, k, on, wt, ex, c, l, n, P⟩ : Frm) = bare 6 s) : Calls Tryd.prog 17 #[frmV ⟨6, s, en, d, k, on, wt, ex, c, l, n, P⟩ (.slice A m cap)] w fun x w' => x = .returned (.bool r) ∧ Only Nil w w' := by
  have hs : fourB s = true := by simp [fourB, s0, sm]
  have hF := Lib.hid (RFour_any s)
  rw [hs] at hF
  have HR := Lib.hid hr
  have HP : Hid (P = [] ↔ ¬ 0 < m) := Lib.hid (by rw [hm]; constructor <;> intro h <;> simp_all)
  have hDn := Lib.hid (nil_toList d)
  have hZ := Lib.hid (RZero_any 6)
  have hN := Lib.hid (ROne_any 6)
  have f0 : fourB 0 = true := rfl
  clear hr hs sm hm
  by_cases h : 0 < s
  · exact absurd (ha h) (by decide)
  obtain rfl : s = 0 := by omega
  rw [hz rfl] at hZ
  clear hz ha s0 h
  go_enter Tryd.func17, Tryd.ntmps17
  go_wp2_with (first
    | (go_at_call 20; (with_reducible refine (hF.out _).mono ?_); rintro e w1 ⟨rfl, rfl⟩)
    | (go_at_call 21; (with_reducible refine (hZ.out _).mono ?_); rintro e w1 ⟨rfl, rfl⟩)
    | (go_at_call 22; (with_reducible refine (hN.out _).mono ?_); rintro e w1 ⟨rfl, rfl⟩)
    | (go_at_call 23; (with_reducible refine (RNone_any _ _ _ _).mono ?_); rintro e w1 ⟨rfl, ho1⟩; obtain ⟨c0, c1, c2, c3, c4, c5, c6, c7, c8, c9, c10, c11⟩ := ((Blk.new w 31 (frC _ _)).kept ho1 (fun hh => hh)).frm; have zb := ((Blk.new w 31 (frC _ _)).kept ho1 (fun hh => hh)).lt)
    | (go_at_call 24; (with_reducible refine (RDep_any _ _ _ _).mono ?_); rintro e w2 ⟨rfl, ho2⟩; obtain ⟨e0, e1, e2, e3, e4, e5, e6, e7, e8, e9, e10, e11⟩ := (((Blk.new w 31 (frC _ _)).kept ho1 (fun hh => hh)).kept ho2 (fun hh => hh)).frm; have zc := (((Blk.new w 31 (frC _ _)).kept ho1 (fun hh => hh)).kept ho2 (fun hh => hh)).lt)
    )
  all_goals first
    | (go_ret; refine And.intro (retB HR.out ?_) ?_; rotate_left; (first | exact (Only.refl _ _).alloc _ | exact ((Only.refl _ _).alloc _).trans ho1 | exact (((Only.refl _ _).alloc _).trans ho1).trans ho2); have hPm := HP.out; have hD := hDn.out; simp_all [bare, noDep]; done)
    | skip
  all_goals
    go_loop [4] (fun ii => ii = .int .i64 0) (fun _ => 0)
    case atStart => rfl
    case round =>
      obtain rfl := hrel
      go_wp2_with (first
        | (go_at_call 20; (with_reducible refine (RFour_any _ _).mono ?_); rintro e w3 ⟨rfl, rfl⟩)
        )
      all_goals
        go_ret
        refine And.intro (retB HR.out ?_) ?_
        rotate_left
        first | exact (Only.refl _ _).alloc _ | exact ((Only.refl _ _).alloc _).trans ho1 | exact (((Only.refl _ _).alloc _).trans ho1).trans ho2
        have hPm := HP.out
        have hD := hDn.out
        simp_all [bare, noDep]
set_option maxRecDepth 100000 in
set_option maxHeartbeats 8000000 in
theorem RRight_10 (s k : Int) (en : Bool) (d : ByteArray) (on wt c l n : Int) (ex : Bool) (P : List Prm) (A : Option Addr) (m cap : Nat) (w : World) (hm : m = P.length) (s0 : 0 ≤ s) (sm : s ≤ 2147483647) (hz : s = 0 → nzB 10 = true) (ha : 0 < s → naB 10 = true) (r : Bool)
    (hr : r = true ↔ (fourB n) = true ∧ (⟨10, s, en, d, k, on, wt, ex, c, l, 0, P⟩ : Frm) = bare 10 s) : Calls Tryd.prog 17 #[frmV ⟨10, s, en, d, k, on, wt, ex, c, l, n, P⟩ (.slice A m cap)] w fun x w' => x = .returned (.bool r) ∧ Only Nil w w' := by
  have hs : fourB s = true := by simp [fourB, s0, sm]
  have hF := Lib.hid (RFour_any s)
  rw [hs] at hF
  have HR := Lib.hid hr
  have HP : Hid (P = [] ↔ ¬ 0 < m) := Lib.hid (by rw [hm]; constructor <;> intro h <;> simp_all)
  have hDn := Lib.hid (nil_toList d)
  have hZ := Lib.hid (RZero_any 10)
  have hN := Lib.hid (ROne_any 10)
  have f0 : fourB 0 = true := rfl
  clear hr hs sm hm
  by_cases h : s = 0
  · subst h
    rw [hz rfl] at hZ
    clear hz ha s0
    go_enter Tryd.func17, Tryd.ntmps17
    go_wp2_with (first
      | (go_at_call 20; (with_reducible refine (hF.out _).mono ?_); rintro e w1 ⟨rfl, rfl⟩)
      | (go_at_call 21; (with_reducible refine (hZ.out _).mono ?_); rintro e w1 ⟨rfl, rfl⟩)
      | (go_at_call 22; (with_reducible refine (hN.out _).mono ?_); rintro e w1 ⟨rfl, rfl⟩)
      | (go_at_call 23; (with_reducible refine (RNone_any _ _ _ _).mono ?_); rintro e w1 ⟨rfl, ho1⟩; obtain ⟨c0, c1, c2, c3, c4, c5, c6, c7, c8, c9, c10, c11⟩ := ((Blk.new w 31 (frC _ _)).kept ho1 (fun hh => hh)).frm; have zb := ((Blk.new w 31 (frC _ _)).kept ho1 (fun hh => hh)).lt)
      | (go_at_call 24; (with_reducible refine (RDep_any _ _ _ _).mono ?_); rintro e w2 ⟨rfl, ho2⟩; obtain ⟨e0, e1, e2, e3, e4, e5, e6, e7, e8, e9, e10, e11⟩ := (((Blk.new w 31 (frC _ _)).kept ho1 (fun hh => hh)).kept ho2 (fun hh => hh)).frm; have zc := (((Blk.new w 31 (frC _ _)).kept ho1 (fun hh => hh)).kept ho2 (fun hh => hh)).lt)
      )
    all_goals first
      | (go_ret; refine And.intro (retB HR.out ?_) ?_; rotate_left; (first | exact (Only.refl _ _).alloc _ | exact ((Only.refl _ _).alloc _).trans ho1 | exact (((Only.refl _ _).alloc _).trans ho1).trans ho2); have hPm := HP.out; have hD := hDn.out; simp_all [bare, noDep]; done)
      | skip
    all_goals
      go_loop [4] (fun ii => ii = .int .i64 0) (fun _ => 0)
      case atStart => rfl
      case round =>
        obtain rfl := hrel
        go_wp2_with (first
          | (go_at_call 20; (with_reducible refine (RFour_any _ _).mono ?_); rintro e w3 ⟨rfl, rfl⟩)
          )
        all_goals
          go_ret
          refine And.intro (retB HR.out ?_) ?_
          rotate_left
          first | exact (Only.refl _ _).alloc _ | exact ((Only.refl _ _).alloc _).trans ho1 | exact (((Only.refl _ _).alloc _).trans ho1).trans ho2
          have hPm := HP.out
          have hD := hDn.out
          simp_all [bare, noDep]
  · rw [ha (by omega)] at hN
    have s1 : 0 < s := by omega
    clear hz ha s0
    go_enter Tryd.func17, Tryd.ntmps17
    go_wp2_with (first
      | (go_at_call 20; (with_reducible refine (hF.out _).mono ?_); rintro e w1 ⟨rfl, rfl⟩)
      | (go_at_call 21; (with_reducible refine (hZ.out _).mono ?_); rintro e w1 ⟨rfl, rfl⟩)
      | (go_at_call 22; (with_reducible refine (hN.out _).mono ?_); rintro e w1 ⟨rfl, rfl⟩)
      | (go_at_call 23; (with_reducible refine (RNone_any _ _ _ _).mono ?_); rintro e w1 ⟨rfl, ho1⟩; obtain ⟨c0, c1, c2, c3, c4, c5, c6, c7, c8, c9, c10, c11⟩ := ((Blk.new w 31 (frC _ _)).kept ho1 (fun hh => hh)).frm; have zb := ((Blk.new w 31 (frC _ _)).kept ho1 (fun hh => hh)).lt)
      | (go_at_call 24; (with_reducible refine (RDep_any _ _ _ _).mono ?_); rintro e w2 ⟨rfl, ho2⟩; obtain ⟨e0, e1, e2, e3, e4, e5, e6, e7, e8, e9, e10, e11⟩ := (((Blk.new w 31 (frC _ _)).kept ho1 (fun hh => hh)).kept ho2 (fun hh => hh)).frm; have zc := (((Blk.new w 31 (frC _ _)).kept ho1 (fun hh => hh)).kept ho2 (fun hh => hh)).lt)
      )
    all_goals first
      | (go_ret; refine And.intro (retB HR.out ?_) ?_; rotate_left; (first | exact (Only.refl _ _).alloc _ | exact ((Only.refl _ _).alloc _).trans ho1 | exact (((Only.refl _ _).alloc _).trans ho1).trans ho2); have hPm := HP.out; have hD := hDn.out; simp_all [bare, noDep]; done)
      | skip
    all_goals
      go_loop [4] (fun ii => ii = .int .i64 0) (fun _ => 0)
      case atStart => rfl
      case round =>
        obtain rfl := hrel
        go_wp2_with (first
          | (go_at_call 20; (with_reducible refine (RFour_any _ _).mono ?_); rintro e w3 ⟨rfl, rfl⟩)
          )
        all_goals
          go_ret
          refine And.intro (retB HR.out ?_) ?_
          rotate_left
          first | exact (Only.refl _ _).alloc _ | exact ((Only.refl _ _).alloc _).trans ho1 | exact (((Only.refl _ _).alloc _).trans ho1).trans ho2
          have hPm := HP.out
          have hD := hDn.out
          simp_all [bare, noDep]
set_option maxRecDepth 100000 in
set_option maxHeartbeats 8000000 in
theorem RRight_11 (s k : Int) (en : Bool) (d : ByteArray) (on wt c l n : Int) (ex : Bool) (P : List Prm) (A : Option Addr) (m cap : Nat) (w : World) (hm : m = P.length) (s0 : 0 ≤ s) (sm : s ≤ 2147483647) (hz : s = 0 → nzB 11 = true) (ha : 0 < s → naB 11 = true) (r : Bool)
    (hr : r = true ↔ (fourB n) = true ∧ (⟨11, s, en, d, k, on, wt, ex, c, l, 0, P⟩ : Frm) = bare 11 s) : Calls Tryd.prog 17 #[frmV ⟨11, s, en, d, k, on, wt, ex, c, l, n, P⟩ (.slice A m cap)] w fun x w' => x = .returned (.bool r) ∧ Only Nil w w' := by
  have hs : fourB s = true := by simp [fourB, s0, sm]
  have hF := Lib.hid (RFour_any s)
  rw [hs] at hF
  have HR := Lib.hid hr
  have HP : Hid (P = [] ↔ ¬ 0 < m) := Lib.hid (by rw [hm]; constructor <;> intro h <;> simp_all)
  have hDn := Lib.hid (nil_toList d)
  have hZ := Lib.hid (RZero_any 11)
  have hN := Lib.hid (ROne_any 11)
  have f0 : fourB 0 = true := rfl
  clear hr hs sm hm
  by_cases h : s = 0
  · subst h
    rw [hz rfl] at hZ
    clear hz ha s0
    go_enter Tryd.func17, Tryd.ntmps17
    go_wp2_with (first
      | (go_at_call 20; (with_reducible refine (hF.out _).mono ?_); rintro e w1 ⟨rfl, rfl⟩)
      | (go_at_call 21; (with_reducible refine (hZ.out _).mono ?_); rintro e w1 ⟨rfl, rfl⟩)
      | (go_at_call 22; (with_reducible refine (hN.out _).mono ?_); rintro e w1 ⟨rfl, rfl⟩)
      | (go_at_call 23; (with_reducible refine (RNone_any _ _ _ _).mono ?_); rintro e w1 ⟨rfl, ho1⟩; obtain ⟨c0, c1, c2, c3, c4, c5, c6, c7, c8, c9, c10, c11⟩ := ((Blk.new w 31 (frC _ _)).kept ho1 (fun hh => hh)).frm; have zb := ((Blk.new w 31 (frC _ _)).kept ho1 (fun hh => hh)).lt)
      | (go_at_call 24; (with_reducible refine (RDep_any _ _ _ _).mono ?_); rintro e w2 ⟨rfl, ho2⟩; obtain ⟨e0, e1, e2, e3, e4, e5, e6, e7, e8, e9, e10, e11⟩ := (((Blk.new w 31 (frC _ _)).kept ho1 (fun hh => hh)).kept ho2 (fun hh => hh)).frm; have zc := (((Blk.new w 31 (frC _ _)).kept ho1 (fun hh => hh)).kept ho2 (fun hh => hh)).lt)
      )
    all_goals first
      | (go_ret; refine And.intro (retB HR.out ?_) ?_; rotate_left; (first | exact (Only.refl _ _).alloc _ | exact ((Only.refl _ _).alloc _).trans ho1 | exact (((Only.refl _ _).alloc _).trans ho1).trans ho2); have hPm := HP.out; have hD := hDn.out; simp_all [bare, noDep]; done)
      | skip
    all_goals
      go_loop [4] (fun ii => ii = .int .i64 0) (fun _ => 0)
      case atStart => rfl
      case round =>
        obtain rfl := hrel
        go_wp2_with (first
          | (go_at_call 20; (with_reducible refine (RFour_any _ _).mono ?_); rintro e w3 ⟨rfl, rfl⟩)
          )
        all_goals
          go_ret
          refine And.intro (retB HR.out ?_) ?_
          rotate_left
          first | exact (Only.refl _ _).alloc _ | exact ((Only.refl _ _).alloc _).trans ho1 | exact (((Only.refl _ _).alloc _).trans ho1).trans ho2
          have hPm := HP.out
          have hD := hDn.out
          simp_all [bare, noDep]
  · rw [ha (by omega)] at hN
    have s1 : 0 < s := by omega
    clear hz ha s0
    go_enter Tryd.func17, Tryd.ntmps17
    go_wp2_with (first
      | (go_at_call 20; (with_reducible refine (hF.out _).mono ?_); rintro e w1 ⟨rfl, rfl⟩)
      | (go_at_call 21; (with_reducible refine (hZ.out _).mono ?_); rintro e w1 ⟨rfl, rfl⟩)
      | (go_at_call 22; (with_reducible refine (hN.out _).mono ?_); rintro e w1 ⟨rfl, rfl⟩)
      | (go_at_call 23; (with_reducible refine (RNone_any _ _ _ _).mono ?_); rintro e w1 ⟨rfl, ho1⟩; obtain ⟨c0, c1, c2, c3, c4, c5, c6, c7, c8, c9, c10, c11⟩ := ((Blk.new w 31 (frC _ _)).kept ho1 (fun hh => hh)).frm; have zb := ((Blk.new w 31 (frC _ _)).kept ho1 (fun hh => hh)).lt)
      | (go_at_call 24; (with_reducible refine (RDep_any _ _ _ _).mono ?_); rintro e w2 ⟨rfl, ho2⟩; obtain ⟨e0, e1, e2, e3, e4, e5, e6, e7, e8, e9, e10, e11⟩ := (((Blk.new w 31 (frC _ _)).kept ho1 (fun hh => hh)).kept ho2 (fun hh => hh)).frm; have zc := (((Blk.new w 31 (frC _ _)).kept ho1 (fun hh => hh)).kept ho2 (fun hh => hh)).lt)
      )
    all_goals first
      | (go_ret; refine And.intro (retB HR.out ?_) ?_; rotate_left; (first | exact (Only.refl _ _).alloc _ | exact ((Only.refl _ _).alloc _).trans ho1 | exact (((Only.refl _ _).alloc _).trans ho1).trans ho2); have hPm := HP.out; have hD := hDn.out; simp_all [bare, noDep]; done)
      | skip
    all_goals
      go_loop [4] (fun ii => ii = .int .i64 0) (fun _ => 0)
      case atStart => rfl
      case round =>
        obtain rfl := hrel
        go_wp2_with (first
          | (go_at_call 20; (with_reducible refine (RFour_any _ _).mono ?_); rintro e w3 ⟨rfl, rfl⟩)
          )
        all_goals
          go_ret
          refine And.intro (retB HR.out ?_) ?_
          rotate_left
          first | exact (Only.refl _ _).alloc _ | exact ((Only.refl _ _).alloc _).trans ho1 | exact (((Only.refl _ _).alloc _).trans ho1).trans ho2
          have hPm := HP.out
          have hD := hDn.out
          simp_all [bare, noDep]
end Go.Proofs.YtgiplefnggnpcaaDoor
