/- Whether a frame may be, by the document: type by type (4, 0, 1). -/
import Derived.Test.YtgiplefnggnpcaaDoorFright
namespace Go.Proofs.YtgiplefnggnpcaaDoor
open Go.RowKit Nd

set_option maxRecDepth 100000 in
set_option maxHeartbeats 8000000 in
theorem RRight_4 (s k : Int) (en : Bool) (d : ByteArray) (on wt c l n : Int) (ex : Bool) (P : List Prm) (A : Option Addr) (m cap : Nat) (w : World) (hm : m = P.length) (s0 : 0 ≤ s) (sm : s ≤ 2147483647) (hz : s = 0 → nzB 4 = true) (ha : 0 < s → naB 4 = true) (r : Bool)
    (hr : r = true ↔ (fourB c) = true ∧ (⟨4, s, en, d, k, on, wt, ex, 0, l, n, P⟩ : Frm) = bare 4 s) : Calls Tryd.prog 17 #[frmV ⟨4, s, en, d, k, on, wt, ex, c, l, n, P⟩ (.slice A m cap)] w fun x w' => x = .returned (.bool r) ∧ Only Nil w w' := by
  have hs : fourB s = true := by simp [fourB, s0, sm]
  have hF := Lib.hid (RFour_any s)
  rw [hs] at hF
  have HR := Lib.hid hr
  have HP : Hid (P = [] ↔ ¬ 0 < m) := Lib.hid (by rw [hm]; constructor <;> intro h <;> simp_all)
  have hDn := Lib.hid (nil_toList d)
  have hZ := Lib.hid (RZero_any 4)
  have hN := Lib.hid (ROne_any 4)
  have f0 : fourB 0 = true := rfl
  clear hr hs sm hm
  by_cases h : s = 0
  · exact absurd (hz h) (by decide)
  rw [ha (by omega)] at hN
  have s1 : 0 < s := by omega
  clear hz ha s0
  go_enter Tryd.func17, Tryd.ntmps17
  go_wp2_with (first
    | (go_at_call 20; (with_reducible refine (hF.out _).mono ?_); rintro e w1 ⟨rfl, rfl⟩)
    | (go_at_call 21; (with_reducible refine (hZ.out _).mono ?_); rintro e w1 ⟨rfl, rfl⟩)
    | (go_at_call 22; (with_reducible refine (hN.out _).mono ?_); rintro e w1 ⟨rfl, rfl⟩)
    | (go_at_call 23; (with_reducible refine (RNone_any _ _ _ _).mono ?_); rintro e w1 ⟨rfl, ho1⟩; obtain ⟨c0, c1, c2, c3, c4, c5, c6, c7, c8, c9, c10, c11⟩ := ((Blk.new w 31 (frC _ _)).kept ho1 (fun hh => hh)).frm; have zb := ((Blk.new w 31 (frC _ _)).kept ho1 (fun hh => hh)).lt)
    | (go_at_call 24; (with_reducible refine (RDep_any _ _ _ _).mono ?_); rintro e w2 ⟨rfl, ho2⟩; obtain ⟨e0, e1, e2, e3, e4, e5, e6, e7, e8, e9, e10, e11⟩ := (((Blk.new w 31 (frC _ _)).kept ho1 (fun hh => hh)).kept ho2 (fun hh => hh)).frm; have zc := (((Blk.new w 31 (frC _ _)).kept ho1 (fun hh => hh)).kept ho2 (fun hh => hh)).lt)
    )
  all_goals first
    | (go_ret; refine And.intro (retB HR.out ?_) ?_; rotate_left; (first | exact (Only.refl _ _).alloc _ | exact ((Only.refl _ _).alloc _).trans ho1 | exact (((Only.refl _ _).alloc _).trans ho1).trans ho2); have hPm := HP.out; have hD := hDn.out; simp_all [bare, noDep]; done)
    | skip
  all_goals
    go_loop [4] (fun ii => ii = .int .i64 0) (fun _ => 0)
    case atStart => rfl
    case round =>
      obtain rfl := hrel
      go_wp2_with (first
        | (go_at_call 20; (with_reducible refine (RFour_any _ _).mono ?_); rintro e w3 ⟨rfl, rfl⟩)
        )
      all_goals
        go_ret
        refine And.intro (retB HR.out ?_) ?_
        rotate_left
        first | exact (Only.refl _ _).alloc _ | exact ((Only.refl _ _).alloc _).trans ho1 | exact (((Only.refl _ _).alloc _).trans ho1).trans ho2
        have hPm := HP.out
        have hD := hDn.out
        simp_all [bare, noDep]
set_option maxRecDepth 100000 in
set_option maxHeartbeats 8000000 in
theorem RRight_0 (s k : Int) (en : Bool) (d : ByteArray) (on wt c l n : Int) (ex : Bool) (P : List Prm) (A : Option Addr) (m cap : Nat) (w : World) (hm : m = P.length) (s0 : 0 ≤ s) (sm : s ≤ 2147483647) (hz : s = 0 → nzB 0 = true) (ha : 0 < s → naB 0 = true) (r : Bool)
    (hr : r = true ↔ (decide ((d.size : Int) ≤ 256)) = true ∧ (⟨0, s, false, nilS, k, on, wt, ex, c, l, n, P⟩ : Frm) = bare 0 s) : Calls Tryd.prog 17 #[frmV ⟨0, s, en, d, k, on, wt, ex, c, l, n, P⟩ (.slice A m cap)] w fun x w' => x = .returned (.bool r) ∧ Only Nil w w' := by
  have hs : fourB s = true := by simp [fourB, s0, sm]
  have hF := Lib.hid (RFour_any s)
  rw [hs] at hF
  have HR := Lib.hid hr
  have HP : Hid (P = [] ↔ ¬ 0 < m) := Lib.hid (by rw [hm]; constructor <;> intro h <;> simp_all)
  have hDn := Lib.hid (nil_toList d)
  have hZ := Lib.hid (RZero_any 0)
  have hN := Lib.hid (ROne_any 0)
  have f0 : fourB 0 = true := rfl
  clear hr hs sm hm
  by_cases h : s = 0
  · exact absurd (hz h) (by decide)
  rw [ha (by omega)] at hN
  have s1 : 0 < s := by omega
  clear hz ha s0
  go_enter Tryd.func17, Tryd.ntmps17
  go_wp2_with (first
    | (go_at_call 20; (with_reducible refine (hF.out _).mono ?_); rintro e w1 ⟨rfl, rfl⟩)
    | (go_at_call 21; (with_reducible refine (hZ.out _).mono ?_); rintro e w1 ⟨rfl, rfl⟩)
    | (go_at_call 22; (with_reducible refine (hN.out _).mono ?_); rintro e w1 ⟨rfl, rfl⟩)
    | (go_at_call 23; (with_reducible refine (RNone_any _ _ _ _).mono ?_); rintro e w1 ⟨rfl, ho1⟩; obtain ⟨c0, c1, c2, c3, c4, c5, c6, c7, c8, c9, c10, c11⟩ := ((Blk.new w 31 (frC _ _)).kept ho1 (fun hh => hh)).frm; have zb := ((Blk.new w 31 (frC _ _)).kept ho1 (fun hh => hh)).lt)
    | (go_at_call 24; (with_reducible refine (RDep_any _ _ _ _).mono ?_); rintro e w2 ⟨rfl, ho2⟩; obtain ⟨e0, e1, e2, e3, e4, e5, e6, e7, e8, e9, e10, e11⟩ := (((Blk.new w 31 (frC _ _)).kept ho1 (fun hh => hh)).kept ho2 (fun hh => hh)).frm; have zc := (((Blk.new w 31 (frC _ _)).kept ho1 (fun hh => hh)).kept ho2 (fun hh => hh)).lt)
    )
  all_goals first
    | (go_ret; refine And.intro (retB HR.out ?_) ?_; rotate_left; (first | exact (Only.refl _ _).alloc _ | exact ((Only.refl _ _).alloc _).trans ho1 | exact (((Only.refl _ _).alloc _).trans ho1).trans ho2); have hPm := HP.out; have hD := hDn.out; simp_all [bare, noDep]; done)
    | skip
  all_goals
    go_loop [4] (fun ii => ii = .int .i64 0) (fun _ => 0)
    case atStart => rfl
    case round =>
      obtain rfl := hrel
      go_wp2_with (first
        | (go_at_call 20; (with_reducible refine (RFour_any _ _).mono ?_); rintro e w3 ⟨rfl, rfl⟩)
        )
      all_goals
        go_ret
        refine And.intro (retB HR.out ?_) ?_
        rotate_left
        first | exact (Only.refl _ _).alloc _ | exact ((Only.refl _ _).alloc _).trans ho1 | exact (((Only.refl _ _).alloc _).trans ho1).trans ho2
        have hPm := HP.out
        have hD := hDn.out
        simp_all [bare, noDep]
set_option maxRecDepth 100000 in
set_option maxHeartbeats 8000000 in
theorem RRight_1 (s k : Int) (en : Bool) (d : ByteArray) (on wt c l n : Int) (ex : Bool) (P : List Prm) (A : Option Addr) (m cap : Nat) (w : World) (hm : m = P.length) (s0 : 0 ≤ s) (sm : s ≤ 2147483647) (hz : s = 0 → nzB 1 = true) (ha : 0 < s → naB 1 = true) (r : Bool)
    (hr : r = true ↔ (decide ((d.size : Int) ≤ 256)) = true ∧ (⟨1, s, false, nilS, k, on, wt, ex, c, l, n, P⟩ : Frm) = bare 1 s) : Calls Tryd.prog 17 #[frmV ⟨1, s, en, d, k, on, wt, ex, c, l, n, P⟩ (.slice A m cap)] w fun x w' => x = .returned (.bool r) ∧ Only Nil w w' := by
  have hs : fourB s = true := by simp [fourB, s0, sm]
  have hF := Lib.hid (RFour_any s)
  rw [hs] at hF
  have HR := Lib.hid hr
  have HP : Hid (P = [] ↔ ¬ 0 < m) := Lib.hid (by rw [hm]; constructor <;> intro h <;> simp_all)
  have hDn := Lib.hid (nil_toList d)
  have hZ := Lib.hid (RZero_any 1)
  have hN := Lib.hid (ROne_any 1)
  have f0 : fourB 0 = true := rfl
  clear hr hs sm hm
  by_cases h : s = 0
  · exact absurd (hz h) (by decide)
  rw [ha (by omega)] at hN
  have s1 : 0 < s := by omega
  clear hz ha s0
  go_enter Tryd.func17, Tryd.ntmps17
  go_wp2_with (first
    | (go_at_call 20; (with_reducible refine (hF.out _).mono ?_); rintro e w1 ⟨rfl, rfl⟩)
    | (go_at_call 21; (with_reducible refine (hZ.out _).mono ?_); rintro e w1 ⟨rfl, rfl⟩)
    | (go_at_call 22; (with_reducible refine (hN.out _).mono ?_); rintro e w1 ⟨rfl, rfl⟩)
    | (go_at_call 23; (with_reducible refine (RNone_any _ _ _ _).mono ?_); rintro e w1 ⟨rfl, ho1⟩; obtain ⟨c0, c1, c2, c3, c4, c5, c6, c7, c8, c9, c10, c11⟩ := ((Blk.new w 31 (frC _ _)).kept ho1 (fun hh => hh)).frm; have zb := ((Blk.new w 31 (frC _ _)).kept ho1 (fun hh => hh)).lt)
    | (go_at_call 24; (with_reducible refine (RDep_any _ _ _ _).mono ?_); rintro e w2 ⟨rfl, ho2⟩; obtain ⟨e0, e1, e2, e3, e4, e5, e6, e7, e8, e9, e10, e11⟩ := (((Blk.new w 31 (frC _ _)).kept ho1 (fun hh => hh)).kept ho2 (fun hh => hh)).frm; have zc := (((Blk.new w 31 (frC _ _)).kept ho1 (fun hh => hh)).kept ho2 (fun hh => hh)).lt)
    )
  all_goals first
    | (go_ret; refine And.intro (retB HR.out ?_) ?_; rotate_left; (first | exact (Only.refl _ _).alloc _ | exact ((Only.refl _ _).alloc _).trans ho1 | exact (((Only.refl _ _).alloc _).trans ho1).trans ho2); have hPm := HP.out; have hD := hDn.out; simp_all [bare, noDep]; done)
    | skip
  all_goals
    go_loop [4] (fun ii => ii = .int .i64 0) (fun _ => 0)
    case atStart => rfl
    case round =>
      obtain rfl := hrel
      go_wp2_with (first
        | (go_at_call 20; (with_reducible refine (RFour_any _ _).mono ?_); rintro e w3 ⟨rfl, rfl⟩)
        )
      all_goals
        go_ret
        refine And.intro (retB HR.out ?_) ?_
        rotate_left
        first | exact (Only.refl _ _).alloc _ | exact ((Only.refl _ _).alloc _).trans ho1 | exact (((Only.refl _ _).alloc _).trans ho1).trans ho2
        have hPm := HP.out
        have hD := hDn.out
        simp_all [bare, noDep]
end Go.Proofs.YtgiplefnggnpcaaDoor
