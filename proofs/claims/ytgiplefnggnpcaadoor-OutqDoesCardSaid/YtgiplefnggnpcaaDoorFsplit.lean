/- Whether a frame may be: frame.split, type by type. -/
import Derived.Test.YtgiplefnggnpcaaDoorFcheck
namespace Go.Proofs.YtgiplefnggnpcaaDoor
open Go.RowKit

abbrev zf : Frm := ⟨0, 0, false, nilS, 0, 0, 0, false, 0, 0, 0, []⟩
theorem new1 (w : World) (t : TypeId) (a b c : Array Value) : Blk (((w.alloc (.cells a t)).alloc (.cells b t)).alloc (.cells c t)).drew (w.heap.size + 1) t b := by
  have := (Blk.new (w.alloc (.cells a t)) t b).alloc (.cells c t)
  simpa using this.drew
theorem new2 (w : World) (t : TypeId) (a b c : Array Value) : Blk (((w.alloc (.cells a t)).alloc (.cells b t)).alloc (.cells c t)).drew (w.heap.size + 1 + 1) t c := by
  have := Blk.new ((w.alloc (.cells a t)).alloc (.cells b t)) t c
  simpa using this.drew
section
variable {w : World} {A : Option Addr} {m cap : Nat} {s k on wt c l n : Int} {en ex : Bool} {d : ByteArray} {P : List Prm}
def SpPost (w : World) (ok : Bool) (g : Frm) (q : Value) (x : Ending) (w' : World) : Prop := x = .returned (.tuple #[.bool ok, frmV g q]) ∧ Only Nil w w'
set_option maxRecDepth 100000 in
set_option maxHeartbeats 4000000 in
theorem split_0 (w : World) : Calls Tryd.prog 26 #[frmV ⟨0, s, en, d, k, on, wt, ex, c, l, n, P⟩ (.slice A m cap)] w (SpPost w (decide ((d.size : Int) ≤ 256)) ⟨0, s, false, nilS, k, on, wt, ex, c, l, n, P⟩ (.slice A m cap)) := by
  unfold SpPost
  by_cases h : ((d.size : Int) ≤ 256)
  · have h1 : decide ((d.size : Int) ≤ 256) = true := decide_eq_true h
    rw [h1]
    go_enter Tryd.func26, Tryd.ntmps26
    go_wp2
    go_region
    go_wp2_with (first
      | (go_at_call 31; (with_reducible refine (number_any _ _).mono ?_); rintro e w1 ⟨rfl, rfl⟩)
      )
    go_region
    go_wp2
    refine bodyPost_ret (v := .tuple #[.bool (true), frmV ⟨0, s, false, nilS, k, on, wt, ex, c, l, n, P⟩ (.slice A m cap)]) (by simp [results, Tryd.results26, go_sem]; all_goals exact h) rfl ⟨rfl, ?_⟩
    repeat (with_reducible first | refine Only.setNew ?_ (by simp) _ _ | refine Only.drew ?_ | refine Only.alloc ?_ _)
    with_reducible exact Only.refl _ _
  · have h1 : decide ((d.size : Int) ≤ 256) = false := decide_eq_false h
    rw [h1]
    go_enter Tryd.func26, Tryd.ntmps26
    go_wp2
    go_region
    go_wp2_with (first
      | (go_at_call 31; (with_reducible refine (number_any _ _).mono ?_); rintro e w1 ⟨rfl, rfl⟩)
      )
    go_region
    go_wp2
    refine bodyPost_ret (v := .tuple #[.bool (false), frmV ⟨0, s, false, nilS, k, on, wt, ex, c, l, n, P⟩ (.slice A m cap)]) (by simp [results, Tryd.results26, go_sem]; all_goals exact h) rfl ⟨rfl, ?_⟩
    repeat (with_reducible first | refine Only.setNew ?_ (by simp) _ _ | refine Only.drew ?_ | refine Only.alloc ?_ _)
    with_reducible exact Only.refl _ _
set_option maxRecDepth 100000 in
set_option maxHeartbeats 4000000 in
theorem split_1 (w : World) : Calls Tryd.prog 26 #[frmV ⟨1, s, en, d, k, on, wt, ex, c, l, n, P⟩ (.slice A m cap)] w (SpPost w (decide ((d.size : Int) ≤ 256)) ⟨1, s, false, nilS, k, on, wt, ex, c, l, n, P⟩ (.slice A m cap)) := by
  unfold SpPost
  by_cases h : ((d.size : Int) ≤ 256)
  · have h1 : decide ((d.size : Int) ≤ 256) = true := decide_eq_true h
    rw [h1]
    go_enter Tryd.func26, Tryd.ntmps26
    go_wp2
    go_region
    go_wp2_with (first
      | (go_at_call 31; (with_reducible refine (number_any _ _).mono ?_); rintro e w1 ⟨rfl, rfl⟩)
      )
    go_region
    go_wp2
    refine bodyPost_ret (v := .tuple #[.bool (true), frmV ⟨1, s, false, nilS, k, on, wt, ex, c, l, n, P⟩ (.slice A m cap)]) (by simp [results, Tryd.results26, go_sem]; all_goals exact h) rfl ⟨rfl, ?_⟩
    repeat (with_reducible first | refine Only.setNew ?_ (by simp) _ _ | refine Only.drew ?_ | refine Only.alloc ?_ _)
    with_reducible exact Only.refl _ _
  · have h1 : decide ((d.size : Int) ≤ 256) = false := decide_eq_false h
    rw [h1]
    go_enter Tryd.func26, Tryd.ntmps26
    go_wp2
    go_region
    go_wp2_with (first
      | (go_at_call 31; (with_reducible refine (number_any _ _).mono ?_); rintro e w1 ⟨rfl, rfl⟩)
      )
    go_region
    go_wp2
    refine bodyPost_ret (v := .tuple #[.bool (false), frmV ⟨1, s, false, nilS, k, on, wt, ex, c, l, n, P⟩ (.slice A m cap)]) (by simp [results, Tryd.results26, go_sem]; all_goals exact h) rfl ⟨rfl, ?_⟩
    repeat (with_reducible first | refine Only.setNew ?_ (by simp) _ _ | refine Only.drew ?_ | refine Only.alloc ?_ _)
    with_reducible exact Only.refl _ _
set_option maxRecDepth 100000 in
set_option maxHeartbeats 4000000 in
theorem split_7 (w : World) : Calls Tryd.prog 26 #[frmV ⟨7, s, en, d, k, on, wt, ex, c, l, n, P⟩ (.slice A m cap)] w (SpPost w (decide ((d.size : Int) = 8)) ⟨7, s, en, nilS, k, on, wt, ex, c, l, n, P⟩ (.slice A m cap)) := by
  unfold SpPost
  by_cases h : ((d.size : Int) = 8)
  · have h1 : decide ((d.size : Int) = 8) = true := decide_eq_true h
    rw [h1]
    go_enter Tryd.func26, Tryd.ntmps26
    go_wp2
    go_region
    go_wp2_with (first
      | (go_at_call 31; (with_reducible refine (number_any _ _).mono ?_); rintro e w1 ⟨rfl, rfl⟩)
      )
    go_region
    go_wp2
    refine bodyPost_ret (v := .tuple #[.bool (true), frmV ⟨7, s, en, nilS, k, on, wt, ex, c, l, n, P⟩ (.slice A m cap)]) (by simp [results, Tryd.results26, go_sem]; all_goals exact h) rfl ⟨rfl, ?_⟩
    repeat (with_reducible first | refine Only.setNew ?_ (by simp) _ _ | refine Only.drew ?_ | refine Only.alloc ?_ _)
    with_reducible exact Only.refl _ _
  · have h1 : decide ((d.size : Int) = 8) = false := decide_eq_false h
    rw [h1]
    go_enter Tryd.func26, Tryd.ntmps26
    go_wp2
    go_region
    go_wp2_with (first
      | (go_at_call 31; (with_reducible refine (number_any _ _).mono ?_); rintro e w1 ⟨rfl, rfl⟩)
      )
    go_region
    go_wp2
    refine bodyPost_ret (v := .tuple #[.bool (false), frmV ⟨7, s, en, nilS, k, on, wt, ex, c, l, n, P⟩ (.slice A m cap)]) (by simp [results, Tryd.results26, go_sem]; all_goals exact h) rfl ⟨rfl, ?_⟩
    repeat (with_reducible first | refine Only.setNew ?_ (by simp) _ _ | refine Only.drew ?_ | refine Only.alloc ?_ _)
    with_reducible exact Only.refl _ _
set_option maxRecDepth 100000 in
set_option maxHeartbeats 4000000 in
theorem split_8 (w : World) : Calls Tryd.prog 26 #[frmV ⟨8, s, en, d, k, on, wt, ex, c, l, n, P⟩ (.slice A m cap)] w (SpPost w (decide ((d.size : Int) = 8)) ⟨8, s, en, nilS, k, on, wt, ex, c, l, n, P⟩ (.slice A m cap)) := by
  unfold SpPost
  by_cases h : ((d.size : Int) = 8)
  · have h1 : decide ((d.size : Int) = 8) = true := decide_eq_true h
    rw [h1]
    go_enter Tryd.func26, Tryd.ntmps26
    go_wp2
    go_region
    go_wp2_with (first
      | (go_at_call 31; (with_reducible refine (number_any _ _).mono ?_); rintro e w1 ⟨rfl, rfl⟩)
      )
    go_region
    go_wp2
    refine bodyPost_ret (v := .tuple #[.bool (true), frmV ⟨8, s, en, nilS, k, on, wt, ex, c, l, n, P⟩ (.slice A m cap)]) (by simp [results, Tryd.results26, go_sem]; all_goals exact h) rfl ⟨rfl, ?_⟩
    repeat (with_reducible first | refine Only.setNew ?_ (by simp) _ _ | refine Only.drew ?_ | refine Only.alloc ?_ _)
    with_reducible exact Only.refl _ _
  · have h1 : decide ((d.size : Int) = 8) = false := decide_eq_false h
    rw [h1]
    go_enter Tryd.func26, Tryd.ntmps26
    go_wp2
    go_region
    go_wp2_with (first
      | (go_at_call 31; (with_reducible refine (number_any _ _).mono ?_); rintro e w1 ⟨rfl, rfl⟩)
      )
    go_region
    go_wp2
    refine bodyPost_ret (v := .tuple #[.bool (false), frmV ⟨8, s, en, nilS, k, on, wt, ex, c, l, n, P⟩ (.slice A m cap)]) (by simp [results, Tryd.results26, go_sem]; all_goals exact h) rfl ⟨rfl, ?_⟩
    repeat (with_reducible first | refine Only.setNew ?_ (by simp) _ _ | refine Only.drew ?_ | refine Only.alloc ?_ _)
    with_reducible exact Only.refl _ _
set_option maxRecDepth 100000 in
set_option maxHeartbeats 4000000 in
theorem split_4 (w : World) : Calls Tryd.prog 26 #[frmV ⟨4, s, en, d, k, on, wt, ex, c, l, n, P⟩ (.slice A m cap)] w (SpPost w (fourB c) ⟨4, s, en, d, k, on, wt, ex, 0, l, n, P⟩ (.slice A m cap)) := by
  unfold SpPost
  go_enter Tryd.func26, Tryd.ntmps26
  go_wp2
  go_region
  go_wp2_with (first
    | (go_at_call 31; (with_reducible refine (number_any _ _).mono ?_); rintro e w1 ⟨rfl, rfl⟩)
    )
  go_region
  go_wp2
  refine bodyPost_ret (v := .tuple #[.bool (fourB c), frmV ⟨4, s, en, d, k, on, wt, ex, 0, l, n, P⟩ (.slice A m cap)]) (by simp [results, Tryd.results26, go_sem]; all_goals exact h) rfl ⟨rfl, ?_⟩
  repeat (with_reducible first | refine Only.setNew ?_ (by simp) _ _ | refine Only.drew ?_ | refine Only.alloc ?_ _)
  with_reducible exact Only.refl _ _
set_option maxRecDepth 100000 in
set_option maxHeartbeats 4000000 in
theorem split_6 (w : World) : Calls Tryd.prog 26 #[frmV ⟨6, s, en, d, k, on, wt, ex, c, l, n, P⟩ (.slice A m cap)] w (SpPost w (true) ⟨6, s, en, d, k, on, wt, ex, c, l, n, P⟩ (.slice A m cap)) := by
  unfold SpPost
  go_enter Tryd.func26, Tryd.ntmps26
  go_wp2
  go_region
  go_wp2_with (first
    | (go_at_call 31; (with_reducible refine (number_any _ _).mono ?_); rintro e w1 ⟨rfl, rfl⟩)
    )
  go_region
  go_wp2
  refine bodyPost_ret (v := .tuple #[.bool (true), frmV ⟨6, s, en, d, k, on, wt, ex, c, l, n, P⟩ (.slice A m cap)]) (by simp [results, Tryd.results26, go_sem]; all_goals exact h) rfl ⟨rfl, ?_⟩
  repeat (with_reducible first | refine Only.setNew ?_ (by simp) _ _ | refine Only.drew ?_ | refine Only.alloc ?_ _)
  with_reducible exact Only.refl _ _
set_option maxRecDepth 100000 in
set_option maxHeartbeats 4000000 in
theorem split_10 (w : World) : Calls Tryd.prog 26 #[frmV ⟨10, s, en, d, k, on, wt, ex, c, l, n, P⟩ (.slice A m cap)] w (SpPost w (fourB n) ⟨10, s, en, d, k, on, wt, ex, c, l, 0, P⟩ (.slice A m cap)) := by
  unfold SpPost
  go_enter Tryd.func26, Tryd.ntmps26
  go_wp2
  go_region
  go_wp2_with (first
    | (go_at_call 31; (with_reducible refine (number_any _ _).mono ?_); rintro e w1 ⟨rfl, rfl⟩)
    )
  go_region
  go_wp2
  refine bodyPost_ret (v := .tuple #[.bool (fourB n), frmV ⟨10, s, en, d, k, on, wt, ex, c, l, 0, P⟩ (.slice A m cap)]) (by simp [results, Tryd.results26, go_sem]; all_goals exact h) rfl ⟨rfl, ?_⟩
  repeat (with_reducible first | refine Only.setNew ?_ (by simp) _ _ | refine Only.drew ?_ | refine Only.alloc ?_ _)
  with_reducible exact Only.refl _ _
set_option maxRecDepth 100000 in
set_option maxHeartbeats 4000000 in
theorem split_11 (w : World) : Calls Tryd.prog 26 #[frmV ⟨11, s, en, d, k, on, wt, ex, c, l, n, P⟩ (.slice A m cap)] w (SpPost w (fourB n) ⟨11, s, en, d, k, on, wt, ex, c, l, 0, P⟩ (.slice A m cap)) := by
  unfold SpPost
  go_enter Tryd.func26, Tryd.ntmps26
  go_wp2
  go_region
  go_wp2_with (first
    | (go_at_call 31; (with_reducible refine (number_any _ _).mono ?_); rintro e w1 ⟨rfl, rfl⟩)
    )
  go_region
  go_wp2
  refine bodyPost_ret (v := .tuple #[.bool (fourB n), frmV ⟨11, s, en, d, k, on, wt, ex, c, l, 0, P⟩ (.slice A m cap)]) (by simp [results, Tryd.results26, go_sem]; all_goals exact h) rfl ⟨rfl, ?_⟩
  repeat (with_reducible first | refine Only.setNew ?_ (by simp) _ _ | refine Only.drew ?_ | refine Only.alloc ?_ _)
  with_reducible exact Only.refl _ _
set_option maxRecDepth 100000 in
set_option maxHeartbeats 4000000 in
theorem split_9 (w : World) : Calls Tryd.prog 26 #[frmV ⟨9, s, en, d, k, on, wt, ex, c, l, n, P⟩ (.slice A m cap)] w (SpPost w (fourB c && fourB l) ⟨9, s, en, d, k, on, wt, ex, 0, 0, n, P⟩ (.slice A m cap)) := by
  unfold SpPost
  have hc := Lib.hid (number_any c)
  have hl := Lib.hid (number_any l)
  cases h1 : fourB c
  · rw [h1] at hc
    clear h1
    go_enter Tryd.func26, Tryd.ntmps26
    go_wp2
    go_region
    go_wp2_with (first
      | (go_at_call 31; (with_reducible refine (hc.out _).mono ?_); rintro e w1 ⟨rfl, rfl⟩)
      | (go_at_call 31; (with_reducible refine (hl.out _).mono ?_); rintro e w1 ⟨rfl, rfl⟩)
      )
    go_region
    go_wp2
    refine bodyPost_ret (v := .tuple #[.bool (false), frmV ⟨9, s, en, d, k, on, wt, ex, 0, 0, n, P⟩ (.slice A m cap)]) (by simp [results, Tryd.results26, go_sem]) rfl ⟨rfl, ?_⟩
    repeat (with_reducible first | refine Only.setNew ?_ (by simp) _ _ | refine Only.drew ?_ | refine Only.alloc ?_ _)
    with_reducible exact Only.refl _ _
  · rw [h1] at hc
    clear h1
    go_enter Tryd.func26, Tryd.ntmps26
    go_wp2
    go_region
    go_wp2_with (first
      | (go_at_call 31; (with_reducible refine (hc.out _).mono ?_); rintro e w1 ⟨rfl, rfl⟩)
      | (go_at_call 31; (with_reducible refine (hl.out _).mono ?_); rintro e w1 ⟨rfl, rfl⟩)
      )
    go_region
    go_wp2
    refine bodyPost_ret (v := .tuple #[.bool (fourB l), frmV ⟨9, s, en, d, k, on, wt, ex, 0, 0, n, P⟩ (.slice A m cap)]) (by simp [results, Tryd.results26, go_sem]) rfl ⟨rfl, ?_⟩
    repeat (with_reducible first | refine Only.setNew ?_ (by simp) _ _ | refine Only.drew ?_ | refine Only.alloc ?_ _)
    with_reducible exact Only.refl _ _
set_option maxRecDepth 100000 in
set_option maxHeartbeats 4000000 in
theorem split_3 (w : World) : Calls Tryd.prog 26 #[frmV ⟨3, s, en, d, k, on, wt, ex, c, l, n, P⟩ (.slice A m cap)] w (SpPost w (depB on wt) ⟨3, s, en, d, k, 0, 0, false, c, l, n, P⟩ (.slice A m cap)) := by
  unfold SpPost
  have hC := Lib.hid (fun W => depends_any ⟨3, s, en, d, k, on, wt, ex, c, l, n, P⟩ (.slice A m cap) W)
  have HO := Lib.hid ((((Only.refl Nil w).alloc (.cells (frC ⟨3, s, en, d, k, on, wt, ex, c, l, n, P⟩ (.slice A m cap)) 31)).alloc (.cells (frC zf (.slice none 0 0)) 31)).alloc (.cells (frC ⟨3, s, en, d, k, on, wt, ex, c, l, n, P⟩ (.slice A m cap)) 31)).drew
  have HB0 := Lib.hid (((Blk.new w 31 (frC ⟨3, s, en, d, k, on, wt, ex, c, l, n, P⟩ (.slice A m cap))).alloc (.cells (frC zf (.slice none 0 0)) 31)).alloc (.cells (frC ⟨3, s, en, d, k, on, wt, ex, c, l, n, P⟩ (.slice A m cap)) 31)).drew
  have HB1 := Lib.hid (new1 w 31 (frC ⟨3, s, en, d, k, on, wt, ex, c, l, n, P⟩ (.slice A m cap)) (frC zf (.slice none 0 0)) (frC ⟨3, s, en, d, k, on, wt, ex, c, l, n, P⟩ (.slice A m cap)))
  have HB2 := Lib.hid (new2 w 31 (frC ⟨3, s, en, d, k, on, wt, ex, c, l, n, P⟩ (.slice A m cap)) (frC zf (.slice none 0 0)) (frC ⟨3, s, en, d, k, on, wt, ex, c, l, n, P⟩ (.slice A m cap)))
  go_enter Tryd.func26, Tryd.ntmps26
  go_wp2
  go_region
  go_wp2_with (first
    | (go_at_call 32; (with_reducible refine (hC.out _).mono ?_); rintro e w1 ⟨rfl, ho1⟩; have b2 := HB2.out.kept ho1 (fun hh => hh); have b1 := HB1.out.kept ho1 (fun hh => hh); have b0 := HB0.out.kept ho1 (fun hh => hh); have z2 := b2.lt; obtain ⟨x0, x1, x2, x3, x4, x5, x6, x7, x8, x9, x10, x11⟩ := b2.frm; obtain ⟨y0, y1, y2, y3, y4, y5, y6, y7, y8, y9, y10, y11⟩ := b2.frmF; obtain ⟨u0, u1, u2, u3, u4, u5, u6, u7, u8, u9, u10, u11⟩ := b1.frmF; obtain ⟨v0, v1, v2, v3, v4, v5, v6, v7, v8, v9, v10, v11⟩ := Blk.frm (f := zf) b1; have HO1 := Lib.hid (HO.out.trans ho1); clear ho1 b0 b1 b2)
    | (go_at_call 30; (with_reducible refine (hC.out _).mono ?_); rintro e w1 ⟨rfl, ho1⟩; have b2 := HB2.out.kept ho1 (fun hh => hh); have b1 := HB1.out.kept ho1 (fun hh => hh); have b0 := HB0.out.kept ho1 (fun hh => hh); have z2 := b2.lt; obtain ⟨x0, x1, x2, x3, x4, x5, x6, x7, x8, x9, x10, x11⟩ := b2.frm; obtain ⟨y0, y1, y2, y3, y4, y5, y6, y7, y8, y9, y10, y11⟩ := b2.frmF; obtain ⟨u0, u1, u2, u3, u4, u5, u6, u7, u8, u9, u10, u11⟩ := b1.frmF; obtain ⟨v0, v1, v2, v3, v4, v5, v6, v7, v8, v9, v10, v11⟩ := Blk.frm (f := zf) b1; have HO1 := Lib.hid (HO.out.trans ho1); clear ho1 b0 b1 b2)
    )
  go_region
  go_wp2
  refine bodyPost_ret (v := .tuple #[.bool (depB on wt), frmV ⟨3, s, en, d, k, 0, 0, false, c, l, n, P⟩ (.slice A m cap)]) (by simp [results, Tryd.results26, go_sem, v0, v1, v2, v3, v4, v5, v6, v7, v8, v9, v10, v11]) rfl ⟨rfl, ?_⟩
  repeat (with_reducible first | refine Only.setNew ?_ (by omega) _ _ | refine Only.drew ?_ | refine Only.alloc ?_ _)
  with_reducible exact HO1.out
set_option maxRecDepth 100000 in
set_option maxHeartbeats 4000000 in
theorem split_2 (w : World) : Calls Tryd.prog 26 #[frmV ⟨2, s, en, d, k, on, wt, ex, c, l, n, P⟩ (.slice A m cap)] w (SpPost w ((decide (k = 1) || decide (k = 2)) && depB on wt) ⟨2, s, en, d, 0, 0, 0, false, c, l, n, P⟩ (.slice A m cap)) := by
  unfold SpPost
  have hC := Lib.hid (fun W => depends_any ⟨2, s, en, d, k, on, wt, ex, c, l, n, P⟩ (.slice A m cap) W)
  have HO := Lib.hid ((((Only.refl Nil w).alloc (.cells (frC ⟨2, s, en, d, k, on, wt, ex, c, l, n, P⟩ (.slice A m cap)) 31)).alloc (.cells (frC zf (.slice none 0 0)) 31)).alloc (.cells (frC ⟨2, s, en, d, k, on, wt, ex, c, l, n, P⟩ (.slice A m cap)) 31)).drew
  have HB0 := Lib.hid (((Blk.new w 31 (frC ⟨2, s, en, d, k, on, wt, ex, c, l, n, P⟩ (.slice A m cap))).alloc (.cells (frC zf (.slice none 0 0)) 31)).alloc (.cells (frC ⟨2, s, en, d, k, on, wt, ex, c, l, n, P⟩ (.slice A m cap)) 31)).drew
  have HB1 := Lib.hid (new1 w 31 (frC ⟨2, s, en, d, k, on, wt, ex, c, l, n, P⟩ (.slice A m cap)) (frC zf (.slice none 0 0)) (frC ⟨2, s, en, d, k, on, wt, ex, c, l, n, P⟩ (.slice A m cap)))
  have HB2 := Lib.hid (new2 w 31 (frC ⟨2, s, en, d, k, on, wt, ex, c, l, n, P⟩ (.slice A m cap)) (frC zf (.slice none 0 0)) (frC ⟨2, s, en, d, k, on, wt, ex, c, l, n, P⟩ (.slice A m cap)))
  by_cases h1 : k = 1
  · subst h1
    go_enter Tryd.func26, Tryd.ntmps26
    go_wp2
    go_region
    go_wp2_with (first
      | (go_at_call 32; (with_reducible refine (hC.out _).mono ?_); rintro e w1 ⟨rfl, ho1⟩; have b2 := HB2.out.kept ho1 (fun hh => hh); have b1 := HB1.out.kept ho1 (fun hh => hh); have b0 := HB0.out.kept ho1 (fun hh => hh); have z2 := b2.lt; obtain ⟨x0, x1, x2, x3, x4, x5, x6, x7, x8, x9, x10, x11⟩ := b2.frm; obtain ⟨y0, y1, y2, y3, y4, y5, y6, y7, y8, y9, y10, y11⟩ := b2.frmF; obtain ⟨u0, u1, u2, u3, u4, u5, u6, u7, u8, u9, u10, u11⟩ := b1.frmF; obtain ⟨v0, v1, v2, v3, v4, v5, v6, v7, v8, v9, v10, v11⟩ := Blk.frm (f := zf) b1; have HO1 := Lib.hid (HO.out.trans ho1); clear ho1 b0 b1 b2)
      | (go_at_call 30; (with_reducible refine (hC.out _).mono ?_); rintro e w1 ⟨rfl, ho1⟩; have b2 := HB2.out.kept ho1 (fun hh => hh); have b1 := HB1.out.kept ho1 (fun hh => hh); have b0 := HB0.out.kept ho1 (fun hh => hh); have z2 := b2.lt; obtain ⟨x0, x1, x2, x3, x4, x5, x6, x7, x8, x9, x10, x11⟩ := b2.frm; obtain ⟨y0, y1, y2, y3, y4, y5, y6, y7, y8, y9, y10, y11⟩ := b2.frmF; obtain ⟨u0, u1, u2, u3, u4, u5, u6, u7, u8, u9, u10, u11⟩ := b1.frmF; obtain ⟨v0, v1, v2, v3, v4, v5, v6, v7, v8, v9, v10, v11⟩ := Blk.frm (f := zf) b1; have HO1 := Lib.hid (HO.out.trans ho1); clear ho1 b0 b1 b2)
      )
    go_region
    go_wp2
    refine bodyPost_ret (v := .tuple #[.bool (depB on wt), frmV ⟨2, s, en, d, 0, 0, 0, false, c, l, n, P⟩ (.slice A m cap)]) (by simp [results, Tryd.results26, go_sem, v0, v1, v2, v3, v4, v5, v6, v7, v8, v9, v10, v11]) rfl ⟨rfl, ?_⟩
    repeat (with_reducible first | refine Only.setNew ?_ (by omega) _ _ | refine Only.drew ?_ | refine Only.alloc ?_ _)
    with_reducible exact HO1.out
  by_cases h2 : k = 2
  · subst h2
    go_enter Tryd.func26, Tryd.ntmps26
    go_wp2
    go_region
    go_wp2_with (first
      | (go_at_call 32; (with_reducible refine (hC.out _).mono ?_); rintro e w1 ⟨rfl, ho1⟩; have b2 := HB2.out.kept ho1 (fun hh => hh); have b1 := HB1.out.kept ho1 (fun hh => hh); have b0 := HB0.out.kept ho1 (fun hh => hh); have z2 := b2.lt; obtain ⟨x0, x1, x2, x3, x4, x5, x6, x7, x8, x9, x10, x11⟩ := b2.frm; obtain ⟨y0, y1, y2, y3, y4, y5, y6, y7, y8, y9, y10, y11⟩ := b2.frmF; obtain ⟨u0, u1, u2, u3, u4, u5, u6, u7, u8, u9, u10, u11⟩ := b1.frmF; obtain ⟨v0, v1, v2, v3, v4, v5, v6, v7, v8, v9, v10, v11⟩ := Blk.frm (f := zf) b1; have HO1 := Lib.hid (HO.out.trans ho1); clear ho1 b0 b1 b2)
      | (go_at_call 30; (with_reducible refine (hC.out _).mono ?_); rintro e w1 ⟨rfl, ho1⟩; have b2 := HB2.out.kept ho1 (fun hh => hh); have b1 := HB1.out.kept ho1 (fun hh => hh); have b0 := HB0.out.kept ho1 (fun hh => hh); have z2 := b2.lt; obtain ⟨x0, x1, x2, x3, x4, x5, x6, x7, x8, x9, x10, x11⟩ := b2.frm; obtain ⟨y0, y1, y2, y3, y4, y5, y6, y7, y8, y9, y10, y11⟩ := b2.frmF; obtain ⟨u0, u1, u2, u3, u4, u5, u6, u7, u8, u9, u10, u11⟩ := b1.frmF; obtain ⟨v0, v1, v2, v3, v4, v5, v6, v7, v8, v9, v10, v11⟩ := Blk.frm (f := zf) b1; have HO1 := Lib.hid (HO.out.trans ho1); clear ho1 b0 b1 b2)
      )
    go_region
    go_wp2
    refine bodyPost_ret (v := .tuple #[.bool (depB on wt), frmV ⟨2, s, en, d, 0, 0, 0, false, c, l, n, P⟩ (.slice A m cap)]) (by simp [results, Tryd.results26, go_sem, v0, v1, v2, v3, v4, v5, v6, v7, v8, v9, v10, v11]) rfl ⟨rfl, ?_⟩
    repeat (with_reducible first | refine Only.setNew ?_ (by omega) _ _ | refine Only.drew ?_ | refine Only.alloc ?_ _)
    with_reducible exact HO1.out
  have e : ((decide (k = 1) || decide (k = 2)) && depB on wt) = false := by simp [h1, h2]
  rw [e]
  clear e
  go_enter Tryd.func26, Tryd.ntmps26
  go_wp2
  go_region
  go_wp2_with (first
    | (go_at_call 31; (with_reducible refine (number_any _ _).mono ?_); rintro e w1 ⟨rfl, rfl⟩)
    )
  go_region
  go_wp2
  refine bodyPost_ret (v := .tuple #[.bool (false), frmV ⟨2, s, en, d, 0, 0, 0, false, c, l, n, P⟩ (.slice A m cap)]) (by simp [results, Tryd.results26, go_sem]; all_goals exact h) rfl ⟨rfl, ?_⟩
  repeat (with_reducible first | refine Only.setNew ?_ (by simp) _ _ | refine Only.drew ?_ | refine Only.alloc ?_ _)
  with_reducible exact Only.refl _ _
set_option maxRecDepth 100000 in
set_option maxHeartbeats 4000000 in
theorem split_5 (w : World) (hp : PmIs w (.slice A m cap) P) : Calls Tryd.prog 26 #[frmV ⟨5, s, en, d, k, on, wt, ex, c, l, n, P⟩ (.slice A m cap)] w (SpPost w (pmsB P) ⟨5, s, en, d, k, on, wt, ex, c, l, n, []⟩ (.slice none 0 0)) := by
  unfold SpPost
  have HO := Lib.hid ((((Only.refl Nil w).alloc (.cells (frC ⟨5, s, en, d, k, on, wt, ex, c, l, n, P⟩ (.slice A m cap)) 31)).alloc (.cells (frC zf (.slice none 0 0)) 31)).alloc (.cells (frC ⟨5, s, en, d, k, on, wt, ex, c, l, n, P⟩ (.slice A m cap)) 31)).drew
  have HB0 := Lib.hid (((Blk.new w 31 (frC ⟨5, s, en, d, k, on, wt, ex, c, l, n, P⟩ (.slice A m cap))).alloc (.cells (frC zf (.slice none 0 0)) 31)).alloc (.cells (frC ⟨5, s, en, d, k, on, wt, ex, c, l, n, P⟩ (.slice A m cap)) 31)).drew
  have HB1 := Lib.hid (new1 w 31 (frC ⟨5, s, en, d, k, on, wt, ex, c, l, n, P⟩ (.slice A m cap)) (frC zf (.slice none 0 0)) (frC ⟨5, s, en, d, k, on, wt, ex, c, l, n, P⟩ (.slice A m cap)))
  have HB2 := Lib.hid (new2 w 31 (frC ⟨5, s, en, d, k, on, wt, ex, c, l, n, P⟩ (.slice A m cap)) (frC zf (.slice none 0 0)) (frC ⟨5, s, en, d, k, on, wt, ex, c, l, n, P⟩ (.slice A m cap)))
  have hC := Lib.hid (fun W (h : Only Nil w W) => params_any ⟨5, s, en, d, k, on, wt, ex, c, l, n, P⟩ (.slice A m cap) W (hp.go h))
  clear hp
  go_enter Tryd.func26, Tryd.ntmps26
  go_wp2
  go_region
  go_wp2_with (first
    | (go_at_call 32; (with_reducible refine (hC.out _ HO.out).mono ?_); rintro e w1 ⟨rfl, ho1⟩; have b2 := HB2.out.kept ho1 (fun hh => hh); have b1 := HB1.out.kept ho1 (fun hh => hh); have b0 := HB0.out.kept ho1 (fun hh => hh); have z2 := b2.lt; obtain ⟨x0, x1, x2, x3, x4, x5, x6, x7, x8, x9, x10, x11⟩ := b2.frm; obtain ⟨y0, y1, y2, y3, y4, y5, y6, y7, y8, y9, y10, y11⟩ := b2.frmF; obtain ⟨u0, u1, u2, u3, u4, u5, u6, u7, u8, u9, u10, u11⟩ := b1.frmF; obtain ⟨v0, v1, v2, v3, v4, v5, v6, v7, v8, v9, v10, v11⟩ := Blk.frm (f := zf) b1; have HO1 := Lib.hid (HO.out.trans ho1); clear ho1 b0 b1 b2)
    | (go_at_call 30; (with_reducible refine (hC.out _ HO.out).mono ?_); rintro e w1 ⟨rfl, ho1⟩; have b2 := HB2.out.kept ho1 (fun hh => hh); have b1 := HB1.out.kept ho1 (fun hh => hh); have b0 := HB0.out.kept ho1 (fun hh => hh); have z2 := b2.lt; obtain ⟨x0, x1, x2, x3, x4, x5, x6, x7, x8, x9, x10, x11⟩ := b2.frm; obtain ⟨y0, y1, y2, y3, y4, y5, y6, y7, y8, y9, y10, y11⟩ := b2.frmF; obtain ⟨u0, u1, u2, u3, u4, u5, u6, u7, u8, u9, u10, u11⟩ := b1.frmF; obtain ⟨v0, v1, v2, v3, v4, v5, v6, v7, v8, v9, v10, v11⟩ := Blk.frm (f := zf) b1; have HO1 := Lib.hid (HO.out.trans ho1); clear ho1 b0 b1 b2)
    )
  go_region
  go_wp2
  refine bodyPost_ret (v := .tuple #[.bool (pmsB P), frmV ⟨5, s, en, d, k, on, wt, ex, c, l, n, []⟩ (.slice none 0 0)]) (by simp [results, Tryd.results26, go_sem, v0, v1, v2, v3, v4, v5, v6, v7, v8, v9, v10, v11]) rfl ⟨rfl, ?_⟩
  repeat (with_reducible first | refine Only.setNew ?_ (by omega) _ _ | refine Only.drew ?_ | refine Only.alloc ?_ _)
  with_reducible exact HO1.out
end
end Go.Proofs.YtgiplefnggnpcaaDoor
