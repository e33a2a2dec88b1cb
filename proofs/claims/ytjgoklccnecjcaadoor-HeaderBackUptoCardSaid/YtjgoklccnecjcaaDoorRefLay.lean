/- The document's answers for headers. -/
import Derived.Test.YtjgoklccnecjcaaDoorRef02
namespace Go.Proofs.YtjgoklccnecjcaaDoor
open Go.RowKit

set_option maxHeartbeats 4000000 in
theorem RLay_any (h : Hd) (w : World) (hok : h.ok) (hr : rightH h = true) : Calls Tryd.prog 11 #[.agg #[.int .i64 h.l, .int .i64 h.t, .int .i64 h.f, .int .i64 h.s]] w fun x w' => x = .returned (.string (layR h)) ∧ Only Nil w w' := by
  unfold rightH at hr
  simp only [Bool.and_eq_true, decide_eq_true_eq] at hr
  obtain ⟨⟨⟨⟨⟨⟨⟨l0, l1⟩, t0⟩, t1⟩, f0⟩, f1⟩, s0⟩, s1⟩ := hr
  have hb1 : ∀ W, Calls Tryd.prog 23 #[.int .i64 h.l, .int .i64 3] W fun x w' => x = .returned (.string (strOf (numB h.l 3))) ∧ Only Nil W w' := fun W => RB_any h.l 3 W l0 (by omega) (by decide)
  have hb2 : ∀ W, Calls Tryd.prog 23 #[.int .i64 h.t, .int .i64 1] W fun x w' => x = .returned (.string (strOf (numB h.t 1))) ∧ Only Nil W w' := fun W => RB_any h.t 1 W t0 (by omega) (by decide)
  have hb3 : ∀ W, Calls Tryd.prog 23 #[.int .i64 h.f, .int .i64 1] W fun x w' => x = .returned (.string (strOf (numB h.f 1))) ∧ Only Nil W w' := fun W => RB_any h.f 1 W f0 (by omega) (by decide)
  have hb4 : ∀ W, Calls Tryd.prog 23 #[.int .i64 h.s, .int .i64 4] W fun x w' => x = .returned (.string (strOf (numB h.s 4))) ∧ Only Nil W w' := fun W => RB_any h.s 4 W s0 (by omega) (by decide)
  have e : Hid (layR h = strOf (numB h.l 3) ++ strOf (numB h.t 1) ++ strOf (numB h.f 1) ++ strOf (numB h.s 4)) := Lib.hid (by unfold layR; rw [str_add2, str_add2, str_add2])
  have z1 : (strOf (numB h.l 3)).size = 3 := by rw [strOf_size, numB_length]
  have z2 : (strOf (numB h.t 1)).size = 1 := by rw [strOf_size, numB_length]
  have z3 : (strOf (numB h.f 1)).size = 1 := by rw [strOf_size, numB_length]
  have z4 : (strOf (numB h.s 4)).size = 4 := by rw [strOf_size, numB_length]
  generalize layR h = R at e ⊢
  generalize strOf (numB h.l 3) = X1 at *
  generalize strOf (numB h.t 1) = X2 at *
  generalize strOf (numB h.f 1) = X3 at *
  generalize strOf (numB h.s 4) = X4 at *
  have y1 : X1.size + X2.size ≤ 9223372036854775807 := by omega
  have y2 : (X1 ++ X2).size + X3.size ≤ 9223372036854775807 := by rw [ByteArray.size_append]; omega
  have y3 : (X1 ++ X2 ++ X3).size + X4.size ≤ 9223372036854775807 := by rw [ByteArray.size_append, ByteArray.size_append]; omega
  have n1 : ¬ 9223372036854775807 < X1.size + X2.size := by omega
  have n4 : ¬ 9223372036854775807 < X1.size + X2.size + X3.size := by omega
  have n5 : ¬ 9223372036854775807 < X1.size + X2.size + X3.size + X4.size := by omega
  obtain ⟨l, t, f, s⟩ := h
  dsimp only at *
  have H1 := Lib.hid hb1
  have H2 := Lib.hid hb2
  have H3 := Lib.hid hb3
  have H4 := Lib.hid hb4
  clear hb1 hb2 hb3 hb4 z1 z2 z3 z4 hok
  have hb0 : Blk (w.alloc (.cells #[.int .i64 l, .int .i64 t, .int .i64 f, .int .i64 s] 23)) w.heap.size 23 #[.int .i64 l, .int .i64 t, .int .i64 f, .int .i64 s] := Blk.new _ _ _
  have hx0 := (Only.refl Nil w).alloc (.cells #[.int .i64 l, .int .i64 t, .int .i64 f, .int .i64 s] 23)
  go_enter Tryd.func11, Tryd.ntmps11
  go_wp2
  go_region_held3 (fun w' => w'.cell? ⟨w.heap.size, 0, none⟩ = some (.int .i64 l) ∧ w'.cell? ⟨w.heap.size, 1, none⟩ = some (.int .i64 t) ∧ w'.cell? ⟨w.heap.size, 2, none⟩ = some (.int .i64 f) ∧ w'.cell? ⟨w.heap.size, 3, none⟩ = some (.int .i64 s)) (first | exact ⟨hb4.cell 0, hb4.cell 1, hb4.cell 2, hb4.cell 3⟩ | exact ⟨hb3.cell 0, hb3.cell 1, hb3.cell 2, hb3.cell 3⟩ | exact ⟨hb2.cell 0, hb2.cell 1, hb2.cell 2, hb2.cell 3⟩ | exact ⟨hb1.cell 0, hb1.cell 1, hb1.cell 2, hb1.cell 3⟩ | exact ⟨hb0.cell 0, hb0.cell 1, hb0.cell 2, hb0.cell 3⟩) (first
    | (go_at_call 23; have _t := hb3; (with_reducible refine (H4.out _).mono ?_); rintro e w4 ⟨rfl, ho4⟩; have hb4 := Blk.kept hb3 ho4 (fun hh => hh))
    | (go_at_call 23; have _t := hb2; (with_reducible refine (H3.out _).mono ?_); rintro e w3 ⟨rfl, ho3⟩; have hb3 := Blk.kept hb2 ho3 (fun hh => hh))
    | (go_at_call 23; have _t := hb1; (with_reducible refine (H2.out _).mono ?_); rintro e w2 ⟨rfl, ho2⟩; have hb2 := Blk.kept hb1 ho2 (fun hh => hh))
    | (go_at_call 23; (with_reducible refine (H1.out _).mono ?_); rintro e w1 ⟨rfl, ho1⟩; have hb1 := Blk.kept (Blk.drew hb0) ho1 (fun hh => hh))
    )
  all_goals
    go_wp2
    go_ret
    exact ⟨by rw [e.out]; rfl, (((hx0.drew.trans ho1).trans ho2).trans ho3).trans ho4⟩
end Go.Proofs.YtjgoklccnecjcaaDoor
