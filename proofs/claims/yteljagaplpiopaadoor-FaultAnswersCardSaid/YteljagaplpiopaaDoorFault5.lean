/- What is sent of a fault. -/
import Derived.Test.YteljagaplpiopaaDoorFault4
namespace Go.Proofs.YteljagaplpiopaaDoor
open Go.RowKit

section
variable {k s o : Int} {w : World}
def AnPost (w : World) (t s c l e : Int) (x : Ending) (w' : World) : Prop := x = .returned (.tuple #[frV t s c l, .int .i64 e]) ∧ Only Nil w w'
set_option maxRecDepth 100000 in
set_option maxHeartbeats 4000000 in
theorem Answer_s (l : Int) (hR : Rws w) (k0 : 0 ≤ k) (k20 : k ≤ 20) (hw : whB k = false) (s1 : 1 ≤ s) (s2 : s ≤ 2147483647) : Calls Tryd.prog 11 #[ftV k s o, .int .i64 l] w (AnPost w 4 s (cdF k o) 0 0) := by
  have h0 := Lib.hid (of_in k s o ((w.alloc (.cells #[.int .i64 k, .int .i64 s, .int .i64 o] 23)).alloc (.cells (frA 0 0 0 0) 35)) ((hR.alloc _).alloc _) k0 k20)
  rw [hw] at h0
  clear k0 k20 hw
  unfold AnPost
  generalize cdF k o = cc at *
  have hn := ((Only.refl Nil w).alloc (.cells #[.int .i64 k, .int .i64 s, .int .i64 o] 23)).alloc (.cells (frA 0 0 0 0) 35)
  have hB0 : Blk ((w.alloc (.cells #[.int .i64 k, .int .i64 s, .int .i64 o] 23)).alloc (.cells (frA 0 0 0 0) 35)) w.heap.size 23 #[.int .i64 k, .int .i64 s, .int .i64 o] := (Blk.new _ _ _).alloc _
  have hB1 : Blk ((w.alloc (.cells #[.int .i64 k, .int .i64 s, .int .i64 o] 23)).alloc (.cells (frA 0 0 0 0) 35)) (w.heap.size + 1) 35 (frA 0 0 0 0) := by
    have := Blk.new (w.alloc (.cells #[.int .i64 k, .int .i64 s, .int .i64 o] 23)) 35 (frA 0 0 0 0)
    simpa using this
  go_enter Tryd.func11, Tryd.ntmps11
  go_wp2_with (first
    | (go_at_call 16; (with_reducible refine (h0.out).mono ?_); rintro e w1 ⟨rfl, ho1⟩; have hb5 := (hB1.kept ho1 (fun hh => hh)).alloc (.cells #[.int .i64 cc, .bool false] 45); have hb4 := (hB0.kept ho1 (fun hh => hh)).alloc (.cells #[.int .i64 cc, .bool false] 45); have z5 := hb5.lt; have s1 := hb4.cell 1; have y0 := hb5.frozen 0; have y1 := hb5.frozen 1; have y2 := hb5.frozen 2; have y3 := hb5.frozen 3; have y4 := hb5.frozen 4; have y5 := hb5.frozen 5; have y6 := hb5.frozen 6; have y7 := hb5.frozen 7; have y8 := hb5.frozen 8; have y9 := hb5.frozen 9; have y10 := hb5.frozen 10; have y11 := hb5.frozen 11; have x0 := hb5.cell 0; have x1 := hb5.cell 1; have x2 := hb5.cell 2; have x3 := hb5.cell 3; have x4 := hb5.cell 4; have x5 := hb5.cell 5; have x6 := hb5.cell 6; have x7 := hb5.cell 7; have x8 := hb5.cell 8; have x9 := hb5.cell 9; have x10 := hb5.cell 10; have x11 := hb5.cell 11; have ho5 := (hn.trans ho1).alloc (.cells #[.int .i64 cc, .bool false] 45))
    )
  have hO5 := Lib.hid ho5
  clear ho5
  refine bodyPost_ret (v := .tuple #[frV 4 s cc 0, .int .i64 0]) (by simp [results, Tryd.results11, go_sem, x0, x1, x2, x3, x4, x5, x6, x7, x8, x9, x10, x11]) rfl ⟨rfl, ?_⟩
  repeat (with_reducible refine Only.setNew ?_ (by omega) _ _)
  with_reducible exact hO5.out
set_option maxRecDepth 100000 in
set_option maxHeartbeats 4000000 in
theorem Answer_c (l : Int) (hR : Rws w) (k0 : 0 ≤ k) (k20 : k ≤ 20) (hw : whB k = true) (l1 : 0 ≤ l) (l2 : l ≤ 2147483647) : Calls Tryd.prog 11 #[ftV k s o, .int .i64 l] w (AnPost w 9 0 (cdF k o) l 0) := by
  have h0 := Lib.hid (of_in k s o ((w.alloc (.cells #[.int .i64 k, .int .i64 s, .int .i64 o] 23)).alloc (.cells (frA 0 0 0 0) 35)) ((hR.alloc _).alloc _) k0 k20)
  rw [hw] at h0
  clear k0 k20 hw
  unfold AnPost
  generalize cdF k o = cc at *
  have hn := ((Only.refl Nil w).alloc (.cells #[.int .i64 k, .int .i64 s, .int .i64 o] 23)).alloc (.cells (frA 0 0 0 0) 35)
  have hB0 : Blk ((w.alloc (.cells #[.int .i64 k, .int .i64 s, .int .i64 o] 23)).alloc (.cells (frA 0 0 0 0) 35)) w.heap.size 23 #[.int .i64 k, .int .i64 s, .int .i64 o] := (Blk.new _ _ _).alloc _
  have hB1 : Blk ((w.alloc (.cells #[.int .i64 k, .int .i64 s, .int .i64 o] 23)).alloc (.cells (frA 0 0 0 0) 35)) (w.heap.size + 1) 35 (frA 0 0 0 0) := by
    have := Blk.new (w.alloc (.cells #[.int .i64 k, .int .i64 s, .int .i64 o] 23)) 35 (frA 0 0 0 0)
    simpa using this
  go_enter Tryd.func11, Tryd.ntmps11
  go_wp2_with (first
    | (go_at_call 16; (with_reducible refine (h0.out).mono ?_); rintro e w1 ⟨rfl, ho1⟩; have hb5 := (hB1.kept ho1 (fun hh => hh)).alloc (.cells #[.int .i64 cc, .bool true] 45); have hb4 := (hB0.kept ho1 (fun hh => hh)).alloc (.cells #[.int .i64 cc, .bool true] 45); have z5 := hb5.lt; have s1 := hb4.cell 1; have y0 := hb5.frozen 0; have y1 := hb5.frozen 1; have y2 := hb5.frozen 2; have y3 := hb5.frozen 3; have y4 := hb5.frozen 4; have y5 := hb5.frozen 5; have y6 := hb5.frozen 6; have y7 := hb5.frozen 7; have y8 := hb5.frozen 8; have y9 := hb5.frozen 9; have y10 := hb5.frozen 10; have y11 := hb5.frozen 11; have x0 := hb5.cell 0; have x1 := hb5.cell 1; have x2 := hb5.cell 2; have x3 := hb5.cell 3; have x4 := hb5.cell 4; have x5 := hb5.cell 5; have x6 := hb5.cell 6; have x7 := hb5.cell 7; have x8 := hb5.cell 8; have x9 := hb5.cell 9; have x10 := hb5.cell 10; have x11 := hb5.cell 11; have ho5 := (hn.trans ho1).alloc (.cells #[.int .i64 cc, .bool true] 45))
    )
  have hO5 := Lib.hid ho5
  clear ho5
  refine bodyPost_ret (v := .tuple #[frV 9 0 cc l, .int .i64 0]) (by simp [results, Tryd.results11, go_sem, x0, x1, x2, x3, x4, x5, x6, x7, x8, x9, x10, x11]) rfl ⟨rfl, ?_⟩
  repeat (with_reducible refine Only.setNew ?_ (by omega) _ _)
  with_reducible exact hO5.out
set_option maxRecDepth 100000 in
set_option maxHeartbeats 4000000 in
theorem Answer_cx (l : Int) (hR : Rws w) (k0 : 0 ≤ k) (k20 : k ≤ 20) (hw : whB k = true) (hx : l < 0 ∨ 2147483647 < l) : Calls Tryd.prog 11 #[ftV k s o, .int .i64 l] w (AnPost w 0 0 0 0 2) := by
  have h0 := Lib.hid (of_in k s o ((w.alloc (.cells #[.int .i64 k, .int .i64 s, .int .i64 o] 23)).alloc (.cells (frA 0 0 0 0) 35)) ((hR.alloc _).alloc _) k0 k20)
  rw [hw] at h0
  clear k0 k20 hw
  unfold AnPost
  generalize cdF k o = cc at *
  rcases hx with hx | hx
  ·
    have hn := ((Only.refl Nil w).alloc (.cells #[.int .i64 k, .int .i64 s, .int .i64 o] 23)).alloc (.cells (frA 0 0 0 0) 35)
    have hB0 : Blk ((w.alloc (.cells #[.int .i64 k, .int .i64 s, .int .i64 o] 23)).alloc (.cells (frA 0 0 0 0) 35)) w.heap.size 23 #[.int .i64 k, .int .i64 s, .int .i64 o] := (Blk.new _ _ _).alloc _
    have hB1 : Blk ((w.alloc (.cells #[.int .i64 k, .int .i64 s, .int .i64 o] 23)).alloc (.cells (frA 0 0 0 0) 35)) (w.heap.size + 1) 35 (frA 0 0 0 0) := by
      have := Blk.new (w.alloc (.cells #[.int .i64 k, .int .i64 s, .int .i64 o] 23)) 35 (frA 0 0 0 0)
      simpa using this
    go_enter Tryd.func11, Tryd.ntmps11
    go_wp2_with (first
      | (go_at_call 16; (with_reducible refine (h0.out).mono ?_); rintro e w1 ⟨rfl, ho1⟩; have hb5 := (hB1.kept ho1 (fun hh => hh)).alloc (.cells #[.int .i64 cc, .bool true] 45); have hb4 := (hB0.kept ho1 (fun hh => hh)).alloc (.cells #[.int .i64 cc, .bool true] 45); have z5 := hb5.lt; have s1 := hb4.cell 1; have y0 := hb5.frozen 0; have y1 := hb5.frozen 1; have y2 := hb5.frozen 2; have y3 := hb5.frozen 3; have y4 := hb5.frozen 4; have y5 := hb5.frozen 5; have y6 := hb5.frozen 6; have y7 := hb5.frozen 7; have y8 := hb5.frozen 8; have y9 := hb5.frozen 9; have y10 := hb5.frozen 10; have y11 := hb5.frozen 11; have x0 := hb5.cell 0; have x1 := hb5.cell 1; have x2 := hb5.cell 2; have x3 := hb5.cell 3; have x4 := hb5.cell 4; have x5 := hb5.cell 5; have x6 := hb5.cell 6; have x7 := hb5.cell 7; have x8 := hb5.cell 8; have x9 := hb5.cell 9; have x10 := hb5.cell 10; have x11 := hb5.cell 11; have ho5 := (hn.trans ho1).alloc (.cells #[.int .i64 cc, .bool true] 45))
      )
    have hO5 := Lib.hid ho5
    clear ho5
    refine bodyPost_ret (v := .tuple #[frV 0 0 0 0, .int .i64 2]) (by simp [results, Tryd.results11, go_sem, x0, x1, x2, x3, x4, x5, x6, x7, x8, x9, x10, x11]) rfl ⟨rfl, ?_⟩
    repeat (with_reducible refine Only.setNew ?_ (by omega) _ _)
    with_reducible exact hO5.out
  · have hy : ¬ l < 0 := by omega
    have hn := ((Only.refl Nil w).alloc (.cells #[.int .i64 k, .int .i64 s, .int .i64 o] 23)).alloc (.cells (frA 0 0 0 0) 35)
    have hB0 : Blk ((w.alloc (.cells #[.int .i64 k, .int .i64 s, .int .i64 o] 23)).alloc (.cells (frA 0 0 0 0) 35)) w.heap.size 23 #[.int .i64 k, .int .i64 s, .int .i64 o] := (Blk.new _ _ _).alloc _
    have hB1 : Blk ((w.alloc (.cells #[.int .i64 k, .int .i64 s, .int .i64 o] 23)).alloc (.cells (frA 0 0 0 0) 35)) (w.heap.size + 1) 35 (frA 0 0 0 0) := by
      have := Blk.new (w.alloc (.cells #[.int .i64 k, .int .i64 s, .int .i64 o] 23)) 35 (frA 0 0 0 0)
      simpa using this
    go_enter Tryd.func11, Tryd.ntmps11
    go_wp2_with (first
      | (go_at_call 16; (with_reducible refine (h0.out).mono ?_); rintro e w1 ⟨rfl, ho1⟩; have hb5 := (hB1.kept ho1 (fun hh => hh)).alloc (.cells #[.int .i64 cc, .bool true] 45); have hb4 := (hB0.kept ho1 (fun hh => hh)).alloc (.cells #[.int .i64 cc, .bool true] 45); have z5 := hb5.lt; have s1 := hb4.cell 1; have y0 := hb5.frozen 0; have y1 := hb5.frozen 1; have y2 := hb5.frozen 2; have y3 := hb5.frozen 3; have y4 := hb5.frozen 4; have y5 := hb5.frozen 5; have y6 := hb5.frozen 6; have y7 := hb5.frozen 7; have y8 := hb5.frozen 8; have y9 := hb5.frozen 9; have y10 := hb5.frozen 10; have y11 := hb5.frozen 11; have x0 := hb5.cell 0; have x1 := hb5.cell 1; have x2 := hb5.cell 2; have x3 := hb5.cell 3; have x4 := hb5.cell 4; have x5 := hb5.cell 5; have x6 := hb5.cell 6; have x7 := hb5.cell 7; have x8 := hb5.cell 8; have x9 := hb5.cell 9; have x10 := hb5.cell 10; have x11 := hb5.cell 11; have ho5 := (hn.trans ho1).alloc (.cells #[.int .i64 cc, .bool true] 45))
      )
    have hO5 := Lib.hid ho5
    clear ho5
    refine bodyPost_ret (v := .tuple #[frV 0 0 0 0, .int .i64 2]) (by simp [results, Tryd.results11, go_sem, x0, x1, x2, x3, x4, x5, x6, x7, x8, x9, x10, x11]) rfl ⟨rfl, ?_⟩
    repeat (with_reducible refine Only.setNew ?_ (by omega) _ _)
    with_reducible exact hO5.out
set_option maxRecDepth 100000 in
set_option maxHeartbeats 4000000 in
theorem Answer_sx (l : Int) (hR : Rws w) (k0 : 0 ≤ k) (k20 : k ≤ 20) (hw : whB k = false) (hx : s < 1 ∨ 2147483647 < s) : Calls Tryd.prog 11 #[ftV k s o, .int .i64 l] w (AnPost w 0 0 0 0 2) := by
  have h0 := Lib.hid (of_in k s o ((w.alloc (.cells #[.int .i64 k, .int .i64 s, .int .i64 o] 23)).alloc (.cells (frA 0 0 0 0) 35)) ((hR.alloc _).alloc _) k0 k20)
  rw [hw] at h0
  clear k0 k20 hw
  unfold AnPost
  generalize cdF k o = cc at *
  rcases hx with hx | hx
  ·
    have hn := ((Only.refl Nil w).alloc (.cells #[.int .i64 k, .int .i64 s, .int .i64 o] 23)).alloc (.cells (frA 0 0 0 0) 35)
    have hB0 : Blk ((w.alloc (.cells #[.int .i64 k, .int .i64 s, .int .i64 o] 23)).alloc (.cells (frA 0 0 0 0) 35)) w.heap.size 23 #[.int .i64 k, .int .i64 s, .int .i64 o] := (Blk.new _ _ _).alloc _
    have hB1 : Blk ((w.alloc (.cells #[.int .i64 k, .int .i64 s, .int .i64 o] 23)).alloc (.cells (frA 0 0 0 0) 35)) (w.heap.size + 1) 35 (frA 0 0 0 0) := by
      have := Blk.new (w.alloc (.cells #[.int .i64 k, .int .i64 s, .int .i64 o] 23)) 35 (frA 0 0 0 0)
      simpa using this
    go_enter Tryd.func11, Tryd.ntmps11
    go_wp2_with (first
      | (go_at_call 16; (with_reducible refine (h0.out).mono ?_); rintro e w1 ⟨rfl, ho1⟩; have hb5 := (hB1.kept ho1 (fun hh => hh)).alloc (.cells #[.int .i64 cc, .bool false] 45); have hb4 := (hB0.kept ho1 (fun hh => hh)).alloc (.cells #[.int .i64 cc, .bool false] 45); have z5 := hb5.lt; have s1 := hb4.cell 1; have y0 := hb5.frozen 0; have y1 := hb5.frozen 1; have y2 := hb5.frozen 2; have y3 := hb5.frozen 3; have y4 := hb5.frozen 4; have y5 := hb5.frozen 5; have y6 := hb5.frozen 6; have y7 := hb5.frozen 7; have y8 := hb5.frozen 8; have y9 := hb5.frozen 9; have y10 := hb5.frozen 10; have y11 := hb5.frozen 11; have x0 := hb5.cell 0; have x1 := hb5.cell 1; have x2 := hb5.cell 2; have x3 := hb5.cell 3; have x4 := hb5.cell 4; have x5 := hb5.cell 5; have x6 := hb5.cell 6; have x7 := hb5.cell 7; have x8 := hb5.cell 8; have x9 := hb5.cell 9; have x10 := hb5.cell 10; have x11 := hb5.cell 11; have ho5 := (hn.trans ho1).alloc (.cells #[.int .i64 cc, .bool false] 45))
      )
    have hO5 := Lib.hid ho5
    clear ho5
    refine bodyPost_ret (v := .tuple #[frV 0 0 0 0, .int .i64 2]) (by simp [results, Tryd.results11, go_sem, x0, x1, x2, x3, x4, x5, x6, x7, x8, x9, x10, x11]) rfl ⟨rfl, ?_⟩
    repeat (with_reducible refine Only.setNew ?_ (by omega) _ _)
    with_reducible exact hO5.out
  · have hy : ¬ s < 1 := by omega
    have hn := ((Only.refl Nil w).alloc (.cells #[.int .i64 k, .int .i64 s, .int .i64 o] 23)).alloc (.cells (frA 0 0 0 0) 35)
    have hB0 : Blk ((w.alloc (.cells #[.int .i64 k, .int .i64 s, .int .i64 o] 23)).alloc (.cells (frA 0 0 0 0) 35)) w.heap.size 23 #[.int .i64 k, .int .i64 s, .int .i64 o] := (Blk.new _ _ _).alloc _
    have hB1 : Blk ((w.alloc (.cells #[.int .i64 k, .int .i64 s, .int .i64 o] 23)).alloc (.cells (frA 0 0 0 0) 35)) (w.heap.size + 1) 35 (frA 0 0 0 0) := by
      have := Blk.new (w.alloc (.cells #[.int .i64 k, .int .i64 s, .int .i64 o] 23)) 35 (frA 0 0 0 0)
      simpa using this
    go_enter Tryd.func11, Tryd.ntmps11
    go_wp2_with (first
      | (go_at_call 16; (with_reducible refine (h0.out).mono ?_); rintro e w1 ⟨rfl, ho1⟩; have hb5 := (hB1.kept ho1 (fun hh => hh)).alloc (.cells #[.int .i64 cc, .bool false] 45); have hb4 := (hB0.kept ho1 (fun hh => hh)).alloc (.cells #[.int .i64 cc, .bool false] 45); have z5 := hb5.lt; have s1 := hb4.cell 1; have y0 := hb5.frozen 0; have y1 := hb5.frozen 1; have y2 := hb5.frozen 2; have y3 := hb5.frozen 3; have y4 := hb5.frozen 4; have y5 := hb5.frozen 5; have y6 := hb5.frozen 6; have y7 := hb5.frozen 7; have y8 := hb5.frozen 8; have y9 := hb5.frozen 9; have y10 := hb5.frozen 10; have y11 := hb5.frozen 11; have x0 := hb5.cell 0; have x1 := hb5.cell 1; have x2 := hb5.cell 2; have x3 := hb5.cell 3; have x4 := hb5.cell 4; have x5 := hb5.cell 5; have x6 := hb5.cell 6; have x7 := hb5.cell 7; have x8 := hb5.cell 8; have x9 := hb5.cell 9; have x10 := hb5.cell 10; have x11 := hb5.cell 11; have ho5 := (hn.trans ho1).alloc (.cells #[.int .i64 cc, .bool false] 45))
      )
    have hO5 := Lib.hid ho5
    clear ho5
    refine bodyPost_ret (v := .tuple #[frV 0 0 0 0, .int .i64 2]) (by simp [results, Tryd.results11, go_sem, x0, x1, x2, x3, x4, x5, x6, x7, x8, x9, x10, x11]) rfl ⟨rfl, ?_⟩
    repeat (with_reducible refine Only.setNew ?_ (by omega) _ _)
    with_reducible exact hO5.out
set_option maxRecDepth 100000 in
set_option maxHeartbeats 4000000 in
theorem Answer_out (l : Int) (hR : Rws w) (hk : k < 0 ∨ 20 < k) : Calls Tryd.prog 11 #[ftV k s o, .int .i64 l] w (AnPost w 0 0 0 0 3) := by
  have h0 := Lib.hid (of_out k s o ((w.alloc (.cells #[.int .i64 k, .int .i64 s, .int .i64 o] 23)).alloc (.cells (frA 0 0 0 0) 35)) ((hR.alloc _).alloc _) hk)
  clear hk
  unfold AnPost
  have hn := ((Only.refl Nil w).alloc (.cells #[.int .i64 k, .int .i64 s, .int .i64 o] 23)).alloc (.cells (frA 0 0 0 0) 35)
  have hB0 : Blk ((w.alloc (.cells #[.int .i64 k, .int .i64 s, .int .i64 o] 23)).alloc (.cells (frA 0 0 0 0) 35)) w.heap.size 23 #[.int .i64 k, .int .i64 s, .int .i64 o] := (Blk.new _ _ _).alloc _
  have hB1 : Blk ((w.alloc (.cells #[.int .i64 k, .int .i64 s, .int .i64 o] 23)).alloc (.cells (frA 0 0 0 0) 35)) (w.heap.size + 1) 35 (frA 0 0 0 0) := by
    have := Blk.new (w.alloc (.cells #[.int .i64 k, .int .i64 s, .int .i64 o] 23)) 35 (frA 0 0 0 0)
    simpa using this
  go_enter Tryd.func11, Tryd.ntmps11
  go_wp2_with (first
    | (go_at_call 16; (with_reducible refine (h0.out).mono ?_); rintro e w1 ⟨rfl, ho1⟩; have hb5 := (hB1.kept ho1 (fun hh => hh)).alloc (.cells #[.int .i64 0, .bool false] 45); have hb4 := (hB0.kept ho1 (fun hh => hh)).alloc (.cells #[.int .i64 0, .bool false] 45); have z5 := hb5.lt; have s1 := hb4.cell 1; have y0 := hb5.frozen 0; have y1 := hb5.frozen 1; have y2 := hb5.frozen 2; have y3 := hb5.frozen 3; have y4 := hb5.frozen 4; have y5 := hb5.frozen 5; have y6 := hb5.frozen 6; have y7 := hb5.frozen 7; have y8 := hb5.frozen 8; have y9 := hb5.frozen 9; have y10 := hb5.frozen 10; have y11 := hb5.frozen 11; have x0 := hb5.cell 0; have x1 := hb5.cell 1; have x2 := hb5.cell 2; have x3 := hb5.cell 3; have x4 := hb5.cell 4; have x5 := hb5.cell 5; have x6 := hb5.cell 6; have x7 := hb5.cell 7; have x8 := hb5.cell 8; have x9 := hb5.cell 9; have x10 := hb5.cell 10; have x11 := hb5.cell 11; have ho5 := (hn.trans ho1).alloc (.cells #[.int .i64 0, .bool false] 45))
    )
  have hO5 := Lib.hid ho5
  clear ho5
  refine bodyPost_ret (v := .tuple #[frV 0 0 0 0, .int .i64 3]) (by simp [results, Tryd.results11, go_sem, x0, x1, x2, x3, x4, x5, x6, x7, x8, x9, x10, x11]) rfl ⟨rfl, ?_⟩
  repeat (with_reducible refine Only.setNew ?_ (by omega) _ _)
  with_reducible exact hO5.out
end
end Go.Proofs.YteljagaplpiopaaDoor
