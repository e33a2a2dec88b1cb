/- What is sent of any fault; it is a frame that may be (the statement FaultAnswers, as its card is given). No condition. -/
import Derived.Test.YteljagaplpiopaaDoorCards
import Derived.Test.YteljagaplpiopaaDoorTie
import Derived.Test.YteljagaplpiopaaDoorAwake21
import Derived.Test.YteljagaplpiopaaDoorFrmR2
import Derived.Test.YteljagaplpiopaaDoorRight
import Derived.Deep.DeepHandedRow
namespace Go.Proofs.YteljagaplpiopaaDoor
open Go.RowKit Nd

abbrev fz (t s c l : Int) : Frm := ⟨t, s, false, nilS, 0, 0, 0, false, c, l, 0, []⟩
theorem newB (w : World) (t : TypeId) (a b : Array Value) : Blk ((w.alloc (.cells a t)).alloc (.cells b t)) (w.heap.size + 1) t b := by
  have := Blk.new (w.alloc (.cells a t)) t b
  simpa using this
theorem cd_four {k o : Int} (k0 : 0 ≤ k) (k20 : k ≤ 20) : fourB (cdF k o) = true := by
  have hk : k = 0 ∨ k = 1 ∨ k = 2 ∨ k = 3 ∨ k = 4 ∨ k = 5 ∨ k = 6 ∨ k = 7 ∨ k = 8 ∨ k = 9 ∨ k = 10 ∨ k = 11 ∨ k = 12 ∨ k = 13 ∨ k = 14 ∨ k = 15 ∨ k = 16 ∨ k = 17 ∨ k = 18 ∨ k = 19 ∨ k = 20 := by omega
  unfold cdF
  split
  · rename_i h
    unfold fourB
    simp only [Bool.and_eq_true, decide_eq_true_eq]
    omega
  · rcases hk with rfl | rfl | rfl | rfl | rfl | rfl | rfl | rfl | rfl | rfl | rfl | rfl | rfl | rfl | rfl | rfl | rfl | rfl | rfl | rfl | rfl <;> rfl
theorem r9 (cc last : Int) (hc : fourB cc = true) : fourB last = true ↔ rightP (fz 9 0 cc last) := by
  rw [right_9 0 0 false nilS 0 0 cc last 0 false [] (by decide) (by decide) (fun _ => rfl) (fun h => absurd h (by decide))]
  simp [hc]
theorem r4 (s cc : Int) (hc : fourB cc = true) (h1 : 1 ≤ s) (h2 : s ≤ 2147483647) : true = true ↔ rightP (fz 4 s cc 0) := by
  rw [right_4 s 0 false nilS 0 0 cc 0 0 false [] (by omega) (by omega) (fun h => by omega) (fun _ => rfl)]
  simp [hc]
theorem r4x (s cc : Int) (hx : s < 1 ∨ 2147483647 < s) : false = true ↔ rightP (fz 4 s cc 0) := by
  refine ⟨(fun h => by cases h), (fun h => ?_)⟩
  have h0 : 0 ≤ s := h.s0
  have h1 : s ≤ 2147483647 := h.sm
  have h2 : s = 0 → (5 : Int) ≤ 4 ∧ (4 : Int) ≤ 10 := h.zero
  rcases hx with hx | hx
  · have := h2 (by omega)
    omega
  · omega
set_option maxRecDepth 100000 in
set_option maxHeartbeats 4000000 in
theorem fa_out (k s o last : Int) (w : World) (hT : Rws w ∧ Nds w) (hk : k < 0 ∨ 20 < k) : Calls Tryd.prog 4 #[ftV k s o, .int .i64 last] w fun e w' => e = .returned (.bool true) ∧ Only Nil w w' := by
  have hn := Lib.hid ((Only.refl Nil w).alloc (.cells #[.int .i64 k, .int .i64 s, .int .i64 o] 23))
  have hb := Lib.hid (Blk.new w 23 #[.int .i64 k, .int .i64 s, .int .i64 o])
  have hT0 : Rws _ ∧ Nds _ := ⟨Tab.kept hT.1 hn.out (fun hh => hh), Tab.kept hT.2 hn.out (fun hh => hh)⟩
  have hT := Lib.hid hT
  have hA := Lib.hid (fun W (h : Rws W) => Answer_out (w := W) (k := k) (s := s) (o := o) last h hk)
  unfold AnPost at hA
  have hRW := Lib.hid True.intro
  have hRC := Lib.hid True.intro
  rcases hk with hk | hk
  ·
    go_enter Tryd.func4, Tryd.ntmps4
    go_wp2_with (first
      | (go_at_call 11; (with_reducible refine (hA.out _ hT0.1).mono ?_); rintro e w1 ⟨rfl, ho1⟩; have HO1 := Lib.hid (hn.out.trans ho1); have d := hb.out.kept ho1 (fun hh => hh); have d0 := d.cell 0; have d1 := d.cell 1; have d2 := d.cell 2; have dz := d.lt; have hx1 := Blk.new w1 35 (frC zf (.slice none 0 0)); clear ho1 d)
      | (go_at_call 10; (with_reducible refine (hRW.out _).mono ?_); rintro e w9 ⟨rfl, rfl⟩)
      | (go_at_call 9; (with_reducible refine (hRC.out _).mono ?_); rintro e w9 ⟨rfl, rfl⟩)
      | (go_at_call 8; (with_reducible refine (awake_any _ (Tab.kept hT.out.1 ((HO1.out.alloc _).alloc _) (fun hh => hh))).mono ?_); rintro e w3 ⟨rfl, ho3⟩; have HO3 := Lib.hid (((HO1.out.alloc _).alloc _).trans ho3); have hx3 := (hx1.alloc _).kept ho3 (fun hh => hh); obtain ⟨x0, x1, x2, x3, x4, x5, x6, x7, x8, x9, x10, x11⟩ := hx3.frm; have xz := hx3.lt; clear ho3)
      | (go_at_call 13; (with_reducible refine (RSame_any zf zf (PmIs.nil _) (PmIs.nil _) true (by simp)).mono ?_); rintro e w4 ⟨rfl, ho4⟩; have HO4 := Lib.hid (HO3.out.trans ho4); have hx4 := hx3.kept ho4 (fun hh => hh); obtain ⟨u0, u1, u2, u3, u4, u5, u6, u7, u8, u9, u10, u11⟩ := hx4.frm; have uz := hx4.lt; clear ho4)
      )
    go_ret
    exact ⟨rfl, HO4.out⟩
  · have kn : ¬ k < 0 := by omega
    go_enter Tryd.func4, Tryd.ntmps4
    go_wp2_with (first
      | (go_at_call 11; (with_reducible refine (hA.out _ hT0.1).mono ?_); rintro e w1 ⟨rfl, ho1⟩; have HO1 := Lib.hid (hn.out.trans ho1); have d := hb.out.kept ho1 (fun hh => hh); have d0 := d.cell 0; have d1 := d.cell 1; have d2 := d.cell 2; have dz := d.lt; have hx1 := Blk.new w1 35 (frC zf (.slice none 0 0)); clear ho1 d)
      | (go_at_call 10; (with_reducible refine (hRW.out _).mono ?_); rintro e w9 ⟨rfl, rfl⟩)
      | (go_at_call 9; (with_reducible refine (hRC.out _).mono ?_); rintro e w9 ⟨rfl, rfl⟩)
      | (go_at_call 8; (with_reducible refine (awake_any _ (Tab.kept hT.out.1 ((HO1.out.alloc _).alloc _) (fun hh => hh))).mono ?_); rintro e w3 ⟨rfl, ho3⟩; have HO3 := Lib.hid (((HO1.out.alloc _).alloc _).trans ho3); have hx3 := (hx1.alloc _).kept ho3 (fun hh => hh); obtain ⟨x0, x1, x2, x3, x4, x5, x6, x7, x8, x9, x10, x11⟩ := hx3.frm; have xz := hx3.lt; clear ho3)
      | (go_at_call 13; (with_reducible refine (RSame_any zf zf (PmIs.nil _) (PmIs.nil _) true (by simp)).mono ?_); rintro e w4 ⟨rfl, ho4⟩; have HO4 := Lib.hid (HO3.out.trans ho4); have hx4 := hx3.kept ho4 (fun hh => hh); obtain ⟨u0, u1, u2, u3, u4, u5, u6, u7, u8, u9, u10, u11⟩ := hx4.frm; have uz := hx4.lt; clear ho4)
      )
    go_ret
    exact ⟨rfl, HO4.out⟩
set_option maxRecDepth 100000 in
set_option maxHeartbeats 4000000 in
theorem fa_c (k s o last : Int) (w : World) (hT : Rws w ∧ Nds w) (k0 : 0 ≤ k) (k20 : k ≤ 20) (hw : whB k = true) (l1 : 0 ≤ last) (l2 : last ≤ 2147483647) : Calls Tryd.prog 4 #[ftV k s o, .int .i64 last] w fun e w' => e = .returned (.bool true) ∧ Only Nil w w' := by
  have hn := Lib.hid ((Only.refl Nil w).alloc (.cells #[.int .i64 k, .int .i64 s, .int .i64 o] 23))
  have hb := Lib.hid (Blk.new w 23 #[.int .i64 k, .int .i64 s, .int .i64 o])
  have hT0 : Rws _ ∧ Nds _ := ⟨Tab.kept hT.1 hn.out (fun hh => hh), Tab.kept hT.2 hn.out (fun hh => hh)⟩
  have hT := Lib.hid hT
  have hA := Lib.hid (fun W (h : Rws W) => Answer_c (w := W) (k := k) (s := s) (o := o) last h k0 k20 hw l1 l2)
  unfold AnPost at hA
  have hRC := Lib.hid (fun W => RCode_in (w := W) (o := o) k0 k20)
  have hRW := Lib.hid (fun W => RWhole_in (w := W) k0 k20)
  have hc4 : fourB (cdF k o) = true := cd_four k0 k20
  have kn : ¬ k < 0 := by omega
  have kn2 : ¬ 20 < k := by omega
  rw [hw] at hRW
  clear hw k0 k20
  generalize cdF k o = cc at *
  have hl : fourB last = true := by simp [fourB, l1, l2]
  have hri : true = true ↔ rightP (fz 9 0 cc last) := hl ▸ r9 cc last hc4
  have hRi := Lib.hid (fun W (h : PmIs W (.slice none 0 0) []) => RRight_any (fz 9 0 cc last) W h true hri)
  have hCk := Lib.hid (fun W (h : PmIs W (.slice none 0 0) []) (hT : Nds W) => Check_any (fz 9 0 cc last) W h hT true hri)
  unfold CkPost at hCk
  rw [if_pos rfl] at hCk
  clear hri hc4 hl l1 l2
  go_enter Tryd.func4, Tryd.ntmps4
  go_wp2_with (first
    | (go_at_call 11; (with_reducible refine (hA.out _ hT0.1).mono ?_); rintro e w1 ⟨rfl, ho1⟩; have HO1 := Lib.hid (hn.out.trans ho1); have d := hb.out.kept ho1 (fun hh => hh); have d0 := d.cell 0; have d1 := d.cell 1; have d2 := d.cell 2; have dz := d.lt; have hx1 := Blk.new w1 35 (frC (fz 9 0 cc last) (.slice none 0 0)); clear ho1 d)
    | (go_at_call 10; (with_reducible refine (hRW.out _).mono ?_); rintro e w9 ⟨rfl, rfl⟩)
    | (go_at_call 9; (with_reducible refine (hRC.out _).mono ?_); rintro e w9 ⟨rfl, rfl⟩)
    | (go_at_call 12; (with_reducible refine (hRi.out _ (PmIs.nil _)).mono ?_); rintro e w2 ⟨rfl, ho2⟩; have HO2 := Lib.hid (((HO1.out.alloc _).alloc _).trans ho2); have hx2 := (hx1.alloc _).kept ho2 (fun hh => hh); have hw2 := Blk.kept (newB w1 35 (frC (fz 9 0 cc last) (.slice none 0 0)) (frC (fz 9 0 cc last) (.slice none 0 0))) ho2 (fun hh => hh); clear ho2)
    | (go_at_call 8; (with_reducible refine (awake_any _ (Tab.kept hT.out.1 HO2.out (fun hh => hh))).mono ?_); rintro e w3 ⟨rfl, ho3⟩; have HO3 := Lib.hid (HO2.out.trans ho3); have hx3 := hx2.kept ho3 (fun hh => hh); have hw3 := hw2.kept ho3 (fun hh => hh); obtain ⟨x0, x1, x2, x3, x4, x5, x6, x7, x8, x9, x10, x11⟩ := hx3.frm; obtain ⟨y0, y1, y2, y3, y4, y5, y6, y7, y8, y9, y10, y11⟩ := hw3.frm; have xz := hx3.lt; have yz := hw3.lt; clear ho3)
    | (go_at_call 13; (with_reducible refine (RSame_any (fz 9 0 cc last) (fz 9 0 cc last) (PmIs.nil _) (PmIs.nil _) true (by simp)).mono ?_); rintro e w4 ⟨rfl, ho4⟩; have HO4 := Lib.hid (HO3.out.trans ho4); have hx4 := hx3.kept ho4 (fun hh => hh); obtain ⟨u0, u1, u2, u3, u4, u5, u6, u7, u8, u9, u10, u11⟩ := hx4.frm; have uz := hx4.lt; clear ho4)
    | (go_at_call 14; (with_reducible refine (hCk.out _ (PmIs.nil _) (Tab.kept hT.out.2 HO4.out (fun hh => hh))).mono ?_); rintro e w5 ⟨rfl, ho5⟩; have HO5 := Lib.hid (HO4.out.trans ho5))
    )
  go_ret
  exact ⟨rfl, HO5.out⟩
set_option maxRecDepth 100000 in
set_option maxHeartbeats 4000000 in
theorem fa_cx (k s o last : Int) (w : World) (hT : Rws w ∧ Nds w) (k0 : 0 ≤ k) (k20 : k ≤ 20) (hw : whB k = true) (hx : last < 0 ∨ 2147483647 < last) : Calls Tryd.prog 4 #[ftV k s o, .int .i64 last] w fun e w' => e = .returned (.bool true) ∧ Only Nil w w' := by
  have hn := Lib.hid ((Only.refl Nil w).alloc (.cells #[.int .i64 k, .int .i64 s, .int .i64 o] 23))
  have hb := Lib.hid (Blk.new w 23 #[.int .i64 k, .int .i64 s, .int .i64 o])
  have hT0 : Rws _ ∧ Nds _ := ⟨Tab.kept hT.1 hn.out (fun hh => hh), Tab.kept hT.2 hn.out (fun hh => hh)⟩
  have hT := Lib.hid hT
  have hA := Lib.hid (fun W (h : Rws W) => Answer_cx (w := W) (k := k) (s := s) (o := o) last h k0 k20 hw hx)
  unfold AnPost at hA
  have hRC := Lib.hid (fun W => RCode_in (w := W) (o := o) k0 k20)
  have hRW := Lib.hid (fun W => RWhole_in (w := W) k0 k20)
  have hc4 : fourB (cdF k o) = true := cd_four k0 k20
  have kn : ¬ k < 0 := by omega
  have kn2 : ¬ 20 < k := by omega
  rw [hw] at hRW
  clear hw k0 k20
  generalize cdF k o = cc at *
  have hl : fourB last = false := four_not hx
  have hri : false = true ↔ rightP (fz 9 0 cc last) := hl ▸ r9 cc last hc4
  have hRi := Lib.hid (fun W (h : PmIs W (.slice none 0 0) []) => RRight_any (fz 9 0 cc last) W h false hri)
  clear hri hc4 hl hx
  go_enter Tryd.func4, Tryd.ntmps4
  go_wp2_with (first
    | (go_at_call 11; (with_reducible refine (hA.out _ hT0.1).mono ?_); rintro e w1 ⟨rfl, ho1⟩; have HO1 := Lib.hid (hn.out.trans ho1); have d := hb.out.kept ho1 (fun hh => hh); have d0 := d.cell 0; have d1 := d.cell 1; have d2 := d.cell 2; have dz := d.lt; have hx1 := Blk.new w1 35 (frC zf (.slice none 0 0)); clear ho1 d)
    | (go_at_call 10; (with_reducible refine (hRW.out _).mono ?_); rintro e w9 ⟨rfl, rfl⟩)
    | (go_at_call 9; (with_reducible refine (hRC.out _).mono ?_); rintro e w9 ⟨rfl, rfl⟩)
    | (go_at_call 12; (with_reducible refine (hRi.out _ (PmIs.nil _)).mono ?_); rintro e w2 ⟨rfl, ho2⟩; have HO2 := Lib.hid (((HO1.out.alloc _).alloc _).trans ho2); have hx2 := (hx1.alloc _).kept ho2 (fun hh => hh); have hw2 := Blk.kept (newB w1 35 (frC zf (.slice none 0 0)) (frC (fz 9 0 cc last) (.slice none 0 0))) ho2 (fun hh => hh); clear ho2)
    | (go_at_call 8; (with_reducible refine (awake_any _ (Tab.kept hT.out.1 HO2.out (fun hh => hh))).mono ?_); rintro e w3 ⟨rfl, ho3⟩; have HO3 := Lib.hid (HO2.out.trans ho3); have hx3 := hx2.kept ho3 (fun hh => hh); have hw3 := hw2.kept ho3 (fun hh => hh); obtain ⟨x0, x1, x2, x3, x4, x5, x6, x7, x8, x9, x10, x11⟩ := hx3.frm; obtain ⟨y0, y1, y2, y3, y4, y5, y6, y7, y8, y9, y10, y11⟩ := hw3.frm; have xz := hx3.lt; have yz := hw3.lt; clear ho3)
    | (go_at_call 13; (with_reducible refine (RSame_any zf zf (PmIs.nil _) (PmIs.nil _) true (by simp)).mono ?_); rintro e w4 ⟨rfl, ho4⟩; have HO4 := Lib.hid (HO3.out.trans ho4); have hx4 := hx3.kept ho4 (fun hh => hh); obtain ⟨u0, u1, u2, u3, u4, u5, u6, u7, u8, u9, u10, u11⟩ := hx4.frm; have uz := hx4.lt; clear ho4)
    )
  go_ret
  exact ⟨rfl, HO4.out⟩
set_option maxRecDepth 100000 in
set_option maxHeartbeats 4000000 in
theorem fa_s (k s o last : Int) (w : World) (hT : Rws w ∧ Nds w) (k0 : 0 ≤ k) (k20 : k ≤ 20) (hw : whB k = false) (s1 : 1 ≤ s) (s2 : s ≤ 2147483647) : Calls Tryd.prog 4 #[ftV k s o, .int .i64 last] w fun e w' => e = .returned (.bool true) ∧ Only Nil w w' := by
  have hn := Lib.hid ((Only.refl Nil w).alloc (.cells #[.int .i64 k, .int .i64 s, .int .i64 o] 23))
  have hb := Lib.hid (Blk.new w 23 #[.int .i64 k, .int .i64 s, .int .i64 o])
  have hT0 : Rws _ ∧ Nds _ := ⟨Tab.kept hT.1 hn.out (fun hh => hh), Tab.kept hT.2 hn.out (fun hh => hh)⟩
  have hT := Lib.hid hT
  have hA := Lib.hid (fun W (h : Rws W) => Answer_s (w := W) (k := k) (s := s) (o := o) last h k0 k20 hw s1 s2)
  unfold AnPost at hA
  have hRC := Lib.hid (fun W => RCode_in (w := W) (o := o) k0 k20)
  have hRW := Lib.hid (fun W => RWhole_in (w := W) k0 k20)
  have hc4 : fourB (cdF k o) = true := cd_four k0 k20
  have kn : ¬ k < 0 := by omega
  have kn2 : ¬ 20 < k := by omega
  rw [hw] at hRW
  clear hw k0 k20
  generalize cdF k o = cc at *
  have hri : true = true ↔ rightP (fz 4 s cc 0) := r4 s cc hc4 s1 s2
  have hRi := Lib.hid (fun W (h : PmIs W (.slice none 0 0) []) => RRight_any (fz 4 s cc 0) W h true hri)
  have hCk := Lib.hid (fun W (h : PmIs W (.slice none 0 0) []) (hT : Nds W) => Check_any (fz 4 s cc 0) W h hT true hri)
  unfold CkPost at hCk
  rw [if_pos rfl] at hCk
  clear hri hc4 s1 s2
  go_enter Tryd.func4, Tryd.ntmps4
  go_wp2_with (first
    | (go_at_call 11; (with_reducible refine (hA.out _ hT0.1).mono ?_); rintro e w1 ⟨rfl, ho1⟩; have HO1 := Lib.hid (hn.out.trans ho1); have d := hb.out.kept ho1 (fun hh => hh); have d0 := d.cell 0; have d1 := d.cell 1; have d2 := d.cell 2; have dz := d.lt; have hx1 := Blk.new w1 35 (frC (fz 4 s cc 0) (.slice none 0 0)); clear ho1 d)
    | (go_at_call 10; (with_reducible refine (hRW.out _).mono ?_); rintro e w9 ⟨rfl, rfl⟩)
    | (go_at_call 9; (with_reducible refine (hRC.out _).mono ?_); rintro e w9 ⟨rfl, rfl⟩)
    )
  go_region_law (first
    | (go_simp; go_at_call 9; (with_reducible refine (hRC.out _).mono ?_); rintro e w9 ⟨rfl, rfl⟩)
    )
  go_wp2_with (first
    | (go_at_call 12; (with_reducible refine (hRi.out _ (PmIs.nil _)).mono ?_); rintro e w2 ⟨rfl, ho2⟩; have HO2 := Lib.hid (((HO1.out.alloc _).alloc _).drew.trans ho2); have hx2 := (hx1.alloc _).drew.kept ho2 (fun hh => hh); have hw2 := Blk.kept (Blk.drew (newB w1 35 (frC (fz 4 s cc 0) (.slice none 0 0)) (frC (fz 4 s cc 0) (.slice none 0 0)))) ho2 (fun hh => hh); clear ho2)
    | (go_at_call 8; (with_reducible refine (awake_any _ (Tab.kept hT.out.1 HO2.out (fun hh => hh))).mono ?_); rintro e w3 ⟨rfl, ho3⟩; have HO3 := Lib.hid (HO2.out.trans ho3); have hx3 := hx2.kept ho3 (fun hh => hh); have hw3 := hw2.kept ho3 (fun hh => hh); obtain ⟨x0, x1, x2, x3, x4, x5, x6, x7, x8, x9, x10, x11⟩ := hx3.frm; obtain ⟨y0, y1, y2, y3, y4, y5, y6, y7, y8, y9, y10, y11⟩ := hw3.frm; have xz := hx3.lt; have yz := hw3.lt; clear ho3)
    | (go_at_call 13; (with_reducible refine (RSame_any (fz 4 s cc 0) (fz 4 s cc 0) (PmIs.nil _) (PmIs.nil _) true (by simp)).mono ?_); rintro e w4 ⟨rfl, ho4⟩; have HO4 := Lib.hid (HO3.out.trans ho4); have hx4 := hx3.kept ho4 (fun hh => hh); obtain ⟨u0, u1, u2, u3, u4, u5, u6, u7, u8, u9, u10, u11⟩ := hx4.frm; have uz := hx4.lt; clear ho4)
    | (go_at_call 14; (with_reducible refine (hCk.out _ (PmIs.nil _) (Tab.kept hT.out.2 HO4.out (fun hh => hh))).mono ?_); rintro e w5 ⟨rfl, ho5⟩; have HO5 := Lib.hid (HO4.out.trans ho5))
    )
  all_goals
    go_ret
    exact ⟨rfl, HO5.out⟩
set_option maxRecDepth 100000 in
set_option maxHeartbeats 4000000 in
theorem fa_sx (k s o last : Int) (w : World) (hT : Rws w ∧ Nds w) (k0 : 0 ≤ k) (k20 : k ≤ 20) (hw : whB k = false) (hx : s < 1 ∨ 2147483647 < s) : Calls Tryd.prog 4 #[ftV k s o, .int .i64 last] w fun e w' => e = .returned (.bool true) ∧ Only Nil w w' := by
  have hn := Lib.hid ((Only.refl Nil w).alloc (.cells #[.int .i64 k, .int .i64 s, .int .i64 o] 23))
  have hb := Lib.hid (Blk.new w 23 #[.int .i64 k, .int .i64 s, .int .i64 o])
  have hT0 : Rws _ ∧ Nds _ := ⟨Tab.kept hT.1 hn.out (fun hh => hh), Tab.kept hT.2 hn.out (fun hh => hh)⟩
  have hT := Lib.hid hT
  have hA := Lib.hid (fun W (h : Rws W) => Answer_sx (w := W) (k := k) (s := s) (o := o) last h k0 k20 hw hx)
  unfold AnPost at hA
  have hRC := Lib.hid (fun W => RCode_in (w := W) (o := o) k0 k20)
  have hRW := Lib.hid (fun W => RWhole_in (w := W) k0 k20)
  have hc4 : fourB (cdF k o) = true := cd_four k0 k20
  have kn : ¬ k < 0 := by omega
  have kn2 : ¬ 20 < k := by omega
  rw [hw] at hRW
  clear hw k0 k20
  generalize cdF k o = cc at *
  have hri : false = true ↔ rightP (fz 4 s cc 0) := r4x s cc hx
  have hRi := Lib.hid (fun W (h : PmIs W (.slice none 0 0) []) => RRight_any (fz 4 s cc 0) W h false hri)
  clear hri hc4 hx
  go_enter Tryd.func4, Tryd.ntmps4
  go_wp2_with (first
    | (go_at_call 11; (with_reducible refine (hA.out _ hT0.1).mono ?_); rintro e w1 ⟨rfl, ho1⟩; have HO1 := Lib.hid (hn.out.trans ho1); have d := hb.out.kept ho1 (fun hh => hh); have d0 := d.cell 0; have d1 := d.cell 1; have d2 := d.cell 2; have dz := d.lt; have hx1 := Blk.new w1 35 (frC zf (.slice none 0 0)); clear ho1 d)
    | (go_at_call 10; (with_reducible refine (hRW.out _).mono ?_); rintro e w9 ⟨rfl, rfl⟩)
    | (go_at_call 9; (with_reducible refine (hRC.out _).mono ?_); rintro e w9 ⟨rfl, rfl⟩)
    )
  go_region_law (first
    | (go_simp; go_at_call 9; (with_reducible refine (hRC.out _).mono ?_); rintro e w9 ⟨rfl, rfl⟩)
    )
  go_wp2_with (first
    | (go_at_call 12; (with_reducible refine (hRi.out _ (PmIs.nil _)).mono ?_); rintro e w2 ⟨rfl, ho2⟩; have HO2 := Lib.hid (((HO1.out.alloc _).alloc _).drew.trans ho2); have hx2 := (hx1.alloc _).drew.kept ho2 (fun hh => hh); have hw2 := Blk.kept (Blk.drew (newB w1 35 (frC zf (.slice none 0 0)) (frC (fz 4 s cc 0) (.slice none 0 0)))) ho2 (fun hh => hh); clear ho2)
    | (go_at_call 8; (with_reducible refine (awake_any _ (Tab.kept hT.out.1 HO2.out (fun hh => hh))).mono ?_); rintro e w3 ⟨rfl, ho3⟩; have HO3 := Lib.hid (HO2.out.trans ho3); have hx3 := hx2.kept ho3 (fun hh => hh); have hw3 := hw2.kept ho3 (fun hh => hh); obtain ⟨x0, x1, x2, x3, x4, x5, x6, x7, x8, x9, x10, x11⟩ := hx3.frm; obtain ⟨y0, y1, y2, y3, y4, y5, y6, y7, y8, y9, y10, y11⟩ := hw3.frm; have xz := hx3.lt; have yz := hw3.lt; clear ho3)
    | (go_at_call 13; (with_reducible refine (RSame_any zf zf (PmIs.nil _) (PmIs.nil _) true (by simp)).mono ?_); rintro e w4 ⟨rfl, ho4⟩; have HO4 := Lib.hid (HO3.out.trans ho4); have hx4 := hx3.kept ho4 (fun hh => hh); obtain ⟨u0, u1, u2, u3, u4, u5, u6, u7, u8, u9, u10, u11⟩ := hx4.frm; have uz := hx4.lt; clear ho4)
    )
  all_goals
    go_ret
    exact ⟨rfl, HO4.out⟩
theorem faultAnswers_walk (v0 v1 : Value) (w : World) (h0 : Kd.Fit w (.agg [.int .i64, .int .i64, .int .i64]) v0) (h1 : Kd.Fit w (.int .i64) v1) (hT : Rws w ∧ Nds w) :
    Calls Tryd.prog 4 #[v0, v1] w fun e w' => e = .returned (.bool true) ∧ Below w.heap.size w w' := by
  obtain ⟨cs, rfl, h0⟩ := h0
  obtain ⟨k, s, o, rfl, _, _, _⟩ := Kd.list_ints3 h0
  obtain ⟨last, rfl, _⟩ := Kd.int_fit h1
  have fin : ∀ (e : Ending) (w' : World), e = .returned (.bool true) ∧ Only Nil w w' → e = .returned (.bool true) ∧ Below w.heap.size w w' := fun e w' h => ⟨h.1, h.2.below (Nat.le_refl _) (fun _ _ hh => hh)⟩
  by_cases hk : k < 0 ∨ 20 < k
  · exact (fa_out k s o last w hT hk).mono fin
  cases hw : whB k
  · by_cases hx : s < 1 ∨ 2147483647 < s
    · exact (fa_sx k s o last w hT (by omega) (by omega) hw hx).mono fin
    · exact (fa_s k s o last w hT (by omega) (by omega) hw (by omega) (by omega)).mono fin
  · by_cases hx : last < 0 ∨ 2147483647 < last
    · exact (fa_cx k s o last w hT (by omega) (by omega) hw hx).mono fin
    · exact (fa_c k s o last w hT (by omega) (by omega) hw (by omega) (by omega)).mono fin
/-! The step from the walk to the statement of FaultAnswers. -/
namespace frFaultAnswers
open Go.ChangeShapes Go.WideShapes Go.ChangeAt Go.RowKit
set_option linter.unusedVariables false
theorem own : ownKnob Tryd.prog.godebug = none := by kernel_rfl
theorem laidOut : laidOutB Tryd.prog = true := by kernel_rfl
theorem shape0 : Kd.ok Tryd.prog (.agg [.int .i64, .int .i64, .int .i64]) 23 = true := by kernel_rfl
theorem shape1 : Kd.ok Tryd.prog (.int .i64) 3 = true := by kernel_rfl
theorem tabs {W : World} (h : laidMetH Tryd.prog Rows.faultAnswersRow.laid W) : Tab W 0 tab_fault_rows ∧ Tab W 1 tab_header_needs := by
  have h0 : laidMet Tryd.prog [("paternoster/fault.rows", Rows.laid_paternoster_fault_rows), ("paternoster/header.needs", Rows.laid_paternoster_header_needs)] W := h
  obtain ⟨t0, h1⟩ := Tab.of_var tab_fault_rows_g tab_fault_rows_ty tab_fault_rows_ok tab_fault_rows_vals (by decide) h0
  obtain ⟨t1, h2⟩ := Tab.of_var tab_header_needs_g tab_header_needs_ty tab_header_needs_ok tab_header_needs_vals (by decide) h1
  exact ⟨t0, t1⟩
set_option maxRecDepth 100000 in
theorem contract (H : Type) (enc : TypeId × Value → H) (W : World) (base : Nat) (args : Array Value) (ds gs : List (DataW H)) (before : List MemPlace)
    (hval : ∀ (j : Nat) t v, Tryd.f4.params[j]? = some t → args[j]? = some v → Value.okWide Tryd.prog W .any base t v)
    (hW : DataW.Whole enc Tryd.prog Tryd.f4.params.toList Rows.faultAnswersSpec.vars false W args.toList ds gs before) (hL : laidMetH Tryd.prog Rows.faultAnswersRow.laid W) :
    Calls Tryd.prog 4 args W fun e W' => ∃ v, e = .returned v ∧ Rows.faultAnswersSpec.post enc Tryd.prog Tryd.f4 false true false false W args v W' := by
  have hT := tabs hL
  have hW' := hW
  obtain ⟨p, q, hA0, hV, rfl, hfz, hnd⟩ := hW
  have hA : DataW.TrodAll enc Tryd.prog W 0 (fun _ => true) true Tryd.f4.params.toList args.toList ds p := hA0
  rw [Tryd.params4] at hA hval
  obtain ⟨v0, vs0, d0, ds0, p0, q0, hargs, rfl, rfl, h0, r0⟩ := trodAll_cons hA
  obtain ⟨v1, vs1, d1, ds1, p1, q1, rfl, rfl, rfl, h1, r1⟩ := trodAll_cons r0
  obtain ⟨rfl, rfl, rfl⟩ := trodAll_nil r1
  obtain rfl : args = #[v0, v1] := by cases args; simp_all
  obtain ⟨rfl, rfl⟩ := trodVars_none hV
  have k0 := Kd.fit _ shape0 (hval 0 23 v0 rfl rfl) h0
  have lt0 : ∀ x ∈ p0, x.block < W.heap.size := by obtain ⟨m, hm⟩ := h0; exact DataW.trod_lt m _ _ _ hm
  have k1 := Kd.fit _ shape1 (hval 1 3 v1 rfl rfl) h1
  have lt1 : ∀ x ∈ p1, x.block < W.heap.size := by obtain ⟨m, hm⟩ := h1; exact DataW.trod_lt m _ _ _ hm
  refine (faultAnswers_walk v0 v1 W k0 k1 hT).mono fun e W' ⟨he, bel⟩ => ?_
  subst he
  exact ⟨_, rfl, _, _, _, [], _, [], hW', trodAll_mk1 (shut_bool Tryd.underlying4 _), (trodAll_cons_mk (Below.trod laidOut (by kernel_rfl) (of_decide_eq_true (by kernel_rfl)) h0 bel lt0) (trodAll_cons_mk (Below.trod laidOut (by kernel_rfl) (of_decide_eq_true (by kernel_rfl)) h1 bel lt1) trodAll_mk0)), rfl, bel.frame _, fun h => by cases h⟩
noncomputable def laidWorld (os : Os) : World := { World.holding Tryd.prog os ⟨#[], #[], []⟩ with heap := (((World.holding Tryd.prog os ⟨#[], #[], []⟩).heap.modify 0 fun | .cells _ t frozen => .cells tab_fault_rows t frozen | o => o).modify 1 fun | .cells _ t frozen => .cells tab_header_needs t frozen | o => o) }
theorem laid_met (os : Os) : laidMet Tryd.prog Rows.faultAnswersRow.laid ((laidWorld os).forCall (fun _ _ => 0) ⟨#[], #[.agg #[.int .i64 0, .int .i64 0, .int .i64 0], .int .i64 0], []⟩).memory :=
  laidMet_of_run' 8 (by kernel_rfl) (by kernel_rfl)
theorem reads (os : Os) {H : Type} (enc : TypeId × Value → H) : ∃ places, DataW.whole enc Tryd.prog ((laidWorld os).forCall (fun _ _ => 0) ⟨#[], #[.agg #[.int .i64 0, .int .i64 0, .int .i64 0], .int .i64 0], []⟩).memory Tryd.f4.params.toList Rows.faultAnswersSpec.vars false (#[.agg #[.int .i64 0, .int .i64 0, .int .i64 0], .int .i64 0] : Array Value).toList 8 = some ([.agg [.lit (.int .i64 0), .lit (.int .i64 0), .lit (.int .i64 0)], .lit (.int .i64 0)], [], places) :=
  ⟨[], by kernel_rfl⟩
set_option maxRecDepth 100000 in
theorem lifted (os : Os) (started : os.Started) (H : Type) (enc : TypeId × Value → H) (F : Stop.Interp) :
    ReturnsInHanded {} Tryd.checked os 4 .any ((OpenSpec.ofChange Rows.faultAnswersSpec).preRow enc Tryd.prog Tryd.f4 Rows.faultAnswersRow.domain false Rows.faultAnswersRow.laid) (((OpenSpec.ofChange Rows.faultAnswersSpec).at F).post enc Tryd.prog Tryd.f4 false true false false) := by
  obtain ⟨places, hx⟩ := reads os enc
  refine returnsInHanded_of_row (C := Tryd.checked) (s := (OpenSpec.ofChange Rows.faultAnswersSpec)) own started (by kernel_rfl) Tryd.func4
    (witness_row_at (enc := enc) (C := Tryd.checked) false (laidWorld os) #[.agg #[.int .i64 0, .int .i64 0, .int .i64 0], .int .i64 0] rfl (by kernel_rfl) (by kernel_rfl) (by kernel_rfl)
      (OpenSpec.preRow_of_cond 8 hx (by kernel_rfl) (fun k hk => by cases hk) (by kernel_rfl) (laid_met os))) ?_
  intro W base args ds gs before hval hW _ _ _ hL _ _
  exact contract H enc W base args ds gs before hval hW hL
theorem said : Rows.FaultAnswersSaid :=
  OpenClaim.holds_of_cond 4 Tryd.f4 rfl rfl rfl rfl rfl rfl rfl ⟨rfl, rfl, rfl, rfl, rfl⟩ rfl rfl rfl rfl rfl (by kernel_rfl) Tryd.func4 (by kernel_rfl)
    (of_decide_eq_true (by kernel_rfl)) (by unfold Func.isWrapper; first | (rw [if_pos (by decide +kernel)]; kernel_rfl) | (rw [if_neg (by decide +kernel)]; exact ⟨rfl, rfl⟩))
    (fun os started H enc _ F => by rw [OpenClaim.pre_eq_preRow]; exact lifted os started H enc F)
theorem plain (f : FuncId) (fn : Func) (hf : Tryd.pinned.checked.prog.funcNamed "paternoster/paternosterlaw21.FaultAnswers" = some f) (hfn : Tryd.pinned.checked.prog.funcs[f]? = some fn) :
    false = Tryd.pinned.checked.prog.looks [] ∧ ∀ (j : Nat) t, fn.params[j]? = some t → Tryd.pinned.checked.prog.wantsStandIn t = false := by
  obtain rfl : f = 4 := Option.some.inj ((show Tryd.prog.funcNamed "paternoster/paternosterlaw21.FaultAnswers" = some 4 by kernel_rfl).symm.trans hf) |>.symm
  obtain rfl : fn = Tryd.f4 := (Option.some.inj (Tryd.func4.symm.trans hfn)).symm
  refine ⟨by kernel_rfl, fun j t ht => ?_⟩
  rw [Tryd.params4] at ht
  have hm : t ∈ [23, 3] := by simpa using Array.mem_of_getElem? ht
  simp only [List.mem_cons, List.not_mem_nil, or_false] at hm
  rcases hm with rfl | rfl
  · exact (show Tryd.prog.wantsStandIn 23 = false by kernel_rfl)
  · exact (show Tryd.prog.wantsStandIn 3 = false by kernel_rfl)
theorem proved : Rows.FaultAnswersCardSaid :=
  Claim7.holds_tied_plain_at .later [] _ _ _ _ said (fun _ h => by cases h) (by kernel_rfl) (fun _ h => by cases h) faultAnswers_row_tie rfl ⟨rfl, rfl⟩ (by kernel_rfl) rfl plain (by kernel_rfl)
end frFaultAnswers
end Go.Proofs.YteljagaplpiopaaDoor
