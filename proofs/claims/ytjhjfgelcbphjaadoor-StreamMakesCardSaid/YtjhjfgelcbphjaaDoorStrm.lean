/- A stream: how one is made, and what a nil one does. -/
import Derived.Test.YtjhjfgelcbphjaaDoorTxC
import Derived.Test.YtjhjfgelcbphjaaDoorLife
import Derived.Test.YtjhjfgelcbphjaaDoorParams
import Derived.Test.YtjhjfgelcbphjaaDoorFrmF2
namespace Go.Proofs.YtjhjfgelcbphjaaDoor
open Go.RowKit

/-! ### nil -/
theorem SSends_nil (w : World) : Calls Tryd.prog 53 #[.pointer none] w fun x w' => x = .returned (.int .i64 1) ∧ w = w' := by
  go_enter Tryd.func53, Tryd.ntmps53
  go_wp2
  go_ret
  exact ⟨rfl, rfl⟩
theorem SOffer_nil (X : ByteArray) (w : World) : Calls Tryd.prog 28 #[.pointer none, .string X] w fun x w' => x = .returned (.tuple #[.int .i64 0, .int .i64 1]) ∧ w = w' := by
  go_enter Tryd.func28, Tryd.ntmps28
  go_wp2_with (first
    | (go_at_call 53; (with_reducible refine (SSends_nil _).mono ?_); rintro e w1 ⟨rfl, rfl⟩)
    )
  go_ret2
  exact ⟨rfl, rfl⟩
theorem SFinish_nil (w : World) : Calls Tryd.prog 36 #[.pointer none] w fun x w' => x = .returned (.int .i64 1) ∧ w = w' := by
  go_enter Tryd.func36, Tryd.ntmps36
  go_wp2_with (first
    | (go_at_call 53; (with_reducible refine (SSends_nil _).mono ?_); rintro e w1 ⟨rfl, rfl⟩)
    )
  go_ret
  exact ⟨rfl, rfl⟩
theorem STx_nil (w : World) : Calls Tryd.prog 16 #[.pointer none] w fun x w' => x = .returned (.pointer none) ∧ w = w' := by
  go_enter Tryd.func16, Tryd.ntmps16
  go_wp2
  go_ret
  exact ⟨rfl, rfl⟩
theorem SRx_nil (w : World) : Calls Tryd.prog 17 #[.pointer none] w fun x w' => x = .returned (.pointer none) ∧ w = w' := by
  go_enter Tryd.func17, Tryd.ntmps17
  go_wp2
  go_ret
  exact ⟨rfl, rfl⟩
theorem SID_nil (w : World) : Calls Tryd.prog 11 #[.pointer none] w fun x w' => x = .returned (.int .i64 0) ∧ w = w' := by
  go_enter Tryd.func11, Tryd.ntmps11
  go_wp2
  go_ret
  exact ⟨rfl, rfl⟩
theorem SOwn_nil (w : World) : Calls Tryd.prog 13 #[.pointer none] w fun x w' => x = .returned (.bool false) ∧ w = w' := by
  go_enter Tryd.func13, Tryd.ntmps13
  go_wp2
  go_ret
  exact ⟨rfl, rfl⟩
theorem SGone_nil (w : World) : Calls Tryd.prog 34 #[.pointer none] w fun x w' => x = .returned (.bool true) ∧ w = w' := by
  go_enter Tryd.func34, Tryd.ntmps34
  go_wp2
  go_ret
  exact ⟨rfl, rfl⟩
theorem SKind_nil (w : World) : Calls Tryd.prog 12 #[.pointer none] w fun x w' => x = .returned (.int .i64 0) ∧ w = w' := by
  go_enter Tryd.func12, Tryd.ntmps12
  go_wp2_with (first
    | (go_at_call 16; (with_reducible refine (STx_nil _).mono ?_); rintro e w1 ⟨rfl, rfl⟩)
    | (go_at_call 43; (with_reducible refine (TKind_nil _).mono ?_); rintro e w1 ⟨rfl, rfl⟩)
    )
  go_ret
  exact ⟨rfl, rfl⟩
theorem SEnd_nil (n : Int) (w : World) : Calls Tryd.prog 31 #[.pointer none, .int .i64 n] w fun x w' => x = .returned (.int .i64 0) ∧ w = w' := by
  go_enter Tryd.func31, Tryd.ntmps31
  go_wp2
  go_ret
  exact ⟨rfl, rfl⟩
abbrev zfr : Frm := ⟨0, 0, false, nilS, 0, 0, 0, false, 0, 0, 0, []⟩
theorem SCome_nil (f : Frm) (p : Value) (w : World) : Calls Tryd.prog 24 #[.pointer none, frmV f p] w fun x w' => x = .returned (.tuple #[.int .i64 7, .bool false]) ∧ Only Nil w w' := by
  go_enter Tryd.func24, Tryd.ntmps24
  go_wp2
  go_ret2
  exact ⟨rfl, (Only.refl _ _).alloc _⟩
theorem STake_nil (n : Int) (w : World) : Calls Tryd.prog 35 #[.pointer none, .int .i64 n] w fun x w' => x = .returned (.tuple #[frmV zfr (.slice none 0 0), .bool false]) ∧ Only Nil w w' := by
  go_enter Tryd.func35, Tryd.ntmps35
  go_wp2_with (first
    | (go_at_call 53; (with_reducible refine (SSends_nil _).mono ?_); rintro e w1 ⟨rfl, rfl⟩)
    )
  exact bodyPost_ret (v := .tuple #[frmV zfr (.slice none 0 0), .bool false]) (by simp [results, Tryd.results35, go_sem]) rfl ⟨rfl, (Only.refl _ _).alloc _⟩
/-! ### rx.New -/
theorem PcNew_in (n : Int) (w : World) (h0 : 0 ≤ n) (h1 : n ≤ 2147483647) : Calls Tryd.prog 70 #[.int .i64 n] w fun x w' => ∃ p, x = .returned (.tuple #[.pointer (some ⟨p, 0, none⟩), .int .i64 0]) ∧ Only Nil w w' := by
  have hm : ∀ W, Calls Tryd.prog 88 #[.int .i64 n] W fun x w' => x = .returned (.bool true) ∧ W = w' := fun W => by
    go_enter Tryd.func88, Tryd.ntmps88
    go_wp2
    go_ret
    exact ⟨rfl, rfl⟩
  have HM := Lib.hid hm
  clear hm
  go_enter Tryd.func70, Tryd.ntmps70
  go_wp2_with (first
    | (go_at_call 88; (with_reducible refine (HM.out _).mono ?_); rintro e w1 ⟨rfl, rfl⟩)
    )
  go_ret2
  exact ⟨_, rfl, (Only.refl _ _).alloc _⟩
def NewRx (w : World) (x : Ending) (w' : World) : Prop := ∃ r, x = .returned (.tuple #[.pointer (some ⟨r, 0, none⟩), .int .i64 0]) ∧ Only Nil w w'
theorem rightB_le {a b c : Int} (h : rightB a b c = true) : 0 ≤ a ∧ a ≤ 4096 := by
  unfold rightB at h
  simp only [Bool.and_eq_true, decide_eq_true_eq] at h
  omega
set_option maxHeartbeats 2000000 in
theorem RxNew_1 (a b c : Int) (w : World) (hr : rightB a b c = true) : Calls Tryd.prog 39 #[.int .i64 1, stV a b c] w (NewRx w) := by
  have hC := Lib.hid (fun W => by have := Check_any a b c W; rw [if_pos hr] at this; exact this)
  obtain ⟨a0, a1⟩ := rightB_le hr
  have hs := Lib.hid (Blk.new w 23 #[.int .i64 a, .int .i64 b, .int .i64 c])
  have HO := Lib.hid ((Only.refl Nil w).alloc (.cells #[.int .i64 a, .int .i64 b, .int .i64 c] 23))
  have hG := Lib.hid (fun W => (show Calls Tryd.prog 66 #[.int .i64 4096] W fun x w' => ∃ r g row, x = .returned (.tuple #[.pointer (some ⟨r, 0, none⟩), .int .i64 0]) ∧ Rg w' r g W.heap.size 4096 0 row [] ∧ Only Nil W w' from New_in 4096 W (by decide)))
  have hP := Lib.hid (fun W => PcNew_in a W a0 (by omega))
  clear hr
  go_enter Tryd.func39, Tryd.ntmps39
  go_wp2_with (first
    | (go_at_call 69; (with_reducible refine (hC.out _).mono ?_); rintro e w1 ⟨rfl, ho1⟩; have HO1 := Lib.hid (HO.out.trans ho1); have hs1 := Lib.hid (hs.out.kept ho1 (fun hh => hh)); have hb1 := Lib.hid (Blk.new w1 108 #[.int .i64 1, .pointer none, .pointer none, .pointer none, .pointer none, .int .i64 0, .int .i64 0, .bool false]); clear ho1)
    | (go_at_call 66; (with_reducible refine (hG.out _).mono ?_); rintro e w2 ⟨q, qg, qrow, rfl, hQ2, ho2⟩; have HO2 := Lib.hid ((HO1.out.alloc _).trans ho2); have hb2 := hb1.out.kept ho2 (fun hh => hh); have zb2 := hb2.lt; have k1 := hb2.cell 1; have f1 := hb2.frozen 1; have hb3 := Lib.hid (hb2.set 1 (.pointer (some ⟨q, 0, none⟩))); have hs2 := ((hs1.out.alloc _).kept ho2 (fun hh => hh)); have s0 := hs2.cell 0; have zs2 := hs2.lt; clear ho2 hb2 hs2 hQ2)
    | (go_at_call 70; (with_reducible refine (hP.out _).mono ?_); rintro e w3 ⟨d, rfl, ho3⟩; have HO3 := Lib.hid ho3; have hb4 := hb3.out.kept ho3 (fun hh => hh); have zb4 := hb4.lt; have k2 := hb4.cell 2; have f2 := hb4.frozen 2; clear ho3 hb4)
    )
  go_ret2
  have z1 := HO1.out.size
  exact ⟨w1.heap.size, rfl, (((HO2.out.setNew z1 1 _).trans HO3.out).setNew z1 2 _)⟩
set_option maxHeartbeats 2000000 in
theorem RxNew_2 (a b c : Int) (w : World) (hr : rightB a b c = true) : Calls Tryd.prog 39 #[.int .i64 2, stV a b c] w (NewRx w) := by
  have hC := Lib.hid (fun W => by have := Check_any a b c W; rw [if_pos hr] at this; exact this)
  have hs := Lib.hid (Blk.new w 23 #[.int .i64 a, .int .i64 b, .int .i64 c])
  have HO := Lib.hid ((Only.refl Nil w).alloc (.cells #[.int .i64 a, .int .i64 b, .int .i64 c] 23))
  have hQ := Lib.hid (fun W => Qu.New_any 64 0 W (by decide) (by decide) (by decide) (by decide))
  have hD := Lib.hid (fun W => Dem.New_any 2147483647 W (by decide) (by decide))
  unfold Dem.NewDem at hD
  clear hr
  go_enter Tryd.func39, Tryd.ntmps39
  go_wp2_with (first
    | (go_at_call 69; (with_reducible refine (hC.out _).mono ?_); rintro e w1 ⟨rfl, ho1⟩; have HO1 := Lib.hid (HO.out.trans ho1); have hs1 := hs.out.kept ho1 (fun hh => hh); have hb1 := Lib.hid (Blk.new w1 108 #[.int .i64 2, .pointer none, .pointer none, .pointer none, .pointer none, .int .i64 0, .int .i64 0, .bool false]); clear ho1)
    | (go_at_call 67; (with_reducible refine (hQ.out _).mono ?_); rintro e w2 ⟨q, rfl, ho2, hzq, hQ2⟩; have HO2 := Lib.hid ((HO1.out.alloc _).trans ho2); have hb2 := hb1.out.kept ho2 (fun hh => hh); have zb2 := hb2.lt; have k3 := hb2.cell 3; have f3 := hb2.frozen 3; have hb3 := Lib.hid (hb2.set 3 (.pointer (some ⟨q, 0, none⟩))); have HS2 := Lib.hid ((hs1.alloc _).kept ho2 (fun hh => hh)); clear ho2 hb2 hQ2 hzq)
    | (go_at_call 68; (with_reducible refine (hD.out _).mono ?_); rintro e w3 ⟨d, rfl, hzd, ho3, hD3⟩; have HO3 := Lib.hid ho3; have hb4 := hb3.out.kept ho3 (fun hh => hh); have zb4 := hb4.lt; have k4 := hb4.cell 4; have f4 := hb4.frozen 4; have k5 := hb4.cell 5; have f5 := hb4.frozen 5; have hs3 := (HS2.out.far (p := ⟨w1.heap.size, 3, none⟩) (by have := hs1.lt; show w.heap.size ≠ w1.heap.size; omega) (.pointer (some ⟨q, 0, none⟩))).kept ho3 (fun hh => hh); have s2 := hs3.cell 2; have zs := hs3.lt; clear ho3 hb4 hD3 hzd)
    )
  go_ret2
  have z1 := HO1.out.size
  exact ⟨w1.heap.size, rfl, ((((HO2.out.setNew z1 3 _).trans HO3.out).setNew z1 4 _).setNew z1 5 _)⟩
theorem RxNew_3 (kd a b c : Int) (w : World) (hk : kd = 1 ∨ kd = 2) (hr : rightB a b c = false) : Calls Tryd.prog 39 #[.int .i64 kd, stV a b c] w fun x w' => x = .returned (.tuple #[.pointer none, .int .i64 3]) ∧ Only Nil w w' := by
  have hC := Lib.hid (fun W => by have := Check_any a b c W; rw [hr, if_neg (by decide)] at this; exact this)
  have HO := Lib.hid ((Only.refl Nil w).alloc (.cells #[.int .i64 a, .int .i64 b, .int .i64 c] 23))
  clear hr
  rcases hk with rfl | rfl
  · go_enter Tryd.func39, Tryd.ntmps39
    go_wp2_with (first
      | (go_at_call 69; (with_reducible refine (hC.out _).mono ?_); rintro e w1 ⟨rfl, ho1⟩)
      )
    go_ret2
    exact ⟨rfl, HO.out.trans ho1⟩
  · go_enter Tryd.func39, Tryd.ntmps39
    go_wp2_with (first
      | (go_at_call 69; (with_reducible refine (hC.out _).mono ?_); rintro e w1 ⟨rfl, ho1⟩)
      )
    go_ret2
    exact ⟨rfl, HO.out.trans ho1⟩
end Go.Proofs.YtjhjfgelcbphjaaDoor
