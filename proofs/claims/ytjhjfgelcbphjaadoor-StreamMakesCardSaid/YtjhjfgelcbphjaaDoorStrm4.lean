/- Take of a stream, the last frame; what must come at any rate, of streams. -/
import Derived.Test.YtjhjfgelcbphjaaDoorStrm3
namespace Go.Proofs.YtjhjfgelcbphjaaDoor
open Go.RowKit

theorem set12 (w : World) (g : Nat) (f : Frm) (p : Value) : w.setCells g 0 (frC f p).toList = (((((((((((w.setCell ⟨g, 0, none⟩ (.int .i64 f.t)).setCell ⟨g, 1, none⟩ (.int .i64 f.s)).setCell ⟨g, 2, none⟩ (.bool f.en)).setCell ⟨g, 3, none⟩ (.string f.d)).setCell ⟨g, 4, none⟩ (.int .i64 f.k)).setCell ⟨g, 5, none⟩ (.int .i64 f.on)).setCell ⟨g, 6, none⟩ (.int .i64 f.wt)).setCell ⟨g, 7, none⟩ (.bool f.ex)).setCell ⟨g, 8, none⟩ (.int .i64 f.c)).setCell ⟨g, 9, none⟩ (.int .i64 f.l)).setCell ⟨g, 10, none⟩ (.int .i64 f.n)).setCell ⟨g, 11, none⟩ p := rfl
theorem put12 (f g : Frm) (p q : Value) : putL (frC f p) 0 (frC g q).toList = frC g q := by kernel_rfl
section
variable {w w' : World} {s l t r base : Nat} {F F' : Nat → Prop} {id kd z cp st : Int} {own : Bool} {B : List UInt8} {L : List ByteArray} {wn A S D : Int} {en ou : Bool}
theorem SGone_s (h : Sm w s l t r base F id kd own 2 cp st B L wn en ou A S D) : Calls Tryd.prog 34 #[.pointer (some ⟨s, 0, none⟩)] w fun x w' => x = .returned (.bool false) ∧ w = w' := by
  obtain ⟨c0, c1, c2, c3, c4, zb⟩ := h.facts
  have hD := Lib.hid (show Calls Tryd.prog 62 #[.pointer (some ⟨l, 0, none⟩)] w fun x w' => x = .returned (.bool false) ∧ w = w' from Done_of _ 2 w (State_any l 2 w h.life))
  clear h
  go_enter Tryd.func34, Tryd.ntmps34
  go_wp2_with (first
    | (go_at_call 62; (with_reducible refine (hD.out).mono ?_); rintro e w1 ⟨rfl, rfl⟩)
    )
  go_ret
  exact ⟨rfl, rfl⟩
set_option maxRecDepth 100000 in
set_option maxHeartbeats 4000000 in
theorem STake_o {n : Int} {X : ByteArray} {B' : List UInt8} {L' : List ByteArray} {wn' S' : Int} {ou' : Bool} (h : Sm w s l t r base F id kd own 1 cp st B L wn en ou A S D) (hF : Fol w) (hg : 0 < base) (hr : TkR kd n B L wn en ou S X true true B' L' wn' ou' S') (hc : cOk (nOf B L : Nat) A S D) (hl : kd = 2 → L.length ≤ 1000) (w1 : wn ≤ 2147483647) :
    Calls Tryd.prog 35 #[.pointer (some ⟨s, 0, none⟩), .int .i64 n] w fun x w' => ∃ F', x = .returned (.tuple #[frmV (dfr kd id X true) (.slice none 0 0), .bool true]) ∧ Sm w' s l t r base F' id kd own 2 cp st B' L' wn' en ou' A S' D ∧ Below base w w' := by
  have hn := Lib.hid ((Only.refl Nil w).alloc (.cells (frC zfr (.slice none 0 0)) 62))
  have hB0 := Lib.hid (Blk.new w 62 (frC zfr (.slice none 0 0)))
  have H := Lib.hid (h.kept hn.out)
  have hF0 := Lib.hid (hF.kept hn.out (fun hh => hh))
  have hS := Lib.hid (sends_s H.out hF0.out 0 (by decide))
  have hT := Lib.hid (fun W (ho : Only Nil (w.alloc (.cells (frC zfr (.slice none 0 0)) 62)) W) => PT.Take (H.out.tx.kept ho) hr hc hl w1)
  have HK := Lib.hid (fun W (ho : Only Nil (w.alloc (.cells (frC zfr (.slice none 0 0)) 62)) W) => (H.out.kept ho).facts)
  have hE := Lib.hid (fun W (hf : Fol W) (hL : Lf W l 1) => Event_at l 1 2 0 2 W hf hL (by decide) (by decide))
  have hbs := Lib.hid (show base ≤ w.heap.size ∧ base ≤ l ∧ ¬ F w.heap.size ∧ s < w.heap.size ∧ l < w.heap.size from ⟨h.tx.sz, h.hl, fun hh => by have := (h.tx.fp _ hh).2; omega, h.blk.lt, Blk.lt h.life⟩)
  clear h hF hr hc hl w1
  go_enter Tryd.func35, Tryd.ntmps35
  go_wp2_with (first
    | (go_at_call 53; (with_reducible refine (hS.out).mono ?_); rintro e w1 ⟨rfl, ho1⟩; obtain ⟨d0, d1, d2, d3, d4, zd⟩ := HK.out _ ho1; have HO1 := Lib.hid ho1; clear ho1)
    | (go_at_call 63; (with_reducible refine (hT.out _ HO1.out).mono ?_); rintro e w2 ⟨F2, rfl, hp2, ho2, hg2⟩; have HS2 := Lib.hid ((H.out.kept HO1.out).txDone hp2 ho2 hg2); have HB2 := Lib.hid ((HO1.out.below H.out.tx.sz (fun _ _ hh => hh)).trans ((H.out.tx.kept HO1.out).below ho2)); obtain ⟨g0, g1, g2, g3, g4, zg⟩ := HS2.out.facts; have hF2 := Lib.hid (hF0.out.kept (Only.ofB HB2.out) (fun hh => by omega)); have hR2 := Lib.hid ((hB0.out.kept HO1.out (fun hh => hh)).kept ho2 hbs.out.2.2.1); clear hp2 ho2 hg2)
    | (go_at_call 41; (with_reducible refine (hE.out _ hF2.out HS2.out.life).mono ?_); rintro e w3 ⟨rfl, ho3, hl3⟩; have HS3 := Lib.hid (HS2.out.lifeDone hl3 ho3); have HB3 := Lib.hid (HB2.out.trans (ho3.below HS2.out.tx.sz (fun i hi e => by unfold One at e; have := hbs.out.2.1; omega))); have hR3 := Lib.hid (hR2.out.kept ho3 (fun e => by unfold One at e; have := hbs.out.2.2.2.2; omega)); clear ho3 hl3)
    | (go_at_call 64; (with_reducible refine (frames_s _).mono ?_); rintro e w4 ⟨k, rfl, ho4, hk4⟩; have HO4 := Lib.hid ho4; have HK4 := Lib.hid hk4; clear ho4 hk4)
    | (go_at_call 87; (with_reducible refine (frames1_s X true k (HS3.out.kept HO4.out) HK4.out).mono ?_); rintro e w5 ⟨rfl, ho5⟩; have HO5 := Lib.hid (HO4.out.trans ho5); have hR5 := (hR3.out.kept HO4.out (fun hh => hh)).kept ho5 (fun hh => hh); have zR := hR5.lt; have u0 := hR5.frozen 0; have u1 := hR5.frozen 1; have u2 := hR5.frozen 2; have u3 := hR5.frozen 3; have u4 := hR5.frozen 4; have u5 := hR5.frozen 5; have u6 := hR5.frozen 6; have u7 := hR5.frozen 7; have u8 := hR5.frozen 8; have u9 := hR5.frozen 9; have u10 := hR5.frozen 10; have u11 := hR5.frozen 11; have q0 := hR5.cell 0; have q1 := hR5.cell 1; have q2 := hR5.cell 2; have q3 := hR5.cell 3; have q4 := hR5.cell 4; have q5 := hR5.cell 5; have q6 := hR5.cell 6; have q7 := hR5.cell 7; have q8 := hR5.cell 8; have q9 := hR5.cell 9; have q10 := hR5.cell 10; have q11 := hR5.cell 11; have HR5 := Lib.hid hR5; clear ho5 hR5)
    )
  obtain ⟨W, hW⟩ : ∃ W, W = w5.setCells w.heap.size 0 (frC (dfr kd id X true) (.slice none 0 0)).toList := ⟨_, rfl⟩
  have hch : W = ((((((((((((w5.setCell ⟨w.heap.size, 0, none⟩ (.int .i64 (dtF kd))).setCell ⟨w.heap.size, 1, none⟩ (.int .i64 id)).setCell ⟨w.heap.size, 2, none⟩ (.bool true)).setCell ⟨w.heap.size, 3, none⟩ (.string X)).setCell ⟨w.heap.size, 4, none⟩ (.int .i64 0)).setCell ⟨w.heap.size, 5, none⟩ (.int .i64 0)).setCell ⟨w.heap.size, 6, none⟩ (.int .i64 0)).setCell ⟨w.heap.size, 7, none⟩ (.bool false)).setCell ⟨w.heap.size, 8, none⟩ (.int .i64 0)).setCell ⟨w.heap.size, 9, none⟩ (.int .i64 0)).setCell ⟨w.heap.size, 10, none⟩ (.int .i64 0)).setCell ⟨w.heap.size, 11, none⟩ (.slice none 0 0)) := hW.trans (set12 w5 w.heap.size (dfr kd id X true) (.slice none 0 0))
  rw [← hch]
  have hBk : Blk W w.heap.size 62 (frC (dfr kd id X true) (.slice none 0 0)) := by
    have h := Blk.setCells (frC (dfr kd id X true) (.slice none 0 0)).toList w5 (frC zfr (.slice none 0 0)) 0 HR5.out
    rw [← hW, put12] at h
    exact h
  have hOk : Only (One w.heap.size) w5 W := by
    have h := Only.setCells (S := One w.heap.size) (w0 := w5) (g := w.heap.size) (frC (dfr kd id X true) (.slice none 0 0)).toList w5 0 (Only.refl _ _) (fun _ => rfl)
    rw [← hW] at h
    exact h
  clear hch hW
  have k0 := hBk.cell 0
  have k1 := hBk.cell 1
  have k2 := hBk.cell 2
  have k3 := hBk.cell 3
  have k4 := hBk.cell 4
  have k5 := hBk.cell 5
  have k6 := hBk.cell 6
  have k7 := hBk.cell 7
  have k8 := hBk.cell 8
  have k9 := hBk.cell 9
  have k10 := hBk.cell 10
  have k11 := hBk.cell 11
  have h5 := (HS3.out.kept HO5.out)
  have hs6 : Sm W s l t r base F2 id kd own 2 cp st B' L' wn' en ou' A S' D := ⟨h5.blk.kept hOk (fun e => by unfold One at e; have := hbs.out.2.2.2.1; omega), Blk.kept h5.life hOk (fun e => by unfold One at e; have := hbs.out.2.2.2.2; omega), h5.tx.off hOk (fun k hk e => by
    unfold One at e
    subst e
    exact h5.tx.ne HR5.out (by decide) (by decide) (by decide) (by decide) (by decide) (by decide) hk), h5.hs, h5.hl, h5.fl, h5.fs, h5.ls⟩
  have hb6 : Below base w W := (((hn.out.below hbs.out.1 (fun _ _ hh => hh)).trans HB3.out).trans (HO5.out.below (by have := h5.tx.sz; have := HS3.out.tx.sz; omega) (fun _ _ hh => hh))).trans (hOk.below (by have := h5.tx.sz; omega) (fun i hi e => by unfold One at e; have := hbs.out.1; omega))
  exact bodyPost_ret (v := .tuple #[frmV (dfr kd id X true) (.slice none 0 0), .bool true]) (by simp [results, Tryd.results35, go_sem, k0, k1, k2, k3, k4, k5, k6, k7, k8, k9, k10, k11]) rfl ⟨F2, rfl, hs6, hb6⟩
theorem conf_any (w : World) : Calls Tryd.prog 42 #[] w fun x w' => x = .returned (.agg (cfC 10 8 4 20 5 0 0 0 0)) ∧ Only Nil w w' := by
  go_enter Tryd.func42, Tryd.ntmps42
  go_wp2
  exact bodyPost_ret (v := .agg (cfC 10 8 4 20 5 0 0 0 0)) (by simp [results, Tryd.results42, go_sem]) rfl ⟨rfl, (Only.refl _ _).alloc _⟩
end
end Go.Proofs.YtjhjfgelcbphjaaDoor
