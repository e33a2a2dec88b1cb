/- A sender of items: Offer, Take, Clear. -/
import Derived.Test.YtjhjfgelcbphjaaDoorTxQ
namespace Go.Proofs.YtjhjfgelcbphjaaDoor
open Go.RowKit

section
variable {w w' : World} {b q dm base : Nat} {v : Value} {cp st : Int} {L L' : List ByteArray} {wn A S D : Int} {en ou : Bool}
theorem offerItem_big (X : ByteArray) (p : Option Addr) (w : World) (hX : 256 < X.size) : Calls Tryd.prog 78 #[.pointer p, .string X] w fun x w' => x = .returned (.tuple #[.int .i64 0, .int .i64 4]) ∧ w = w' := by
  have hX' : (256 : Int) < X.size := by omega
  go_enter Tryd.func78, Tryd.ntmps78
  go_wp2
  go_ret2
  exact ⟨rfl, rfl⟩
theorem offerItem_0 (X : ByteArray) (w : World) (h : TIt w b q dm base v cp st L wn A S D en ou) (hX : X.size ≤ 256)
    (hP : Calls Tryd.prog 94 #[.pointer (some ⟨q, 0, none⟩), .string X] w (Qu.QPost 135 w q base cp st v (.int .i64 0) L' A S D)) :
    Calls Tryd.prog 78 #[.pointer (some ⟨b, 0, none⟩), .string X] w (TiPost w b q dm base v cp st (.tuple #[.int .i64 0, .int .i64 9]) L' wn A S D en ou) := by
  obtain ⟨c0, c1, c2, c3, c4, c5, c6, c7, c8, zb⟩ := h.facts
  have HP := Lib.hid hP
  have H := Lib.hid h
  have hX' : ¬ (256 : Int) < X.size := by omega
  have hb : Hid (¬ Qu.Fp q v b) := Lib.hid (fun hh => by
    rcases hh with hh | hh
    · exact H.out.bq hh
    · exact H.out.vb hh)
  have hd : Hid (¬ Qu.Fp q v dm) := Lib.hid (fun hh => by
    rcases hh with hh | hh
    · exact H.out.qd hh.symm
    · exact H.out.vd hh)
  clear h hP
  go_enter Tryd.func78, Tryd.ntmps78
  go_wp2_with (first
    | (go_at_call 94; (with_reducible refine (HP.out).mono ?_); rintro e w1 ⟨v1, rfl, hQ1, ho1, hg1⟩; have hB1 := H.out.blk.kept ho1 hb.out; have d0 := hB1.cell 0; have d2 := hB1.cell 2; have zd := hB1.lt; have f0 := hB1.frozen 0; have f2 := hB1.frozen 2; have HB1 := Lib.hid hB1; have HQ1 := Lib.hid hQ1; have HO1 := Lib.hid ho1; have HG1 := Lib.hid hg1; have HD1 := Lib.hid (show Dem.Dem w1 dm wn 2147483647 from Blk.kept H.out.dem ho1 hd.out); have HV1 := Lib.hid (hQ1.own.ne hB1 (by decide)); clear hB1 hQ1 ho1 hg1)
    )
  go_ret2
  exact ⟨v1, rfl, ⟨HB1.out, HQ1.out, HD1.out, H.out.hb, H.out.hd⟩, HO1.out.fitQ, HG1.out⟩
theorem offerItem_1 (X : ByteArray) (w : World) (h : TIt w b q dm base v cp st L wn A S D en ou) (hX : X.size ≤ 256) (a0 : 0 ≤ A) (a1 : A ≤ 1000000)
    (hP : Calls Tryd.prog 94 #[.pointer (some ⟨q, 0, none⟩), .string X] w (Qu.QPost 135 w q base cp st v (.int .i64 1) L' (A + 1) S D)) :
    Calls Tryd.prog 78 #[.pointer (some ⟨b, 0, none⟩), .string X] w (TiPost w b q dm base v cp st (.tuple #[.int .i64 1, .int .i64 0]) L' wn (A + 1) S D en ou) := by
  obtain ⟨c0, c1, c2, c3, c4, c5, c6, c7, c8, zb⟩ := h.facts
  have HP := Lib.hid hP
  have H := Lib.hid h
  have hX' : ¬ (256 : Int) < X.size := by omega
  have hb : Hid (¬ Qu.Fp q v b) := Lib.hid (fun hh => by
    rcases hh with hh | hh
    · exact H.out.bq hh
    · exact H.out.vb hh)
  have hd : Hid (¬ Qu.Fp q v dm) := Lib.hid (fun hh => by
    rcases hh with hh | hh
    · exact H.out.qd hh.symm
    · exact H.out.vd hh)
  clear h hP
  go_enter Tryd.func78, Tryd.ntmps78
  go_wp2_with (first
    | (go_at_call 94; (with_reducible refine (HP.out).mono ?_); rintro e w1 ⟨v1, rfl, hQ1, ho1, hg1⟩; have hB1 := H.out.blk.kept ho1 hb.out; have d0 := hB1.cell 0; have d2 := hB1.cell 2; have zd := hB1.lt; have f0 := hB1.frozen 0; have f2 := hB1.frozen 2; have HB1 := Lib.hid hB1; have HQ1 := Lib.hid hQ1; have HO1 := Lib.hid ho1; have HG1 := Lib.hid hg1; have HD1 := Lib.hid (show Dem.Dem w1 dm wn 2147483647 from Blk.kept H.out.dem ho1 hd.out); have HV1 := Lib.hid (hQ1.own.ne hB1 (by decide)); clear hB1 hQ1 ho1 hg1)
    )
  go_ret2
  exact ⟨v1, rfl, ⟨HB1.out.set 0 _, qset HQ1.out H.out.bq HV1.out 0 _, dset HD1.out H.out.bd 0 _, H.out.hb, H.out.hd⟩, HO1.out.fitQ.fitB 0 _, HG1.out⟩
theorem offerItem_2 (X : ByteArray) (w : World) (h : TIt w b q dm base v cp st L wn A S D en ou) (hX : X.size ≤ 256) (a0 : 0 ≤ A) (a1 : A ≤ 1000000) (d0 : 0 ≤ D) (d1 : D ≤ 1000000) (r : Int) (hr : r = 2 ∨ r = 3)
    (hP : Calls Tryd.prog 94 #[.pointer (some ⟨q, 0, none⟩), .string X] w (Qu.QPost 135 w q base cp st v (.int .i64 r) L' (A + 1) S (D + 1))) :
    Calls Tryd.prog 78 #[.pointer (some ⟨b, 0, none⟩), .string X] w (TiPost w b q dm base v cp st (.tuple #[.int .i64 r, .int .i64 0]) L' wn (A + 1) S (D + 1) en ou) := by
  rcases hr with rfl | rfl
  ·
    obtain ⟨c0, c1, c2, c3, c4, c5, c6, c7, c8, zb⟩ := h.facts
    have HP := Lib.hid hP
    have H := Lib.hid h
    have hX' : ¬ (256 : Int) < X.size := by omega
    have hb : Hid (¬ Qu.Fp q v b) := Lib.hid (fun hh => by
      rcases hh with hh | hh
      · exact H.out.bq hh
      · exact H.out.vb hh)
    have hd : Hid (¬ Qu.Fp q v dm) := Lib.hid (fun hh => by
      rcases hh with hh | hh
      · exact H.out.qd hh.symm
      · exact H.out.vd hh)
    clear h hP
    go_enter Tryd.func78, Tryd.ntmps78
    go_wp2_with (first
      | (go_at_call 94; (with_reducible refine (HP.out).mono ?_); rintro e w1 ⟨v1, rfl, hQ1, ho1, hg1⟩; have hB1 := H.out.blk.kept ho1 hb.out; have d0 := hB1.cell 0; have d2 := hB1.cell 2; have zd := hB1.lt; have f0 := hB1.frozen 0; have f2 := hB1.frozen 2; have HB1 := Lib.hid hB1; have HQ1 := Lib.hid hQ1; have HO1 := Lib.hid ho1; have HG1 := Lib.hid hg1; have HD1 := Lib.hid (show Dem.Dem w1 dm wn 2147483647 from Blk.kept H.out.dem ho1 hd.out); have HV1 := Lib.hid (hQ1.own.ne hB1 (by decide)); clear hB1 hQ1 ho1 hg1)
      )
    go_ret2
    exact ⟨v1, rfl, ⟨(HB1.out.set 2 _).set 0 _, qset (qset HQ1.out H.out.bq HV1.out 2 _) H.out.bq HV1.out 0 _, dset (dset HD1.out H.out.bd 2 _) H.out.bd 0 _, H.out.hb, H.out.hd⟩, (HO1.out.fitQ.fitB 2 _).fitB 0 _, HG1.out⟩
  ·
    obtain ⟨c0, c1, c2, c3, c4, c5, c6, c7, c8, zb⟩ := h.facts
    have HP := Lib.hid hP
    have H := Lib.hid h
    have hX' : ¬ (256 : Int) < X.size := by omega
    have hb : Hid (¬ Qu.Fp q v b) := Lib.hid (fun hh => by
      rcases hh with hh | hh
      · exact H.out.bq hh
      · exact H.out.vb hh)
    have hd : Hid (¬ Qu.Fp q v dm) := Lib.hid (fun hh => by
      rcases hh with hh | hh
      · exact H.out.qd hh.symm
      · exact H.out.vd hh)
    clear h hP
    go_enter Tryd.func78, Tryd.ntmps78
    go_wp2_with (first
      | (go_at_call 94; (with_reducible refine (HP.out).mono ?_); rintro e w1 ⟨v1, rfl, hQ1, ho1, hg1⟩; have hB1 := H.out.blk.kept ho1 hb.out; have d0 := hB1.cell 0; have d2 := hB1.cell 2; have zd := hB1.lt; have f0 := hB1.frozen 0; have f2 := hB1.frozen 2; have HB1 := Lib.hid hB1; have HQ1 := Lib.hid hQ1; have HO1 := Lib.hid ho1; have HG1 := Lib.hid hg1; have HD1 := Lib.hid (show Dem.Dem w1 dm wn 2147483647 from Blk.kept H.out.dem ho1 hd.out); have HV1 := Lib.hid (hQ1.own.ne hB1 (by decide)); clear hB1 hQ1 ho1 hg1)
      )
    go_ret2
    exact ⟨v1, rfl, ⟨(HB1.out.set 2 _).set 0 _, qset (qset HQ1.out H.out.bq HV1.out 2 _) H.out.bq HV1.out 0 _, dset (dset HD1.out H.out.bd 2 _) H.out.bd 0 _, H.out.hb, H.out.hd⟩, (HO1.out.fitQ.fitB 2 _).fitB 0 _, HG1.out⟩
theorem TOffer_w (X : ByteArray) (w : World) (h : TIt w b q dm base v cp st L wn A S D false ou) (r e : Int) (P : Ending → World → Prop) (hP : Calls Tryd.prog 78 #[.pointer (some ⟨b, 0, none⟩), .string X] w fun x w' => x = .returned (.tuple #[.int .i64 r, .int .i64 e]) ∧ P x w') :
    Calls Tryd.prog 54 #[.pointer (some ⟨b, 0, none⟩), .string X] w fun x w' => x = .returned (.tuple #[.int .i64 r, .int .i64 e]) ∧ P x w' := by
  obtain ⟨c0, c1, c2, c3, c4, c5, c6, c7, c8, zb⟩ := h.facts
  have HP := Lib.hid hP
  clear h hP
  go_enter Tryd.func54, Tryd.ntmps54
  go_wp2_with (first
    | (go_at_call 78; (with_reducible refine (HP.out).mono ?_); rintro e w1 ⟨rfl, hp1⟩)
    )
  go_ret2
  exact ⟨rfl, hp1⟩
/-! ### Take -/
def CiPost (w : World) (b q dm base : Nat) (v0 : Value) (cp st : Int) (X : ByteArray) (k : Int) (L : List ByteArray) (wn A S D S' : Int) (en ou : Bool) (x : Ending) (w' : World) : Prop :=
  ∃ v', x = .returned (.tuple #[.string X, .int .i64 k]) ∧ Blk w' b 111 #[.int .i64 A, .int .i64 S, .int .i64 D, .int .i64 2, .pointer none, .pointer (some ⟨q, 0, none⟩), .pointer (some ⟨dm, 0, none⟩), .bool en, .bool ou] ∧ Qu.Qs 135 w' q base cp st v' L A S' D ∧ Dem.Dem w' dm wn 2147483647 ∧ Only (FIt b q dm v0) w w' ∧ v'.ownBlock ≠ some b ∧ ∀ g, v'.ownBlock = some g → v0.ownBlock = some g ∨ w.heap.size ≤ g
theorem cutter1_0 (n : Int) (k : Nat) (w : World) (h : TIt w b q dm base v cp st [] wn A S D en ou) (hk : Blk w k 34 #[.pointer (some ⟨b, 0, none⟩)]) : Calls Tryd.prog 102 #[.int .i64 n, .pointer (some ⟨k, 0, none⟩)] w (CiPost w b q dm base v cp st noS 0 [] wn A S D S en ou) := by
  have e0 := hk.cell 0
  have ze := hk.lt
  obtain ⟨c0, c1, c2, c3, c4, c5, c6, c7, c8, zb⟩ := h.facts
  have hT := Lib.hid (Qu.Take_out w h.qu)
  have H := Lib.hid h
  clear h hk
  go_enter Tryd.func102, Tryd.ntmps102
  go_wp2_with (first
    | (go_at_call 75; (with_reducible refine (hT.out).mono ?_); rintro e w1 ⟨rfl, rfl⟩)
    )
  go_ret2
  exact ⟨v, rfl, H.out.blk, H.out.qu, H.out.dem, Only.refl _ _, H.out.vb, fun _ hg => .inl hg⟩
set_option maxHeartbeats 2000000 in
theorem cutter1_1 (n : Int) (k : Nat) (X : ByteArray) (w : World) (h : TIt w b q dm base v cp st (X :: L) wn A S D en ou) (hk : Blk w k 34 #[.pointer (some ⟨b, 0, none⟩)]) (hl : L.length ≤ 1000) (s0 : 0 ≤ S) (s1 : S ≤ 1000000) (w0 : 0 < wn) (w1 : wn ≤ 2147483647) : Calls Tryd.prog 102 #[.int .i64 n, .pointer (some ⟨k, 0, none⟩)] w (CiPost w b q dm base v cp st X 1 L (wn - 1) A S D (S + 1) en ou) := by
  have e0 := hk.cell 0
  have ze := hk.lt
  obtain ⟨c0, c1, c2, c3, c4, c5, c6, c7, c8, zb⟩ := h.facts
  have hT := Lib.hid (Qu.Take_in X L w h.qu hl s0 s1)
  have H := Lib.hid h
  have hb : Hid (¬ Qu.Fp q v b) := Lib.hid (fun hh => by
    rcases hh with hh | hh
    · exact H.out.bq hh
    · exact H.out.vb hh)
  have hd : Hid (¬ Qu.Fp q v dm) := Lib.hid (fun hh => by
    rcases hh with hh | hh
    · exact H.out.qd hh.symm
    · exact H.out.vd hh)
  have hbk : Hid (k ≠ q ∧ v.ownBlock ≠ some k) := Lib.hid ⟨fun hh => by
    subst hh
    exact absurd (hk.type H.out.qu.blk) (by decide), H.out.qu.own.ne hk (by decide)⟩
  have HK := Lib.hid hk
  have hU := Lib.hid (fun W (hd : Dem.Dem W dm wn 2147483647) => (show Calls Tryd.prog 103 #[.pointer (some ⟨dm, 0, none⟩), .int .i64 1] W (Dem.DemPost W dm 1 (wn - 1) 2147483647) from by
    have := Dem.Upto_any dm wn 2147483647 1 W hd ⟨by omega, w1, by decide⟩
    rwa [show Dem.uptoK wn 1 = 1 from by unfold Dem.uptoK; omega] at this))
  clear h hk
  go_enter Tryd.func102, Tryd.ntmps102
  go_wp2_with (first
    | (go_at_call 75; (with_reducible refine (hT.out).mono ?_); rintro e w1 ⟨v1, rfl, hQ1, ho1, hg1⟩; have hk1 := HK.out.kept ho1 (fun hh => by rcases hh with hh | hh; exact hbk.out.1 hh; exact hbk.out.2 hh); have hB1 := H.out.blk.kept ho1 hb.out; have e1 := hk1.cell 0; have ze1 := hk1.lt; have d6 := hB1.cell 6; have zd := hB1.lt; have HB1 := Lib.hid hB1; have HQ1 := Lib.hid hQ1; have HO1 := Lib.hid ho1; have HG1 := Lib.hid hg1; have HD1 := Lib.hid (show Dem.Dem w1 dm wn 2147483647 from Blk.kept H.out.dem ho1 hd.out); clear hk1 hB1 hQ1 ho1 hg1)
    | (go_at_call 103; (with_reducible refine (hU.out _ HD1.out).mono ?_); rintro e w2 ⟨rfl, ho2, hD2⟩; have HO2 := Lib.hid ho2; have HD2 := Lib.hid hD2; clear ho2 hD2)
    )
  go_ret2
  have hB2 := HB1.out.kept HO2.out (fun hh => H.out.bd hh)
  have hQ2 : Qu.Qs 135 w2 q base cp st v1 L A (S + 1) D := ⟨HQ1.out.blk.kept HO2.out (fun hh => H.out.qd hh), HQ1.out.own.kept HO2.out (fun g hg hh => (HQ1.out.own.ne HD1.out (by decide)) (by rw [hg, hh])), HQ1.out.hb⟩
  exact ⟨v1, rfl, hB2, hQ2, HD2.out, HO1.out.fitQ.trans_new HO2.out (fun i hi hh => .inr (.inl hh)), hQ2.own.ne hB2 (by decide), HG1.out⟩
set_option maxRecDepth 100000 in
set_option maxHeartbeats 4000000 in
theorem TTake_i1 (n : Int) (X : ByteArray) (w : World) (h : TIt w b q dm base v cp st (X :: L) wn A S D en ou) (hc : cOk (X :: L).length A S D) (hl : L.length ≤ 1000) (w0 : 0 < wn) (w1 : wn ≤ 2147483647) :
    Calls Tryd.prog 63 #[.pointer (some ⟨b, 0, none⟩), .int .i64 n] w (TiPost w b q dm base v cp st (.tuple #[.string X, .bool false, .bool true]) L (wn - 1) A (S + 1) D en false) := by
  have hRd := Lib.hid (TReady_i n w h hc true (by simp [rdyF, w0]))
  obtain ⟨i1, i2, i3, i4, i5⟩ := hc
  rw [List.length_cons] at i1
  have hCt := Lib.hid (fun W k (ho : Only Nil w W) (hk : Blk W k 34 #[.pointer (some ⟨b, 0, none⟩)]) => cutter1_1 n k X W (h.kept ho) hk hl i3 (by omega) w0 w1)
  unfold CiPost at hCt
  obtain ⟨m, hm⟩ : ∃ m : Int, m = L.length := ⟨_, rfl⟩
  have hWa := Lib.hid (fun W => Waiting_in A (S + 1) D m W (by omega) (by omega) (by omega) (by omega) (by omega) i4 (by omega))
  have hS1 : S + 1 ≤ 1000000000000 := by omega
  have hS0 : 0 ≤ S + 1 := by omega
  have H := Lib.hid (show b ≠ q ∧ b ≠ dm ∧ base ≤ b ∧ base ≤ dm from ⟨h.bq, h.bd, h.hb, h.hd⟩)
  clear i1 i2 h hl hm
  cases en
  · clear hWa
    go_enter Tryd.func63, Tryd.ntmps63
    go_wp2_with (first
      | (go_at_call 85; (with_reducible refine (hRd.out).mono ?_); rintro e w1 ⟨rfl, ho1⟩; have HO1 := Lib.hid ho1; clear ho1)
      | (go_at_call 86; (with_reducible refine (cutter_any _).mono ?_); rintro e w2 ⟨k, rfl, ho2, hk⟩; have HO2 := Lib.hid (HO1.out.trans ho2); have HK := Lib.hid hk; clear ho2 hk)
      | (go_at_call 102; (with_reducible refine (hCt.out _ k HO2.out HK.out).mono ?_); rintro e w3 ⟨v3, rfl, hB3, hQ3, hD3, hO3, hv3, hg3⟩; have HO3 := Lib.hid hO3; have HQ3 := Lib.hid hQ3; have HD3 := Lib.hid hD3; have HV3 := Lib.hid hv3; have HG3 := Lib.hid hg3; have d0 := hB3.cell 0; have d1 := hB3.cell 1; have d2 := hB3.cell 2; have d3 := hB3.cell 3; have d7 := hB3.cell 7; have d8 := hB3.cell 8; have zd := hB3.lt; have f1 := hB3.frozen 1; have f8 := hB3.frozen 8; have HB3 := Lib.hid (hB3.set 1 (.int .i64 (S + 1))); clear hO3 hQ3 hD3 hv3 hg3 hB3)
      | (go_at_call 33; (with_reducible refine (hWa.out _).mono ?_); rintro e w4 ⟨rfl, ho4⟩; have hB4 := HB3.out.kept ho4 (fun hh => hh); have g3 := hB4.cell 3; have g7 := hB4.cell 7; have g8 := hB4.cell 8; have zg := hB4.lt; have k8 := hB4.frozen 8; have HB4 := Lib.hid hB4; have HO4 := Lib.hid ho4; clear ho4 hB4)
      )
    go_region
    go_wp2
    go_ret3
    have hB4 := (HB3.out.set 8 (.bool false)).drew
    exact ⟨v3, rfl, ⟨hB4, (qset (qset HQ3.out H.out.1 HV3.out 1 _) H.out.1 HV3.out 8 _).kept ((Only.refl Nil _).drew), (dset (dset HD3.out H.out.2.1 1 _) H.out.2.1 8 _).drew, H.out.2.2.1, H.out.2.2.2⟩, ((((HO2.out.of_nil _).trans_new HO3.out (fun i hi hh => hh)).fitB 1 _).fitB 8 _).drew, fun g hg => (HG3.out g hg).imp id (fun e => Nat.le_trans HO2.out.size e)⟩
  · by_cases hm0 : m = 0
    · subst hm0
      go_enter Tryd.func63, Tryd.ntmps63
      go_wp2_with (first
        | (go_at_call 85; (with_reducible refine (hRd.out).mono ?_); rintro e w1 ⟨rfl, ho1⟩; have HO1 := Lib.hid ho1; clear ho1)
        | (go_at_call 86; (with_reducible refine (cutter_any _).mono ?_); rintro e w2 ⟨k, rfl, ho2, hk⟩; have HO2 := Lib.hid (HO1.out.trans ho2); have HK := Lib.hid hk; clear ho2 hk)
        | (go_at_call 102; (with_reducible refine (hCt.out _ k HO2.out HK.out).mono ?_); rintro e w3 ⟨v3, rfl, hB3, hQ3, hD3, hO3, hv3, hg3⟩; have HO3 := Lib.hid hO3; have HQ3 := Lib.hid hQ3; have HD3 := Lib.hid hD3; have HV3 := Lib.hid hv3; have HG3 := Lib.hid hg3; have d0 := hB3.cell 0; have d1 := hB3.cell 1; have d2 := hB3.cell 2; have d3 := hB3.cell 3; have d7 := hB3.cell 7; have d8 := hB3.cell 8; have zd := hB3.lt; have f1 := hB3.frozen 1; have f8 := hB3.frozen 8; have HB3 := Lib.hid (hB3.set 1 (.int .i64 (S + 1))); clear hO3 hQ3 hD3 hv3 hg3 hB3)
        | (go_at_call 33; (with_reducible refine (hWa.out _).mono ?_); rintro e w4 ⟨rfl, ho4⟩; have hB4 := HB3.out.kept ho4 (fun hh => hh); have g3 := hB4.cell 3; have g7 := hB4.cell 7; have g8 := hB4.cell 8; have zg := hB4.lt; have k8 := hB4.frozen 8; have HB4 := Lib.hid hB4; have HO4 := Lib.hid ho4; clear ho4 hB4)
        )
      go_region
      go_wp2
      go_ret3
      have hB5 := (HB4.out.set 8 (.bool false)).drew
      exact ⟨v3, rfl, ⟨hB5, (qset ((qset HQ3.out H.out.1 HV3.out 1 _).kept HO4.out) H.out.1 HV3.out 8 _).kept ((Only.refl Nil _).drew), (dset (Blk.kept (dset HD3.out H.out.2.1 1 _) HO4.out (fun hh => hh)) H.out.2.1 8 _).drew, H.out.2.2.1, H.out.2.2.2⟩, ((((((HO2.out.of_nil _).trans_new HO3.out (fun i hi hh => hh)).fitB 1 _).trans (HO4.out.of_nil _)).fitB 8 _)).drew, fun g hg => (HG3.out g hg).imp id (fun e => Nat.le_trans HO2.out.size e)⟩
    ·
      go_enter Tryd.func63, Tryd.ntmps63
      go_wp2_with (first
        | (go_at_call 85; (with_reducible refine (hRd.out).mono ?_); rintro e w1 ⟨rfl, ho1⟩; have HO1 := Lib.hid ho1; clear ho1)
        | (go_at_call 86; (with_reducible refine (cutter_any _).mono ?_); rintro e w2 ⟨k, rfl, ho2, hk⟩; have HO2 := Lib.hid (HO1.out.trans ho2); have HK := Lib.hid hk; clear ho2 hk)
        | (go_at_call 102; (with_reducible refine (hCt.out _ k HO2.out HK.out).mono ?_); rintro e w3 ⟨v3, rfl, hB3, hQ3, hD3, hO3, hv3, hg3⟩; have HO3 := Lib.hid hO3; have HQ3 := Lib.hid hQ3; have HD3 := Lib.hid hD3; have HV3 := Lib.hid hv3; have HG3 := Lib.hid hg3; have d0 := hB3.cell 0; have d1 := hB3.cell 1; have d2 := hB3.cell 2; have d3 := hB3.cell 3; have d7 := hB3.cell 7; have d8 := hB3.cell 8; have zd := hB3.lt; have f1 := hB3.frozen 1; have f8 := hB3.frozen 8; have HB3 := Lib.hid (hB3.set 1 (.int .i64 (S + 1))); clear hO3 hQ3 hD3 hv3 hg3 hB3)
        | (go_at_call 33; (with_reducible refine (hWa.out _).mono ?_); rintro e w4 ⟨rfl, ho4⟩; have hB4 := HB3.out.kept ho4 (fun hh => hh); have g3 := hB4.cell 3; have g7 := hB4.cell 7; have g8 := hB4.cell 8; have zg := hB4.lt; have k8 := hB4.frozen 8; have HB4 := Lib.hid hB4; have HO4 := Lib.hid ho4; clear ho4 hB4)
        )
      go_region
      go_wp2
      go_ret3
      have hB5 := (HB4.out.set 8 (.bool false)).drew
      exact ⟨v3, rfl, ⟨hB5, (qset ((qset HQ3.out H.out.1 HV3.out 1 _).kept HO4.out) H.out.1 HV3.out 8 _).kept ((Only.refl Nil _).drew), (dset (Blk.kept (dset HD3.out H.out.2.1 1 _) HO4.out (fun hh => hh)) H.out.2.1 8 _).drew, H.out.2.2.1, H.out.2.2.2⟩, ((((((HO2.out.of_nil _).trans_new HO3.out (fun i hi hh => hh)).fitB 1 _).trans (HO4.out.of_nil _)).fitB 8 _)).drew, fun g hg => (HG3.out g hg).imp id (fun e => Nat.le_trans HO2.out.size e)⟩
set_option maxRecDepth 100000 in
set_option maxHeartbeats 4000000 in
theorem TTake_i0 (n : Int) (w : World) (h : TIt w b q dm base v cp st [] wn A S D true false) (hc : cOk 0 A S D) :
    Calls Tryd.prog 63 #[.pointer (some ⟨b, 0, none⟩), .int .i64 n] w (TiPost w b q dm base v cp st (.tuple #[.string noS, .bool true, .bool true]) [] wn A S D true true) := by
  have hRd := Lib.hid (TReady_i n w h hc true rfl)
  obtain ⟨i1, i2, i3, i4, i5⟩ := hc
  have hCt := Lib.hid (fun W k (ho : Only Nil w W) (hk : Blk W k 34 #[.pointer (some ⟨b, 0, none⟩)]) => cutter1_0 n k W (h.kept ho) hk)
  unfold CiPost at hCt
  have hWa := Lib.hid (fun W => Waiting_in A S D 0 W (by omega) (by omega) (by omega) (by omega) (by omega) i4 (by omega))
  have hS1 : S ≤ 1000000000000 := by omega
  have H := Lib.hid (show b ≠ q ∧ b ≠ dm ∧ base ≤ b ∧ base ≤ dm from ⟨h.bq, h.bd, h.hb, h.hd⟩)
  clear i1 i2 h
  go_enter Tryd.func63, Tryd.ntmps63
  go_wp2_with (first
    | (go_at_call 85; (with_reducible refine (hRd.out).mono ?_); rintro e w1 ⟨rfl, ho1⟩; have HO1 := Lib.hid ho1; clear ho1)
    | (go_at_call 86; (with_reducible refine (cutter_any _).mono ?_); rintro e w2 ⟨k, rfl, ho2, hk⟩; have HO2 := Lib.hid (HO1.out.trans ho2); have HK := Lib.hid hk; clear ho2 hk)
    | (go_at_call 102; (with_reducible refine (hCt.out _ k HO2.out HK.out).mono ?_); rintro e w3 ⟨v3, rfl, hB3, hQ3, hD3, hO3, hv3, hg3⟩; have HO3 := Lib.hid hO3; have HQ3 := Lib.hid hQ3; have HD3 := Lib.hid hD3; have HV3 := Lib.hid hv3; have HG3 := Lib.hid hg3; have d0 := hB3.cell 0; have d1 := hB3.cell 1; have d2 := hB3.cell 2; have d3 := hB3.cell 3; have d7 := hB3.cell 7; have d8 := hB3.cell 8; have zd := hB3.lt; have f1 := hB3.frozen 1; have f8 := hB3.frozen 8; have HB3 := Lib.hid (hB3.set 1 (.int .i64 (S))); clear hO3 hQ3 hD3 hv3 hg3 hB3)
    | (go_at_call 33; (with_reducible refine (hWa.out _).mono ?_); rintro e w4 ⟨rfl, ho4⟩; have hB4 := HB3.out.kept ho4 (fun hh => hh); have g3 := hB4.cell 3; have g7 := hB4.cell 7; have g8 := hB4.cell 8; have zg := hB4.lt; have k8 := hB4.frozen 8; have HB4 := Lib.hid hB4; have HO4 := Lib.hid ho4; clear ho4 hB4)
    )
  go_region
  go_wp2
  go_ret3
  have hB5 := (HB4.out.set 8 (.bool true)).drew
  exact ⟨v3, rfl, ⟨hB5, (qset ((qset HQ3.out H.out.1 HV3.out 1 _).kept HO4.out) H.out.1 HV3.out 8 _).kept ((Only.refl Nil _).drew), (dset (Blk.kept (dset HD3.out H.out.2.1 1 _) HO4.out (fun hh => hh)) H.out.2.1 8 _).drew, H.out.2.2.1, H.out.2.2.2⟩, ((((((HO2.out.of_nil _).trans_new HO3.out (fun i hi hh => hh)).fitB 1 _).trans (HO4.out.of_nil _)).fitB 8 _)).drew, fun g hg => (HG3.out g hg).imp id (fun e => Nat.le_trans HO2.out.size e)⟩
set_option maxHeartbeats 2000000 in
theorem TClear_i (w : World) (h : TIt w b q dm base v cp st L wn A S D en ou) (hc : cOk L.length A S D) (hl : L.length ≤ 1000) : Calls Tryd.prog 60 #[.pointer (some ⟨b, 0, none⟩)] w (TiPost w b q dm base v cp st (.int .i64 L.length) [] wn A S (D + L.length) en ou) := by
  obtain ⟨i1, i2, i3, i4, i5⟩ := hc
  obtain ⟨c0, c1, c2, c3, c4, c5, c6, c7, c8, zb⟩ := h.facts
  have hR : Hid (Calls Tryd.prog 84 #[.pointer (some ⟨q, 0, none⟩)] w.drew (Qu.QPost 135 w.drew q base cp st v (.int .i64 L.length) [] A S (D + L.length))) := Lib.hid (by
    have hq := h.qu.kept ((Only.refl Nil w).drew)
    by_cases h0 : L.length = 0
    · obtain rfl : L = [] := List.eq_nil_of_length_eq_zero h0
      refine (Qu.Clear_out w.drew hq).mono ?_
      rintro x w' ⟨rfl, rfl⟩
      exact ⟨v, rfl, by simpa using hq, Only.refl _ _, fun _ hg => .inl hg⟩
    · exact Qu.Clear_in w.drew hq (by omega) hl i4 (by omega))
  have H := Lib.hid (h.kept ((Only.refl Nil w).drew))
  have hb : Hid (¬ Qu.Fp q v b) := Lib.hid (fun hh => by
    rcases hh with hh | hh
    · exact H.out.bq hh
    · exact H.out.vb hh)
  have hd : Hid (¬ Qu.Fp q v dm) := Lib.hid (fun hh => by
    rcases hh with hh | hh
    · exact H.out.qd hh.symm
    · exact H.out.vd hh)
  have s0 : w.drew.cell? ⟨b, 4, none⟩ = some (.pointer none) ∧ w.drew.cell? ⟨b, 5, none⟩ = some (.pointer (some ⟨q, 0, none⟩)) := ⟨c4, c5⟩
  generalize L.length = m at *
  have hm : m ≤ 1000000 := by omega
  have hD : D ≤ 1000000 := by omega
  have hw : IntKind.i64.wrap (m : Int) = m := IntWalk.i64_in _ (by omega)
  have hw2 : IntKind.i64.wrap (0 + (m : Int)) = m := by rw [IntWalk.i64_in _ (by omega)]; omega
  clear h i1 hl
  go_enter Tryd.func60, Tryd.ntmps60
  go_wp2
  go_region_held3 (fun W => W.cell? ⟨b, 4, none⟩ = some (.pointer none) ∧ W.cell? ⟨b, 5, none⟩ = some (.pointer (some ⟨q, 0, none⟩))) (with_reducible (first | exact s0 | exact s1)) (first
    | (go_at_call 84; (with_reducible refine (hR.out).mono ?_); rintro e w1 ⟨v1, rfl, hQ1, ho1, hg1⟩; have hB1 := H.out.blk.kept ho1 hb.out; have s1 : w1.cell? ⟨b, 4, none⟩ = some (.pointer none) ∧ w1.cell? ⟨b, 5, none⟩ = some (.pointer (some ⟨q, 0, none⟩)) := ⟨hB1.cell 4, hB1.cell 5⟩)
    | (go_at_call 83; (with_reducible refine (Clear_nil _).mono ?_); rintro e w2 ⟨rfl, rfl⟩)
    )
  have d2 := hB1.cell 2
  have zd := hB1.lt
  have f2 := hB1.frozen 2
  have HB1 := Lib.hid hB1
  have HV1 := Lib.hid (hQ1.own.ne hB1 (by decide))
  have HD1 := Lib.hid (show Dem.Dem w1 dm wn 2147483647 from Blk.kept H.out.dem ho1 hd.out)
  clear hB1
  go_wp2
  go_ret
  exact ⟨v1, rfl, ⟨HB1.out.set 2 _, qset hQ1 H.out.bq HV1.out 2 _, dset HD1.out H.out.bd 2 _, H.out.hb, H.out.hd⟩, ((Only.refl _ w).drew.trans ho1.fitQ).fitB 2 _, hg1⟩
end
end Go.Proofs.YtjhjfgelcbphjaaDoor
