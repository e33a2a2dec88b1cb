/- Which streams there are: those of a number, a kind, and a Conf that may be; of others what is wrong is told (the statement StreamMakes, as its card is given). No condition. -/
import Derived.Test.YtjhjfgelcbphjaaDoorCards
import Derived.Test.YtjhjfgelcbphjaaDoorTie
import Derived.Test.YtjhjfgelcbphjaaDoorAwake24
import Derived.Deep.DeepHandedRow
namespace Go.Proofs.YtjhjfgelcbphjaaDoor
open Go.RowKit

abbrev foC (id kd : Int) (own : Bool) (a b c sb si sr ev wa sl : Int) : Array Value := #[.int .i64 id, .int .i64 kd, .bool own, .int .i64 a, .int .i64 b, .int .i64 c, .int .i64 sb, .int .i64 si, .int .i64 sr, .int .i64 ev, .int .i64 wa, .int .i64 sl]
theorem Kd.four {w : World} {v : Value} (h : Kd.Fit w (.agg [.int .i64, .int .i64, .bool, .agg [.agg [.int .i64, .int .i64, .int .i64], .int .i64, .int .i64, .int .i64, .int .i64, .int .i64, .int .i64]]) v) : ∃ (id kd : Int) (own : Bool) (a b c sb si sr ev wa sl : Int), v = .agg (foC id kd own a b c sb si sr ev wa sl) := by
  obtain ⟨cs, rfl, hc⟩ := h
  obtain ⟨v0, c0, rfl, i0, hc⟩ := Kd.headL rfl hc
  obtain ⟨v1, c1, rfl, i1, hc⟩ := Kd.headL rfl hc
  obtain ⟨v2, c2, rfl, i2, hc⟩ := Kd.headL rfl hc
  unfold Kd.IsL at hc
  obtain ⟨d, r, rfl, hdl, hd, hc⟩ := hc
  obtain rfl := Kd.end_ hc
  unfold Kd.Is Kd.IsL at hd
  obtain ⟨g, r2, rfl, hgl, hg, hd⟩ := hd
  obtain ⟨y0, e0, rfl, k0, hg⟩ := Kd.headL rfl (by unfold Kd.Is at hg; exact hg)
  obtain ⟨y1, e1, rfl, k1, hg⟩ := Kd.headL rfl hg
  obtain ⟨y2, e2, rfl, k2, hg⟩ := Kd.headL rfl hg
  obtain rfl := Kd.end_ hg
  obtain ⟨z0, f0, rfl, l0, hd⟩ := Kd.headL rfl hd
  obtain ⟨z1, f1, rfl, l1, hd⟩ := Kd.headL rfl hd
  obtain ⟨z2, f2, rfl, l2, hd⟩ := Kd.headL rfl hd
  obtain ⟨z3, f3, rfl, l3, hd⟩ := Kd.headL rfl hd
  obtain ⟨z4, f4, rfl, l4, hd⟩ := Kd.headL rfl hd
  obtain ⟨z5, f5, rfl, l5, hd⟩ := Kd.headL rfl hd
  obtain rfl := Kd.end_ hd
  obtain ⟨id, rfl, -⟩ := Kd.int_is i0
  obtain ⟨kd, rfl, -⟩ := Kd.int_is i1
  obtain ⟨own, rfl⟩ := Kd.bool_is i2
  obtain ⟨a, rfl, -⟩ := Kd.int_is k0
  obtain ⟨b, rfl, -⟩ := Kd.int_is k1
  obtain ⟨c, rfl, -⟩ := Kd.int_is k2
  obtain ⟨sb, rfl, -⟩ := Kd.int_is l0
  obtain ⟨si, rfl, -⟩ := Kd.int_is l1
  obtain ⟨sr, rfl, -⟩ := Kd.int_is l2
  obtain ⟨ev, rfl, -⟩ := Kd.int_is l3
  obtain ⟨wa, rfl, -⟩ := Kd.int_is l4
  obtain ⟨sl, rfl, -⟩ := Kd.int_is l5
  exact ⟨id, kd, own, a, b, c, sb, si, sr, ev, wa, sl, rfl⟩
theorem Sm.past {w w' : World} {s l t r base : Nat} {F : Nat → Prop} {id kd z cp st : Int} {own : Bool} {B : List UInt8} {L : List ByteArray} {wn A S D : Int} {en ou : Bool} (h : Sm w s l t r base F id kd own z cp st B L wn en ou A S D) (hb : Below w.heap.size w w') : Sm w' s l t r base F id kd own z cp st B L wn en ou A S D :=
  ⟨h.blk.below hb h.blk.lt, Blk.below h.life hb (Blk.lt h.life), h.tx.off (Only.ofB hb) (fun k hk e => by have := (h.tx.fp k hk).2; omega), h.hs, h.hl, h.fl, h.fs, h.ls⟩
theorem okB12 : okB 1 2 = true := by decide
theorem okB13 : okB 1 3 = true := by decide
set_option maxRecDepth 100000 in
set_option maxHeartbeats 8000000 in
theorem streamMakes_walk (v0 : Value) (w : World) (h0 : Kd.Fit w (.agg [.int .i64, .int .i64, .bool, .agg [.agg [.int .i64, .int .i64, .int .i64], .int .i64, .int .i64, .int .i64, .int .i64, .int .i64, .int .i64]]) v0) (hT : Fol w) :
    Calls Tryd.prog 3 #[v0] w fun e w' => e = .returned (.bool true) ∧ Below w.heap.size w w' := by
  obtain ⟨id, kd, own, a, b, c, sb, si, sr, ev, wa, sl, rfl⟩ := Kd.four h0
  clear h0
  go_enter Tryd.func3, Tryd.ntmps3
  go_wp2
  go_region
  obtain ⟨W0, hW0⟩ : ∃ W0, W0 = ((w.alloc (.cells (foC id kd own a b c sb si sr ev wa sl) 27)).alloc (.cells (cfC a b c sb si sr ev wa sl) 25)).drew := ⟨_, rfl⟩
  rw [← hW0]
  have HO := Lib.hid (show Only Nil w W0 from by rw [hW0]; exact (((Only.refl Nil w).alloc _).alloc _).drew)
  have hC := Lib.hid (show Blk W0 (w.heap.size + 1) 25 (cfC a b c sb si sr ev wa sl) from by
    rw [hW0]
    have e : (w.alloc (.cells (foC id kd own a b c sb si sr ev wa sl) 27)).heap.size = w.heap.size + 1 := by simp
    have h := Blk.new (w.alloc (.cells (foC id kd own a b c sb si sr ev wa sl) 27)) 25 (cfC a b c sb si sr ev wa sl)
    rw [e] at h
    exact h.drew)
  have hF := Lib.hid (show Fol W0 from hT.kept HO.out (fun hh => hh))
  have k0 := hC.out.cell 0
  have k1 := hC.out.cell 1
  have k2 := hC.out.cell 2
  have k3 := hC.out.cell 3
  have k4 := hC.out.cell 4
  have k5 := hC.out.cell 5
  have k6 := hC.out.cell 6
  have k7 := hC.out.cell 7
  have k8 := hC.out.cell 8
  have kz := hC.out.lt
  have hR := Lib.hid (fun W => Right_any a b c W)
  clear hT hW0
  by_cases i0 : id < 1
  · have hcp : (if kd = 2 then si else sb) = (if kd = 2 then si else sb) := rfl
    have hE : newE id kd (if kd = 2 then si else sb) sr (rightB a b c) = 2 := by unfold newE; rw [if_pos (.inl i0)]
    as_aux_lemma =>
      have hN := Lib.hid (SNew_bad id _ own a b c sb si sr ev wa sl _ 2 W0 hcp hE (by decide))
      unfold BadSm at hN
      clear hE hcp
      go_wp2_with (first
        | (go_at_call 8; (with_reducible refine (hN.out).mono ?_); rintro e w1 ⟨rfl, ho1⟩; have HO1 := Lib.hid (HO.out.trans ho1); have hF1 := Lib.hid (hF.out.kept ho1 (fun hh => hh)); have hC1 := hC.out.kept ho1 (fun hh => hh); have c0 := hC1.cell 0; have c1 := hC1.cell 1; have c2 := hC1.cell 2; have c3 := hC1.cell 3; have c4 := hC1.cell 4; have c5 := hC1.cell 5; have zc := hC1.lt; clear ho1 hC1)
        | (go_at_call 18; (with_reducible refine (hR.out _).mono ?_); rintro e w2 ⟨rfl, ho2⟩)
        | (go_at_call 10; (with_reducible refine (awake_any _ (by first | exact hF1.out | exact hF1.out.kept ho2 (fun hh => hh))).mono ?_); rintro e w3 ⟨rfl, hb3⟩)
        )
      go_ret
      first
        | exact ⟨rfl, (HO1.out.below (Nat.le_refl _) (fun _ _ hh => hh)).trans (hb3.mono HO1.out.size)⟩
        | exact ⟨rfl, ((HO1.out.trans ho2).below (Nat.le_refl _) (fun _ _ hh => hh)).trans (hb3.mono (HO1.out.trans ho2).size)⟩
  by_cases i1 : 2147483647 < id
  · have hcp : (if kd = 2 then si else sb) = (if kd = 2 then si else sb) := rfl
    have hE : newE id kd (if kd = 2 then si else sb) sr (rightB a b c) = 2 := by unfold newE; rw [if_pos (.inr i1)]
    as_aux_lemma =>
      have hN := Lib.hid (SNew_bad id _ own a b c sb si sr ev wa sl _ 2 W0 hcp hE (by decide))
      unfold BadSm at hN
      clear hE hcp
      go_wp2_with (first
        | (go_at_call 8; (with_reducible refine (hN.out).mono ?_); rintro e w1 ⟨rfl, ho1⟩; have HO1 := Lib.hid (HO.out.trans ho1); have hF1 := Lib.hid (hF.out.kept ho1 (fun hh => hh)); have hC1 := hC.out.kept ho1 (fun hh => hh); have c0 := hC1.cell 0; have c1 := hC1.cell 1; have c2 := hC1.cell 2; have c3 := hC1.cell 3; have c4 := hC1.cell 4; have c5 := hC1.cell 5; have zc := hC1.lt; clear ho1 hC1)
        | (go_at_call 18; (with_reducible refine (hR.out _).mono ?_); rintro e w2 ⟨rfl, ho2⟩)
        | (go_at_call 10; (with_reducible refine (awake_any _ (by first | exact hF1.out | exact hF1.out.kept ho2 (fun hh => hh))).mono ?_); rintro e w3 ⟨rfl, hb3⟩)
        )
      go_ret
      first
        | exact ⟨rfl, (HO1.out.below (Nat.le_refl _) (fun _ _ hh => hh)).trans (hb3.mono HO1.out.size)⟩
        | exact ⟨rfl, ((HO1.out.trans ho2).below (Nat.le_refl _) (fun _ _ hh => hh)).trans (hb3.mono (HO1.out.trans ho2).size)⟩
  have hid : ¬ (id < 1 ∨ 2147483647 < id) := by omega
  by_cases k12 : kd ≠ 1 ∧ kd ≠ 2
  · have hcp : (if kd = 2 then si else sb) = (if kd = 2 then si else sb) := rfl
    have hE : newE id kd (if kd = 2 then si else sb) sr (rightB a b c) = 13 := by
      have h1 : rightE kd (if kd = 2 then si else sb) sr = 13 := by unfold rightE; rw [if_pos k12]
      unfold newE; rw [if_neg hid, h1]; rfl
    have e1 : (kd != 1) = true := by simpa using k12.1
    have e2 : (kd != 2) = true := by simpa using k12.2
    clear k12 hid
    as_aux_lemma =>
      have hN := Lib.hid (SNew_bad id _ own a b c sb si sr ev wa sl _ 13 W0 hcp hE (by decide))
      unfold BadSm at hN
      clear hE hcp
      go_wp2_with (first
        | (go_at_call 8; (with_reducible refine (hN.out).mono ?_); rintro e w1 ⟨rfl, ho1⟩; have HO1 := Lib.hid (HO.out.trans ho1); have hF1 := Lib.hid (hF.out.kept ho1 (fun hh => hh)); have hC1 := hC.out.kept ho1 (fun hh => hh); have c0 := hC1.cell 0; have c1 := hC1.cell 1; have c2 := hC1.cell 2; have c3 := hC1.cell 3; have c4 := hC1.cell 4; have c5 := hC1.cell 5; have zc := hC1.lt; clear ho1 hC1)
        | (go_at_call 18; (with_reducible refine (hR.out _).mono ?_); rintro e w2 ⟨rfl, ho2⟩)
        | (go_at_call 10; (with_reducible refine (awake_any _ (by first | exact hF1.out | exact hF1.out.kept ho2 (fun hh => hh))).mono ?_); rintro e w3 ⟨rfl, hb3⟩)
        )
      go_ret
      first
        | exact ⟨rfl, (HO1.out.below (Nat.le_refl _) (fun _ _ hh => hh)).trans (hb3.mono HO1.out.size)⟩
        | exact ⟨rfl, ((HO1.out.trans ho2).below (Nat.le_refl _) (fun _ _ hh => hh)).trans (hb3.mono (HO1.out.trans ho2).size)⟩
  by_cases kk : kd = 1
  · subst kk
    have hcp : sb = (if (1 : Int) = 2 then si else sb) := by rw [if_neg (by decide)]
    clear k12
    by_cases b0 : sb < 0
    · have hE : newE id 1 sb sr (rightB a b c) = 3 := by
        have h1 : rightE 1 sb sr = 3 := by unfold rightE; rw [if_neg (by decide), if_pos (.inl b0)]
        unfold newE; rw [if_neg hid, h1]; rfl
      clear hid
      as_aux_lemma =>
        have hN := Lib.hid (SNew_bad id _ own a b c sb si sr ev wa sl _ 3 W0 hcp hE (by decide))
        unfold BadSm at hN
        clear hE hcp
        go_wp2_with (first
          | (go_at_call 8; (with_reducible refine (hN.out).mono ?_); rintro e w1 ⟨rfl, ho1⟩; have HO1 := Lib.hid (HO.out.trans ho1); have hF1 := Lib.hid (hF.out.kept ho1 (fun hh => hh)); have hC1 := hC.out.kept ho1 (fun hh => hh); have c0 := hC1.cell 0; have c1 := hC1.cell 1; have c2 := hC1.cell 2; have c3 := hC1.cell 3; have c4 := hC1.cell 4; have c5 := hC1.cell 5; have zc := hC1.lt; clear ho1 hC1)
          | (go_at_call 18; (with_reducible refine (hR.out _).mono ?_); rintro e w2 ⟨rfl, ho2⟩)
          | (go_at_call 10; (with_reducible refine (awake_any _ (by first | exact hF1.out | exact hF1.out.kept ho2 (fun hh => hh))).mono ?_); rintro e w3 ⟨rfl, hb3⟩)
          )
        go_ret
        first
          | exact ⟨rfl, (HO1.out.below (Nat.le_refl _) (fun _ _ hh => hh)).trans (hb3.mono HO1.out.size)⟩
          | exact ⟨rfl, ((HO1.out.trans ho2).below (Nat.le_refl _) (fun _ _ hh => hh)).trans (hb3.mono (HO1.out.trans ho2).size)⟩
    by_cases b1 : 4096 < sb
    · have hE : newE id 1 sb sr (rightB a b c) = 3 := by
        have h1 : rightE 1 sb sr = 3 := by unfold rightE; rw [if_neg (by decide), if_pos (.inr (.inl ⟨rfl, b1⟩))]
        unfold newE; rw [if_neg hid, h1]; rfl
      clear hid
      as_aux_lemma =>
        have hN := Lib.hid (SNew_bad id _ own a b c sb si sr ev wa sl _ 3 W0 hcp hE (by decide))
        unfold BadSm at hN
        clear hE hcp
        go_wp2_with (first
          | (go_at_call 8; (with_reducible refine (hN.out).mono ?_); rintro e w1 ⟨rfl, ho1⟩; have HO1 := Lib.hid (HO.out.trans ho1); have hF1 := Lib.hid (hF.out.kept ho1 (fun hh => hh)); have hC1 := hC.out.kept ho1 (fun hh => hh); have c0 := hC1.cell 0; have c1 := hC1.cell 1; have c2 := hC1.cell 2; have c3 := hC1.cell 3; have c4 := hC1.cell 4; have c5 := hC1.cell 5; have zc := hC1.lt; clear ho1 hC1)
          | (go_at_call 18; (with_reducible refine (hR.out _).mono ?_); rintro e w2 ⟨rfl, ho2⟩)
          | (go_at_call 10; (with_reducible refine (awake_any _ (by first | exact hF1.out | exact hF1.out.kept ho2 (fun hh => hh))).mono ?_); rintro e w3 ⟨rfl, hb3⟩)
          )
        go_ret
        first
          | exact ⟨rfl, (HO1.out.below (Nat.le_refl _) (fun _ _ hh => hh)).trans (hb3.mono HO1.out.size)⟩
          | exact ⟨rfl, ((HO1.out.trans ho2).below (Nat.le_refl _) (fun _ _ hh => hh)).trans (hb3.mono (HO1.out.trans ho2).size)⟩
    have h1 : rightE 1 sb sr = 0 := by unfold rightE; rw [if_neg (by decide), if_neg (by omega), if_neg (by omega)]
    cases hrb : rightB a b c with
    | false =>
      have hE : newE id 1 sb sr (rightB a b c) = 3 := by unfold newE; rw [if_neg hid, h1, hrb]; rfl
      rw [hrb] at hR
      clear hid h1 hrb
      as_aux_lemma =>
        have hN := Lib.hid (SNew_bad id _ own a b c sb si sr ev wa sl _ 3 W0 hcp hE (by decide))
        unfold BadSm at hN
        clear hE hcp
        go_wp2_with (first
          | (go_at_call 8; (with_reducible refine (hN.out).mono ?_); rintro e w1 ⟨rfl, ho1⟩; have HO1 := Lib.hid (HO.out.trans ho1); have hF1 := Lib.hid (hF.out.kept ho1 (fun hh => hh)); have hC1 := hC.out.kept ho1 (fun hh => hh); have c0 := hC1.cell 0; have c1 := hC1.cell 1; have c2 := hC1.cell 2; have c3 := hC1.cell 3; have c4 := hC1.cell 4; have c5 := hC1.cell 5; have zc := hC1.lt; clear ho1 hC1)
          | (go_at_call 18; (with_reducible refine (hR.out _).mono ?_); rintro e w2 ⟨rfl, ho2⟩)
          | (go_at_call 10; (with_reducible refine (awake_any _ (by first | exact hF1.out | exact hF1.out.kept ho2 (fun hh => hh))).mono ?_); rintro e w3 ⟨rfl, hb3⟩)
          )
        go_ret
        first
          | exact ⟨rfl, (HO1.out.below (Nat.le_refl _) (fun _ _ hh => hh)).trans (hb3.mono HO1.out.size)⟩
          | exact ⟨rfl, ((HO1.out.trans ho2).below (Nat.le_refl _) (fun _ _ hh => hh)).trans (hb3.mono (HO1.out.trans ho2).size)⟩
    | true =>
      have hN := Lib.hid (SNew_ok id 1 own a b c sb si sr ev wa sl sb W0 hF.out (by omega) (by omega) (.inl ⟨rfl, rfl⟩) h1 hrb)
      unfold NewSm at hN
      have j0 : 1 ≤ id := by omega
      have j1 : id ≤ 2147483647 := by omega
      clear hid h1 hrb hR hcp i0 i1
      as_aux_lemma =>
        go_wp2_with (first
          | (go_at_call 8; (with_reducible refine (hN.out).mono ?_); rintro e w1 ⟨s, l, t, r, F, rfl, hs1, ho1⟩; have HS1 := Lib.hid hs1; have HO1 := Lib.hid (HO.out.trans ho1); have hF1 := Lib.hid (hF.out.kept ho1 (fun hh => hh)); obtain ⟨g0, g1, g2, g3, g4, zg⟩ := HS1.out.facts; clear hs1 ho1)
          | (go_at_call 9; (with_reducible refine (State_any l 1 _ HS1.out.life).mono ?_); rintro e w2 ⟨rfl, rfl⟩)
          | (go_at_call 10; (with_reducible refine (awake_any _ hF1.out).mono ?_); rintro e w3 ⟨rfl, hb3⟩; have HB3 := Lib.hid hb3; have HS3 := Lib.hid (HS1.out.past hb3); have hF3 := Lib.hid (hF1.out.kept (Only.ofB hb3) (fun hh => by have := hF1.out.lt; omega)); obtain ⟨p0, p1, p2, p3, p4, zp⟩ := HS3.out.facts; clear hb3)
          | (go_at_call 11; (with_reducible refine (SID_s HS3.out).mono ?_); rintro e w4 ⟨rfl, rfl⟩)
          | (go_at_call 12; (with_reducible refine (SKind_s HS3.out).mono ?_); rintro e w4 ⟨rfl, rfl⟩)
          | (go_at_call 13; (with_reducible refine (SOwn_s HS3.out).mono ?_); rintro e w4 ⟨rfl, rfl⟩)
          | (go_at_call 14; (with_reducible refine (MaySend_of _ 1 _ hF3.out (State_any l 1 _ HS3.out.life)).mono ?_); rintro e w5 ⟨rfl, ho5⟩; have HS5 := Lib.hid (HS3.out.kept ho5); have hF5 := Lib.hid (hF3.out.kept ho5 (fun hh => hh)); have HO5 := Lib.hid ho5; obtain ⟨q0, q1, q2, q3, q4, zq⟩ := HS5.out.facts; clear ho5)
          | (go_at_call 15; (with_reducible refine (MayRecv_of _ 1 _ hF5.out (State_any l 1 _ HS5.out.life)).mono ?_); rintro e w6 ⟨rfl, ho6⟩; have HS6 := Lib.hid (HS5.out.kept ho6); have HO6 := Lib.hid (HO5.out.trans ho6); clear ho6)
          | (go_at_call 16; (with_reducible refine (STx_s HS6.out).mono ?_); rintro e w7 ⟨rfl, rfl⟩)
          | (go_at_call 17; (with_reducible refine (SRx_s HS6.out).mono ?_); rintro e w7 ⟨rfl, rfl⟩)
          )
        go_ret
        have hA := HO1.out.below (Nat.le_refl _) (fun _ _ hh => hh)
        have hB := hA.trans (HB3.out.mono HO1.out.size)
        exact ⟨by first | rfl | simp [okB12, okB13], hB.trans (HO6.out.below hB.size (fun _ _ hh => hh))⟩
  · have k2d : kd = 2 := by omega
    subst k2d
    have hcp : si = (if (2 : Int) = 2 then si else sb) := by rw [if_pos rfl]
    clear k12 kk
    by_cases b0 : si < 0
    · have hE : newE id 2 si sr (rightB a b c) = 3 := by
        have h1 : rightE 2 si sr = 3 := by unfold rightE; rw [if_neg (by decide), if_pos (.inl b0)]
        unfold newE; rw [if_neg hid, h1]; rfl
      clear hid
      as_aux_lemma =>
        have hN := Lib.hid (SNew_bad id _ own a b c sb si sr ev wa sl _ 3 W0 hcp hE (by decide))
        unfold BadSm at hN
        clear hE hcp
        go_wp2_with (first
          | (go_at_call 8; (with_reducible refine (hN.out).mono ?_); rintro e w1 ⟨rfl, ho1⟩; have HO1 := Lib.hid (HO.out.trans ho1); have hF1 := Lib.hid (hF.out.kept ho1 (fun hh => hh)); have hC1 := hC.out.kept ho1 (fun hh => hh); have c0 := hC1.cell 0; have c1 := hC1.cell 1; have c2 := hC1.cell 2; have c3 := hC1.cell 3; have c4 := hC1.cell 4; have c5 := hC1.cell 5; have zc := hC1.lt; clear ho1 hC1)
          | (go_at_call 18; (with_reducible refine (hR.out _).mono ?_); rintro e w2 ⟨rfl, ho2⟩)
          | (go_at_call 10; (with_reducible refine (awake_any _ (by first | exact hF1.out | exact hF1.out.kept ho2 (fun hh => hh))).mono ?_); rintro e w3 ⟨rfl, hb3⟩)
          )
        go_ret
        first
          | exact ⟨rfl, (HO1.out.below (Nat.le_refl _) (fun _ _ hh => hh)).trans (hb3.mono HO1.out.size)⟩
          | exact ⟨rfl, ((HO1.out.trans ho2).below (Nat.le_refl _) (fun _ _ hh => hh)).trans (hb3.mono (HO1.out.trans ho2).size)⟩
    by_cases b1 : 64 < si
    · have hE : newE id 2 si sr (rightB a b c) = 3 := by
        have h1 : rightE 2 si sr = 3 := by unfold rightE; rw [if_neg (by decide), if_pos (.inr (.inr ⟨rfl, b1⟩))]
        unfold newE; rw [if_neg hid, h1]; rfl
      clear hid
      as_aux_lemma =>
        have hN := Lib.hid (SNew_bad id _ own a b c sb si sr ev wa sl _ 3 W0 hcp hE (by decide))
        unfold BadSm at hN
        clear hE hcp
        go_wp2_with (first
          | (go_at_call 8; (with_reducible refine (hN.out).mono ?_); rintro e w1 ⟨rfl, ho1⟩; have HO1 := Lib.hid (HO.out.trans ho1); have hF1 := Lib.hid (hF.out.kept ho1 (fun hh => hh)); have hC1 := hC.out.kept ho1 (fun hh => hh); have c0 := hC1.cell 0; have c1 := hC1.cell 1; have c2 := hC1.cell 2; have c3 := hC1.cell 3; have c4 := hC1.cell 4; have c5 := hC1.cell 5; have zc := hC1.lt; clear ho1 hC1)
          | (go_at_call 18; (with_reducible refine (hR.out _).mono ?_); rintro e w2 ⟨rfl, ho2⟩)
          | (go_at_call 10; (with_reducible refine (awake_any _ (by first | exact hF1.out | exact hF1.out.kept ho2 (fun hh => hh))).mono ?_); rintro e w3 ⟨rfl, hb3⟩)
          )
        go_ret
        first
          | exact ⟨rfl, (HO1.out.below (Nat.le_refl _) (fun _ _ hh => hh)).trans (hb3.mono HO1.out.size)⟩
          | exact ⟨rfl, ((HO1.out.trans ho2).below (Nat.le_refl _) (fun _ _ hh => hh)).trans (hb3.mono (HO1.out.trans ho2).size)⟩
    by_cases r0 : sr < 0
    · have hE : newE id 2 si sr (rightB a b c) = 2 := by
        have h1 : rightE 2 si sr = 2 := by unfold rightE; rw [if_neg (by decide), if_neg (by omega), if_pos ⟨rfl, .inl r0⟩]
        unfold newE; rw [if_neg hid, h1]; rfl
      clear hid
      as_aux_lemma =>
        have hN := Lib.hid (SNew_bad id _ own a b c sb si sr ev wa sl _ 2 W0 hcp hE (by decide))
        unfold BadSm at hN
        clear hE hcp
        go_wp2_with (first
          | (go_at_call 8; (with_reducible refine (hN.out).mono ?_); rintro e w1 ⟨rfl, ho1⟩; have HO1 := Lib.hid (HO.out.trans ho1); have hF1 := Lib.hid (hF.out.kept ho1 (fun hh => hh)); have hC1 := hC.out.kept ho1 (fun hh => hh); have c0 := hC1.cell 0; have c1 := hC1.cell 1; have c2 := hC1.cell 2; have c3 := hC1.cell 3; have c4 := hC1.cell 4; have c5 := hC1.cell 5; have zc := hC1.lt; clear ho1 hC1)
          | (go_at_call 18; (with_reducible refine (hR.out _).mono ?_); rintro e w2 ⟨rfl, ho2⟩)
          | (go_at_call 10; (with_reducible refine (awake_any _ (by first | exact hF1.out | exact hF1.out.kept ho2 (fun hh => hh))).mono ?_); rintro e w3 ⟨rfl, hb3⟩)
          )
        go_ret
        first
          | exact ⟨rfl, (HO1.out.below (Nat.le_refl _) (fun _ _ hh => hh)).trans (hb3.mono HO1.out.size)⟩
          | exact ⟨rfl, ((HO1.out.trans ho2).below (Nat.le_refl _) (fun _ _ hh => hh)).trans (hb3.mono (HO1.out.trans ho2).size)⟩
    by_cases r1 : 2 < sr
    · have hE : newE id 2 si sr (rightB a b c) = 2 := by
        have h1 : rightE 2 si sr = 2 := by unfold rightE; rw [if_neg (by decide), if_neg (by omega), if_pos ⟨rfl, .inr r1⟩]
        unfold newE; rw [if_neg hid, h1]; rfl
      clear hid
      as_aux_lemma =>
        have hN := Lib.hid (SNew_bad id _ own a b c sb si sr ev wa sl _ 2 W0 hcp hE (by decide))
        unfold BadSm at hN
        clear hE hcp
        go_wp2_with (first
          | (go_at_call 8; (with_reducible refine (hN.out).mono ?_); rintro e w1 ⟨rfl, ho1⟩; have HO1 := Lib.hid (HO.out.trans ho1); have hF1 := Lib.hid (hF.out.kept ho1 (fun hh => hh)); have hC1 := hC.out.kept ho1 (fun hh => hh); have c0 := hC1.cell 0; have c1 := hC1.cell 1; have c2 := hC1.cell 2; have c3 := hC1.cell 3; have c4 := hC1.cell 4; have c5 := hC1.cell 5; have zc := hC1.lt; clear ho1 hC1)
          | (go_at_call 18; (with_reducible refine (hR.out _).mono ?_); rintro e w2 ⟨rfl, ho2⟩)
          | (go_at_call 10; (with_reducible refine (awake_any _ (by first | exact hF1.out | exact hF1.out.kept ho2 (fun hh => hh))).mono ?_); rintro e w3 ⟨rfl, hb3⟩)
          )
        go_ret
        first
          | exact ⟨rfl, (HO1.out.below (Nat.le_refl _) (fun _ _ hh => hh)).trans (hb3.mono HO1.out.size)⟩
          | exact ⟨rfl, ((HO1.out.trans ho2).below (Nat.le_refl _) (fun _ _ hh => hh)).trans (hb3.mono (HO1.out.trans ho2).size)⟩
    have h1 : rightE 2 si sr = 0 := by unfold rightE; rw [if_neg (by decide), if_neg (by omega), if_neg (by omega)]
    cases hrb : rightB a b c with
    | false =>
      have hE : newE id 2 si sr (rightB a b c) = 3 := by unfold newE; rw [if_neg hid, h1, hrb]; rfl
      rw [hrb] at hR
      clear hid h1 hrb
      as_aux_lemma =>
        have hN := Lib.hid (SNew_bad id _ own a b c sb si sr ev wa sl _ 3 W0 hcp hE (by decide))
        unfold BadSm at hN
        clear hE hcp
        go_wp2_with (first
          | (go_at_call 8; (with_reducible refine (hN.out).mono ?_); rintro e w1 ⟨rfl, ho1⟩; have HO1 := Lib.hid (HO.out.trans ho1); have hF1 := Lib.hid (hF.out.kept ho1 (fun hh => hh)); have hC1 := hC.out.kept ho1 (fun hh => hh); have c0 := hC1.cell 0; have c1 := hC1.cell 1; have c2 := hC1.cell 2; have c3 := hC1.cell 3; have c4 := hC1.cell 4; have c5 := hC1.cell 5; have zc := hC1.lt; clear ho1 hC1)
          | (go_at_call 18; (with_reducible refine (hR.out _).mono ?_); rintro e w2 ⟨rfl, ho2⟩)
          | (go_at_call 10; (with_reducible refine (awake_any _ (by first | exact hF1.out | exact hF1.out.kept ho2 (fun hh => hh))).mono ?_); rintro e w3 ⟨rfl, hb3⟩)
          )
        go_ret
        first
          | exact ⟨rfl, (HO1.out.below (Nat.le_refl _) (fun _ _ hh => hh)).trans (hb3.mono HO1.out.size)⟩
          | exact ⟨rfl, ((HO1.out.trans ho2).below (Nat.le_refl _) (fun _ _ hh => hh)).trans (hb3.mono (HO1.out.trans ho2).size)⟩
    | true =>
      have hN := Lib.hid (SNew_ok id 2 own a b c sb si sr ev wa sl si W0 hF.out (by omega) (by omega) (.inr ⟨rfl, rfl⟩) h1 hrb)
      unfold NewSm at hN
      have j0 : 1 ≤ id := by omega
      have j1 : id ≤ 2147483647 := by omega
      clear hid h1 hrb hR hcp i0 i1
      as_aux_lemma =>
        go_wp2_with (first
          | (go_at_call 8; (with_reducible refine (hN.out).mono ?_); rintro e w1 ⟨s, l, t, r, F, rfl, hs1, ho1⟩; have HS1 := Lib.hid hs1; have HO1 := Lib.hid (HO.out.trans ho1); have hF1 := Lib.hid (hF.out.kept ho1 (fun hh => hh)); obtain ⟨g0, g1, g2, g3, g4, zg⟩ := HS1.out.facts; clear hs1 ho1)
          | (go_at_call 9; (with_reducible refine (State_any l 1 _ HS1.out.life).mono ?_); rintro e w2 ⟨rfl, rfl⟩)
          | (go_at_call 10; (with_reducible refine (awake_any _ hF1.out).mono ?_); rintro e w3 ⟨rfl, hb3⟩; have HB3 := Lib.hid hb3; have HS3 := Lib.hid (HS1.out.past hb3); have hF3 := Lib.hid (hF1.out.kept (Only.ofB hb3) (fun hh => by have := hF1.out.lt; omega)); obtain ⟨p0, p1, p2, p3, p4, zp⟩ := HS3.out.facts; clear hb3)
          | (go_at_call 11; (with_reducible refine (SID_s HS3.out).mono ?_); rintro e w4 ⟨rfl, rfl⟩)
          | (go_at_call 12; (with_reducible refine (SKind_s HS3.out).mono ?_); rintro e w4 ⟨rfl, rfl⟩)
          | (go_at_call 13; (with_reducible refine (SOwn_s HS3.out).mono ?_); rintro e w4 ⟨rfl, rfl⟩)
          | (go_at_call 14; (with_reducible refine (MaySend_of _ 1 _ hF3.out (State_any l 1 _ HS3.out.life)).mono ?_); rintro e w5 ⟨rfl, ho5⟩; have HS5 := Lib.hid (HS3.out.kept ho5); have hF5 := Lib.hid (hF3.out.kept ho5 (fun hh => hh)); have HO5 := Lib.hid ho5; obtain ⟨q0, q1, q2, q3, q4, zq⟩ := HS5.out.facts; clear ho5)
          | (go_at_call 15; (with_reducible refine (MayRecv_of _ 1 _ hF5.out (State_any l 1 _ HS5.out.life)).mono ?_); rintro e w6 ⟨rfl, ho6⟩; have HS6 := Lib.hid (HS5.out.kept ho6); have HO6 := Lib.hid (HO5.out.trans ho6); clear ho6)
          | (go_at_call 16; (with_reducible refine (STx_s HS6.out).mono ?_); rintro e w7 ⟨rfl, rfl⟩)
          | (go_at_call 17; (with_reducible refine (SRx_s HS6.out).mono ?_); rintro e w7 ⟨rfl, rfl⟩)
          )
        go_ret
        have hA := HO1.out.below (Nat.le_refl _) (fun _ _ hh => hh)
        have hB := hA.trans (HB3.out.mono HO1.out.size)
        exact ⟨by first | rfl | simp [okB12, okB13], hB.trans (HO6.out.below hB.size (fun _ _ hh => hh))⟩
/-! The step from the walk to the statement of StreamMakes. -/
namespace frStreamMakes
open Go.ChangeShapes Go.WideShapes Go.ChangeAt Go.RowKit
set_option linter.unusedVariables false
theorem own : ownKnob Tryd.prog.godebug = none := by kernel_rfl
theorem laidOut : laidOutB Tryd.prog = true := by kernel_rfl
theorem shape0 : Kd.ok Tryd.prog (.agg [.int .i64, .int .i64, .bool, .agg [.agg [.int .i64, .int .i64, .int .i64], .int .i64, .int .i64, .int .i64, .int .i64, .int .i64, .int .i64]]) 27 = true := by kernel_rfl
theorem tabs {W : World} (h : laidMetH Tryd.prog Rows.streamMakesRow.laid W) : Tab W 0 tab_life_follows := by
  have h0 : laidMet Tryd.prog [("paternoster/life.follows", Rows.laid_paternoster_life_follows)] W := h
  obtain ⟨t0, h1⟩ := Tab.of_var tab_life_follows_g tab_life_follows_ty tab_life_follows_ok tab_life_follows_vals (by decide) h0
  exact t0
set_option maxRecDepth 100000 in
theorem contract (H : Type) (enc : TypeId × Value → H) (W : World) (base : Nat) (args : Array Value) (ds gs : List (DataW H)) (before : List MemPlace)
    (hval : ∀ (j : Nat) t v, Tryd.f3.params[j]? = some t → args[j]? = some v → Value.okWide Tryd.prog W .any base t v)
    (hW : DataW.Whole enc Tryd.prog Tryd.f3.params.toList Rows.streamMakesSpec.vars false W args.toList ds gs before) (hL : laidMetH Tryd.prog Rows.streamMakesRow.laid W) :
    Calls Tryd.prog 3 args W fun e W' => ∃ v, e = .returned v ∧ Rows.streamMakesSpec.post enc Tryd.prog Tryd.f3 false true false false W args v W' := by
  have hT := tabs hL
  have hW' := hW
  obtain ⟨p, q, hA0, hV, rfl, hfz, hnd⟩ := hW
  have hA : DataW.TrodAll enc Tryd.prog W 0 (fun _ => true) true Tryd.f3.params.toList args.toList ds p := hA0
  rw [Tryd.params3] at hA hval
  obtain ⟨v0, vs0, d0, ds0, p0, q0, hargs, rfl, rfl, h0, r0⟩ := trodAll_cons hA
  obtain ⟨rfl, rfl, rfl⟩ := trodAll_nil r0
  obtain rfl : args = #[v0] := by cases args; simp_all
  obtain ⟨rfl, rfl⟩ := trodVars_none hV
  have k0 := Kd.fit _ shape0 (hval 0 27 v0 rfl rfl) h0
  have lt0 : ∀ x ∈ p0, x.block < W.heap.size := by obtain ⟨m, hm⟩ := h0; exact DataW.trod_lt m _ _ _ hm
  refine (streamMakes_walk v0 W k0 hT).mono fun e W' ⟨he, bel⟩ => ?_
  subst he
  exact ⟨_, rfl, _, _, _, [], _, [], hW', trodAll_mk1 (shut_bool Tryd.underlying4 _), (trodAll_cons_mk (Below.trod laidOut (by kernel_rfl) (of_decide_eq_true (by kernel_rfl)) h0 bel lt0) trodAll_mk0), rfl, bel.frame _, fun h => by cases h⟩
noncomputable def laidWorld (os : Os) : World := { World.holding Tryd.prog os ⟨#[], #[], []⟩ with heap := ((World.holding Tryd.prog os ⟨#[], #[], []⟩).heap.modify 0 fun | .cells _ t frozen => .cells tab_life_follows t frozen | o => o) }
theorem laid_met (os : Os) : laidMet Tryd.prog Rows.streamMakesRow.laid ((laidWorld os).forCall (fun _ _ => 0) ⟨#[], #[.agg #[.int .i64 0, .int .i64 0, .bool false, .int .i64 0, .int .i64 0, .int .i64 0, .int .i64 0, .int .i64 0, .int .i64 0, .int .i64 0, .int .i64 0, .int .i64 0]], []⟩).memory :=
  laidMet_of_run' 8 (by kernel_rfl) (by kernel_rfl)
theorem reads (os : Os) {H : Type} (enc : TypeId × Value → H) : ∃ places, DataW.whole enc Tryd.prog ((laidWorld os).forCall (fun _ _ => 0) ⟨#[], #[.agg #[.int .i64 0, .int .i64 0, .bool false, .int .i64 0, .int .i64 0, .int .i64 0, .int .i64 0, .int .i64 0, .int .i64 0, .int .i64 0, .int .i64 0, .int .i64 0]], []⟩).memory Tryd.f3.params.toList Rows.streamMakesSpec.vars false (#[.agg #[.int .i64 0, .int .i64 0, .bool false, .int .i64 0, .int .i64 0, .int .i64 0, .int .i64 0, .int .i64 0, .int .i64 0, .int .i64 0, .int .i64 0, .int .i64 0]] : Array Value).toList 8 = some ([.agg [.lit (.int .i64 0), .lit (.int .i64 0), .lit (.bool false), .agg [.agg [.lit (.int .i64 0), .lit (.int .i64 0), .lit (.int .i64 0)], .lit (.int .i64 0), .lit (.int .i64 0), .lit (.int .i64 0), .lit (.int .i64 0), .lit (.int .i64 0), .lit (.int .i64 0)]]], [], places) :=
  ⟨[], by kernel_rfl⟩
set_option maxRecDepth 100000 in
theorem lifted (os : Os) (started : os.Started) (H : Type) (enc : TypeId × Value → H) (F : Stop.Interp) :
    ReturnsInHanded {} Tryd.checked os 3 .any ((OpenSpec.ofChange Rows.streamMakesSpec).preRow enc Tryd.prog Tryd.f3 Rows.streamMakesRow.domain false Rows.streamMakesRow.laid) (((OpenSpec.ofChange Rows.streamMakesSpec).at F).post enc Tryd.prog Tryd.f3 false true false false) := by
  obtain ⟨places, hx⟩ := reads os enc
  refine returnsInHanded_of_row (C := Tryd.checked) (s := (OpenSpec.ofChange Rows.streamMakesSpec)) own started (by kernel_rfl) Tryd.func3
    (witness_row_at (enc := enc) (C := Tryd.checked) false (laidWorld os) #[.agg #[.int .i64 0, .int .i64 0, .bool false, .int .i64 0, .int .i64 0, .int .i64 0, .int .i64 0, .int .i64 0, .int .i64 0, .int .i64 0, .int .i64 0, .int .i64 0]] rfl (by kernel_rfl) (by kernel_rfl) (by kernel_rfl)
      (OpenSpec.preRow_of_cond 8 hx (by kernel_rfl) (fun k hk => by cases hk) (by kernel_rfl) (laid_met os))) ?_
  intro W base args ds gs before hval hW _ _ _ hL _ _
  exact contract H enc W base args ds gs before hval hW hL
theorem said : Rows.StreamMakesSaid :=
  OpenClaim.holds_of_cond 3 Tryd.f3 rfl rfl rfl rfl rfl rfl rfl ⟨rfl, rfl, rfl, rfl, rfl⟩ rfl rfl rfl rfl rfl (by kernel_rfl) Tryd.func3 (by kernel_rfl)
    (of_decide_eq_true (by kernel_rfl)) (by unfold Func.isWrapper; first | (rw [if_pos (by decide +kernel)]; kernel_rfl) | (rw [if_neg (by decide +kernel)]; exact ⟨rfl, rfl⟩))
    (fun os started H enc _ F => by rw [OpenClaim.pre_eq_preRow]; exact lifted os started H enc F)
theorem plain (f : FuncId) (fn : Func) (hf : Tryd.pinned.checked.prog.funcNamed "paternoster/paternosterlaw24.StreamMakes" = some f) (hfn : Tryd.pinned.checked.prog.funcs[f]? = some fn) :
    false = Tryd.pinned.checked.prog.looks [] ∧ ∀ (j : Nat) t, fn.params[j]? = some t → Tryd.pinned.checked.prog.wantsStandIn t = false := by
  obtain rfl : f = 3 := Option.some.inj ((show Tryd.prog.funcNamed "paternoster/paternosterlaw24.StreamMakes" = some 3 by kernel_rfl).symm.trans hf) |>.symm
  obtain rfl : fn = Tryd.f3 := (Option.some.inj (Tryd.func3.symm.trans hfn)).symm
  refine ⟨by kernel_rfl, fun j t ht => ?_⟩
  rw [Tryd.params3] at ht
  have hm : t ∈ [27] := by simpa using Array.mem_of_getElem? ht
  simp only [List.mem_cons, List.not_mem_nil, or_false] at hm
  subst hm
  exact (show Tryd.prog.wantsStandIn 27 = false by kernel_rfl)
theorem proved : Rows.StreamMakesCardSaid :=
  Claim7.holds_tied_plain_at .later [] _ _ _ _ said (fun _ h => by cases h) (by kernel_rfl) (fun _ h => by cases h) streamMakes_row_tie rfl ⟨rfl, rfl⟩ (by kernel_rfl) rfl plain (by kernel_rfl)
end frStreamMakes
end Go.Proofs.YtjhjfgelcbphjaaDoor
